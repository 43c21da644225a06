/- A number of apportionref01 in memory: its cells. Contract of Num.zero and Num.carried. Contract of Num.carried: digits brought below 2^16, no sign of nothing. Condition: digits from 0 to 2^40, a value below 2^192. Contracts of apportionref01's Of, Num.Less, size, Sgn, Int and told. Conditions: numbers below 2^192 in size. Contracts of apportionref01's Num.Int, told and Num.Plus. Conditions: numbers below 2^192 in size. Contract of apportionref01's Num.Plus: the sum. Condition: both numbers and their sum are below 2^192 in size. Contract of apportionref01's Num.Mul: the product. Condition: both numbers are below 2^64 in size. Contract of apportionref01's Num.parts: how often one size goes into another, and how far the rest is from a half. Conditions: the numbers are below 2^128 and 2^64 in size, the second one is not nought. Contracts of apportionref01's Sign, Add and Even. Conditions: the arguments are ints. Contracts of apportionref01's Sign and Add. Conditions: the arguments are ints. -/
import Derived.Test.YthphdiigjimchaaGreatKitOne
import Derived.Test.YthphdiigjimchaaGreatNumMath
import Derived.Test.YthphdiigjimchaaGreatProg
import Derived.RegionTactic
import Derived.BigRegion
import Derived.Test.YthphdiigjimchaaGreatDivAll
import Derived.Deep.RegionWith
import Derived.Test.YthphdiigjimchaaGreatKitTwo
namespace Go.Proofs.YthphdiigjimchaaGreat
section
set_option linter.unusedVariables false
set_option linter.unusedSimpArgs false
open Go.RowKit
def numCells (b : Bool) (ds : List Int) : Array Value := (Value.bool b :: ds.map (Value.int .i64)).toArray
def numOf (b : Bool) (ds : List Int) : Value := .agg (numCells b ds)
def num (z : Int) : Value := numOf (decide (z < 0)) (digs 12 z.natAbs)
@[go_sem] theorem numCells_size (b : Bool) (ds : List Int) : (numCells b ds).size = ds.length + 1 := by simp [numCells]
@[go_sem] theorem numCells_get (b : Bool) (ds : List Int) (i : Nat) (h : i < ds.length) : (numCells b ds)[1 + i]? = some (.int .i64 (ds.getD i 0)) := by
  rw [Nat.add_comm]; simp [numCells, List.getD_eq_getElem?_getD, h]
@[go_sem] theorem numCells_set (b : Bool) (ds : List Int) (i : Nat) (v : Int) : (numCells b ds).setIfInBounds (1 + i) (.int .i64 v) = numCells b (ds.set i v) := by
  rw [Nat.add_comm]; simp [numCells, List.map_set]
def dz (d0 d1 d2 d3 d4 d5 d6 d7 d8 d9 d10 d11 : Int) : Bool := (d0 == 0) && (d1 == 0) && (d2 == 0) && (d3 == 0) && (d4 == 0) && (d5 == 0) && (d6 == 0) && (d7 == 0) && (d8 == 0) && (d9 == 0) && (d10 == 0) && (d11 == 0)
set_option maxHeartbeats 1000000 in
@[go_sem] theorem eq12 (d0 d1 d2 d3 d4 d5 d6 d7 d8 d9 d10 d11 : Int) (w : World) : (Op.equalIn 10000 211 (.agg #[.int .i64 d0, .int .i64 d1, .int .i64 d2, .int .i64 d3, .int .i64 d4, .int .i64 d5, .int .i64 d6, .int .i64 d7, .int .i64 d8, .int .i64 d9, .int .i64 d10, .int .i64 d11]) (.agg #[.int .i64 0, .int .i64 0, .int .i64 0, .int .i64 0, .int .i64 0, .int .i64 0, .int .i64 0, .int .i64 0, .int .i64 0, .int .i64 0, .int .i64 0, .int .i64 0])).run Tryz.prog w = .ok (dz d0 d1 d2 d3 d4 d5 d6 d7 d8 d9 d10 d11) w := by
  have u3 := Tryz.underlying3
  have a3 := Tryz.isAgg3
  have z3 := Tryz.sizeOf3
  rw [show (10000 : Nat) = 9999 + 1 from rfl, Op.equalIn]
  simp only [Sem.run_bind, run_underlying Tryz.underlying211, Result.andThen_ok]
  simp only [Std.Legacy.Range.forIn_eq_forIn_range', Std.Legacy.Range.size, Nat.sub_zero, Nat.add_sub_cancel, Nat.div_one, List.range'_succ, List.range'_zero, List.forIn_cons, List.forIn_nil]
  unfold dz
  go_simp
  (repeat' split) <;> simp_all
set_option maxHeartbeats 400000 in
theorem r_zero0 (b : Bool) (d0 d1 d2 d3 d4 d5 d6 d7 d8 d9 d10 d11 : Int) (w : World) :
    Calls Tryz.prog 205 #[.agg #[.bool b, .int .i64 d0, .int .i64 d1, .int .i64 d2, .int .i64 d3, .int .i64 d4, .int .i64 d5, .int .i64 d6, .int .i64 d7, .int .i64 d8, .int .i64 d9, .int .i64 d10, .int .i64 d11]] w fun e w' => e = .returned (.bool (dz d0 d1 d2 d3 d4 d5 d6 d7 d8 d9 d10 d11)) ∧ Junk w w' := by
  go_enter Tryz.func205, Tryz.ntmps205
  go_wp2_with fail
  go_ret
  exact ⟨rfl, junk_of_below (by (repeat' first | with_reducible (first | apply Below.refl | assumption | apply bw_a | apply bw_d | apply bw_n | apply bw_p | apply bw_c | apply bw_r) | go_size))⟩
theorem wpList_num_load {ops : Array Oper} {rest : List Oper} {o : Oper} {a : Act} {w : World} {Q : Exit → Act → World → Prop} (hgd : o.guard = none) (x : Operand) (ho : o.op = .load 213 x)
    (g : Nat) (hx : a.eval x = .pointer (some ⟨g, 0, none⟩)) (ha : (w.rowAt g).any (fun c => c.size == 13) = true)
    (h : ∀ c, w.rowAt g = some c → wpList Tryz.prog ops Q rest (a.put o.dst (.agg c)) w) : wpList Tryz.prog ops Q (o :: rest) a w := by
  cases hr : w.rowAt g with
  | none => rw [hr] at ha; simp at ha
  | some c =>
    rw [hr] at ha
    obtain ⟨t, hg⟩ := rowAt_some hr
    exact wpList_load_row hgd _ x ho g hx t c (0, 0) _ hg Tryz.underlying213 rfl (by rw [show c.size = 13 by simpa using ha]; kernel_rfl) (h c hr)
theorem numCells_one (b : Bool) (ds : List Int) : (numCells b ds).all (·.oneCell') = true := by
  simp [numCells, Value.oneCell']
theorem wpList_num_store {ops : Array Oper} {rest : List Oper} {o : Oper} {a : Act} {w : World} {Q : Exit → Act → World → Prop} (hgd : o.guard = none) (x y : Operand) (ho : o.op = .store 213 x y)
    (g : Nat) (hx : a.eval x = .pointer (some ⟨g, 0, none⟩)) (b : Bool) (ds : List Int) (hy : a.eval y = numOf b ds) (hl : ds.length = 12) (ha : (w.rowAt g).any (fun c => c.size == 13) = true)
    (h : wpList Tryz.prog ops Q rest (a.put o.dst undef) (w.setRow g (numCells b ds))) : wpList Tryz.prog ops Q (o :: rest) a w := by
  cases hr : w.rowAt g with
  | none => rw [hr] at ha; simp at ha
  | some c =>
    rw [hr] at ha
    obtain ⟨t, hg⟩ := rowAt_some hr
    exact wpList_plain hgd fun _ hK => wp_store_row _ x y ho g (numCells b ds) hx hy t c hg (by rw [numCells_size, hl]; kernel_rfl) (by rw [numCells_size, hl]; simpa using ha) (numCells_one b ds) (hK _ _ h)
@[go_sem] theorem numCells_sign (b c : Bool) (ds : List Int) : (numCells b ds).setIfInBounds 0 (.bool c) = numCells c ds := by simp [numCells]
@[go_sem] theorem numCells_zero (b : Bool) (ds : List Int) : (numCells b ds)[0]? = some (.bool b) := by simp [numCells]
@[go_sem] theorem numCells_zero' (b : Bool) (ds : List Int) (h : 0 < (numCells b ds).size) : (numCells b ds)[0] = .bool b := rfl
attribute [go_sem] digs_len
def allZero (ds : List Int) : Bool := ds.all (· == 0)
set_option maxHeartbeats 400000 in
theorem r_zero (b : Bool) (ds : List Int) (hl : ds.length = 12) (w : World) :
    Calls Tryz.prog 205 #[numOf b ds] w fun e w' => e = .returned (.bool (allZero ds)) ∧ Junk w w' := by
  match ds, hl with
  | [d0, d1, d2, d3, d4, d5, d6, d7, d8, d9, d10, d11], _ =>
    refine (r_zero0 b d0 d1 d2 d3 d4 d5 d6 d7 d8 d9 d10 d11 w).mono ?_
    rintro e w' ⟨rfl, h⟩
    exact ⟨retb (by simp [dz, allZero, Bool.and_assoc]), h⟩
end

section
set_option linter.unusedVariables false
set_option linter.unusedSimpArgs false
open Go.RowKit
theorem bodyPost_num {fn : Func} {R : Ending → World → Prop} {a : Act} {w : World} (p : Tmp) (h : fn.results = #[.cell p 213]) (g : Nat)
    (hp : a.tmps.getD p undef = .pointer (some ⟨g, 0, none⟩)) (ha : (w.rowAt g).any (fun c => c.size == 13) = true) (hd : a.defers = [])
    (hR : ∀ c, w.rowAt g = some c → R (.returned (.agg c)) w) : bodyPost Tryz.prog fn R .ret a w := by
  cases hr : w.rowAt g with
  | none => rw [hr] at ha; simp at ha
  | some c =>
    rw [hr] at ha
    obtain ⟨t, hg⟩ := rowAt_some hr
    exact bodyPost_ret (results_cell_row h _ _ g t c (0, 0) _ hp hg Tryz.underlying213 rfl (by rw [show c.size = 13 by simpa using ha]; kernel_rfl)) hd (hR c hr)
theorem allZero_digs (Z : Int) (z0 : 0 ≤ Z) (hZ : Z < 65536 ^ 12) : allZero (digs 12 Z) = decide (Z = 0) := by
  have h := digs_zero_iff 12 Z z0 hZ
  by_cases hz : Z = 0
  · subst hz; rfl
  · rw [decide_eq_false hz]
    have hne : digs 12 Z ≠ List.replicate 12 0 := fun e => hz (h.1 e)
    unfold allZero
    rw [Bool.eq_false_iff]
    intro hall
    apply hne
    rw [List.all_eq_true] at hall
    have := List.eq_replicate_of_mem (l := digs 12 Z) (a := 0) (fun b hb => by simpa using hall b hb)
    rwa [digs_len] at this
set_option maxRecDepth 100000 in
set_option maxHeartbeats 1000000 in
theorem r_carried (b : Bool) (ds : List Int) (Z : Int) (z0 : 0 ≤ Z) (hZ : Z < 65536 ^ 12) (hinv : CInv Z 0 ds) (w : World) :
    Calls Tryz.prog 203 #[numOf b ds] w fun e w' => e = .returned (numOf (b && decide (Z ≠ 0)) (digs 12 Z)) ∧ Junk w w' := by
  unfold numOf
  have HI := Lib.hid hinv; clear hinv
  have HZ := Lib.hid hZ; clear hZ
  go_enter Tryz.func203, Tryz.ntmps203
  go_wp2_with fail
  go_loopw [3] (fun i wr => ∃ (k n : Nat) (es : List Int), i = .int .i64 k ∧ k ≤ 11 ∧ CInv Z k es ∧ wr = ((w.alloc (.cells (numCells b es) 213)).alloc (.cells (numCells false (List.replicate 12 0)) 213)).drewN n) (fun i _ => 11 - (intOf i).toNat)
  case atStart => exact ⟨0, 0, ds, rfl, by omega, HI.out, rfl⟩
  case round =>
    obtain ⟨k, n, es, rfl, hk, hin, rfl⟩ := hrel
    by_cases hlt : k < 11
    · have HS := Lib.hid (cinv_step Z k es hlt hin)
      have q2 : k < 12 := by omega
      have q3 : k + 1 < 12 := by omega
      have q4 : 0 ≤ es.getD k 0 := hin.2.2.1 k
      have q5 : es.getD k 0 ≤ 2199023255552 := hin.2.2.2.2.1
      have q6 : 0 ≤ es.getD (k + 1) 0 := hin.2.2.1 (k + 1)
      have q7 : es.getD (k + 1) 0 ≤ 1099511627776 := hin.2.2.2.2.2 (k + 1) (by omega)
      have g1 := numCells_get b es k (by rw [hin.1]; omega)
      have g2 := numCells_get b es (k + 1) (by rw [hin.1]; omega)
      have g3 : (numCells b es).size = 13 := by rw [numCells_size, hin.1]
      have HC := Lib.hid (show ∀ v u, ((numCells b es).setIfInBounds (1 + (k + 1)) (.int .i64 v)).setIfInBounds (1 + k) (.int .i64 u) = numCells b ((es.set (k + 1) v).set k u) from fun v u => by rw [numCells_set, numCells_set])
      unfold carryStep at HS
      generalize es.getD k 0 = x at *
      generalize es.getD (k + 1) 0 = y at *
      generalize numCells b es = C at *
      have g4 : (C.setIfInBounds (1 + (k + 1)) (.int .i64 (y + x / 65536)))[1 + k]? = some (.int .i64 x) := by
        rw [Array.getElem?_setIfInBounds_ne (by omega)]; exact g1
      clear hin
      go_wp2_with fail
      go_region
      go_wp2_with fail
      go_roundw
      case rel =>
        exact ⟨k + 1, n + 1, _, by go_num, by omega, HS.out, by rw [← HC.out]; rfl⟩
      case measure => simp [intOf]; omega
    · obtain rfl : k = 11 := by omega
      have he := cinv_end Z es HZ.out hin
      subst he
      clear hin hlt
      have hr := r_zero b (digs 12 Z) (digs_len 12 Z)
      rw [allZero_digs Z z0 HZ.out] at hr
      by_cases hz : Z = 0
      · rw [decide_eq_true hz] at hr
        have HR := Lib.hid hr
        have HE := Lib.hid (show (b && decide (Z ≠ 0)) = false by simp [hz])
        clear hr hz
        go_wp2_with (first | (refine wpList_num_load rfl _ rfl _ rfl (by first | (simp [go_sem]; done) | (simp [go_sem, *]; done)) ?_; intro c hc; simp [go_sem] at hc; subst hc) | (refine wpList_num_store rfl _ _ rfl _ rfl _ _ rfl (by first | (simp [go_sem]; done) | (simp [go_sem, *]; done)) (by first | (simp [go_sem]; done) | (simp [go_sem, *]; done)) ?_))
        refine (HR.out _).mono ?_
        rintro e w' ⟨rfl, J, d, rfl⟩
        go_wp2_with (first | (refine wpList_num_load rfl _ rfl _ rfl (by first | (simp [go_sem]; done) | (simp [go_sem, *]; done)) ?_; intro c hc; simp [go_sem] at hc; subst hc) | (refine wpList_num_store rfl _ _ rfl _ rfl _ _ rfl (by first | (simp [go_sem]; done) | (simp [go_sem, *]; done)) (by first | (simp [go_sem]; done) | (simp [go_sem, *]; done)) ?_))
        refine bodyPost_num 2 rfl _ rfl (by first | (simp [go_sem]; done) | (simp [go_sem, *]; done)) rfl ?_; intro c hc; simp [go_sem] at hc; subst hc
        exact ⟨by rw [HE.out], junk_of_below (by (repeat' first | with_reducible (first | apply Below.refl | assumption | apply bw_a | apply bw_d | apply bw_n | apply bw_p | apply bw_c | apply bw_r) | go_size))⟩
      · rw [decide_eq_false hz] at hr
        have HR := Lib.hid hr
        have HE := Lib.hid (show (b && decide (Z ≠ 0)) = b by simp [hz])
        clear hr hz
        go_wp2_with (first | (refine wpList_num_load rfl _ rfl _ rfl (by first | (simp [go_sem]; done) | (simp [go_sem, *]; done)) ?_; intro c hc; simp [go_sem] at hc; subst hc) | (refine wpList_num_store rfl _ _ rfl _ rfl _ _ rfl (by first | (simp [go_sem]; done) | (simp [go_sem, *]; done)) (by first | (simp [go_sem]; done) | (simp [go_sem, *]; done)) ?_))
        refine (HR.out _).mono ?_
        rintro e w' ⟨rfl, J, d, rfl⟩
        go_wp2_with (first | (refine wpList_num_load rfl _ rfl _ rfl (by first | (simp [go_sem]; done) | (simp [go_sem, *]; done)) ?_; intro c hc; simp [go_sem] at hc; subst hc) | (refine wpList_num_store rfl _ _ rfl _ rfl _ _ rfl (by first | (simp [go_sem]; done) | (simp [go_sem, *]; done)) (by first | (simp [go_sem]; done) | (simp [go_sem, *]; done)) ?_))
        refine bodyPost_num 2 rfl _ rfl (by first | (simp [go_sem]; done) | (simp [go_sem, *]; done)) rfl ?_; intro c hc; simp [go_sem] at hc; subst hc
        exact ⟨by rw [HE.out], junk_of_below (by (repeat' first | with_reducible (first | apply Below.refl | assumption | apply bw_a | apply bw_d | apply bw_n | apply bw_p | apply bw_c | apply bw_r) | go_size))⟩
end

section
set_option linter.unusedVariables false
set_option linter.unusedSimpArgs false
open Go.RowKit
theorem and_mask16 (u : Int) (h0 : 0 ≤ u) (h1 : u < 18446744073709551616) : bits .and .u64 u 65535 = u % 65536 := by
  obtain ⟨a, rfl⟩ := Int.eq_ofNat_of_zero_le h0
  have := u64_and_nat a 65535 (by omega) (by decide)
  rw [show ((65535 : Nat) : Int) = 65535 from rfl] at this
  rw [this, show (65535 : Nat) = 2 ^ 16 - 1 from by decide, Nat.and_two_pow_sub_one_eq_mod]
  omega
set_option maxRecDepth 100000 in
set_option maxHeartbeats 1000000 in
theorem r_Of0 (n u : Int) (h0 : -9223372036854775808 ≤ n) (h1 : n ≤ 9223372036854775807) (u0 : 0 ≤ u) (u1 : u < 18446744073709551616) (hu : Hid (u = n.natAbs)) (hpos : 0 ≤ n → n = u) (hneg : n < 0 → IntKind.u64.wrap (-IntKind.u64.wrap n) = u) (w : World) :
    Calls Tryz.prog 173 #[.int .i64 n] w fun e w' => e = .returned (num n) ∧ Junk w w' := by
  have e0 := and_mask16 u u0 u1
  have e1 := and_mask16 (u / 65536) (by omega) (by omega)
  have e2 := and_mask16 (u / 4294967296) (by omega) (by omega)
  have e3 := and_mask16 (u / 281474976710656) (by omega) (by omega)
  have HF := Lib.hid (show num n = .agg #[.bool (decide (n < 0)), .int .i64 (u % 65536), .int .i64 (u / 65536 % 65536), .int .i64 (u / 4294967296 % 65536), .int .i64 (u / 281474976710656 % 65536), .int .i64 0, .int .i64 0, .int .i64 0, .int .i64 0, .int .i64 0, .int .i64 0, .int .i64 0, .int .i64 0] by
    unfold num; rw [← hu.out, of_digs u u0 u1]; rfl)
  by_cases hn : n < 0
  · have hw := hneg hn
    clear hneg hpos
    rw [HF.out]
    go_enter Tryz.func173, Tryz.ntmps173
    go_wp2
    go_rounds 5
    go_returns
    exact ⟨by simp [hn], junk_of_below (by (repeat' first | with_reducible (first | apply Below.refl | assumption | apply bw_a | apply bw_d | apply bw_n | apply bw_p | apply bw_c | apply bw_r) | go_size))⟩
  · have hw := hpos (by omega)
    subst hw
    clear hneg hpos
    rw [HF.out]
    go_enter Tryz.func173, Tryz.ntmps173
    go_wp2
    go_rounds 5
    go_returns
    exact ⟨by simp [hn], junk_of_below (by (repeat' first | with_reducible (first | apply Below.refl | assumption | apply bw_a | apply bw_d | apply bw_n | apply bw_p | apply bw_c | apply bw_r) | go_size))⟩
theorem r_Of (n : Int) (h0 : -9223372036854775808 ≤ n) (h1 : n ≤ 9223372036854775807) (w : World) :
    Calls Tryz.prog 173 #[.int .i64 n] w fun e w' => e = .returned (num n) ∧ Junk w w' :=
  r_Of0 n n.natAbs h0 h1 (by omega) (by omega) rfl (by omega) (fun h => by rw [IntKind.wrap_u64, IntKind.wrap_u64]; omega) w
def Fits (z : Int) : Prop := (z.natAbs : Int) < 65536 ^ 12
set_option maxRecDepth 100000 in
set_option maxHeartbeats 1000000 in
theorem r_Less (z : Int) (hz : Fits z) (w : World) :
    Calls Tryz.prog 176 #[num z] w fun e w' => e = .returned (num (-z)) ∧ Junk w w' := by
  have HC := Lib.hid (r_carried (!decide (z < 0)) (digs 12 z.natAbs) z.natAbs (by omega) hz (cinv_digs _ (by omega) hz))
  have HE := Lib.hid (show numOf ((!decide (z < 0)) && decide ((z.natAbs : Int) ≠ 0)) (digs 12 z.natAbs) = num (-z) by
    unfold num
    rw [Int.natAbs_neg]
    congr 1
    by_cases h : z < 0
    · simp [h]; omega
    · by_cases h2 : z = 0
      · subst h2; rfl
      · simp [h, h2]; omega)
  rw [HE.out] at HC
  have HD := Lib.hid HC.out; clear HC HE
  unfold num numOf at HD
  unfold num numOf
  generalize decide (z < 0) = s at *
  have hl := digs_len 12 (z.natAbs : Int)
  generalize digs 12 (z.natAbs : Int) = ds at *
  go_enter Tryz.func176, Tryz.ntmps176
  go_wp2_with (first | (refine wpList_num_load rfl _ rfl _ rfl (by first | (simp [go_sem]; done) | (simp [go_sem, *]; done)) ?_; intro c hc; simp [go_sem] at hc; subst hc) | (refine wpList_num_store rfl _ _ rfl _ rfl _ _ rfl (by first | (simp [go_sem]; done) | (simp [go_sem, *]; done)) (by first | (simp [go_sem]; done) | (simp [go_sem, *]; done)) ?_))
  refine (HD.out _).mono ?_
  rintro e w' ⟨rfl, J, d, rfl⟩
  go_wp2_with (first | (refine wpList_num_load rfl _ rfl _ rfl (by first | (simp [go_sem]; done) | (simp [go_sem, *]; done)) ?_; intro c hc; simp [go_sem] at hc; subst hc) | (refine wpList_num_store rfl _ _ rfl _ rfl _ _ rfl (by first | (simp [go_sem]; done) | (simp [go_sem, *]; done)) (by first | (simp [go_sem]; done) | (simp [go_sem, *]; done)) ?_))
  refine bodyPost_num 2 rfl _ rfl (by first | (simp [go_sem]; done) | (simp [go_sem, *]; done)) rfl ?_; intro c hc; simp [go_sem] at hc; subst hc
  exact ⟨by simp, junk_of_below (by (repeat' first | with_reducible (first | apply Below.refl | assumption | apply bw_a | apply bw_d | apply bw_n | apply bw_p | apply bw_c | apply bw_r) | go_size))⟩
set_option maxRecDepth 100000 in
set_option maxHeartbeats 1000000 in
theorem r_size (b c : Bool) (x y : Int) (x0 : 0 ≤ x) (x1 : x < 65536 ^ 12) (y0 : 0 ≤ y) (y1 : y < 65536 ^ 12) (w : World) :
    Calls Tryz.prog 204 #[numOf b (digs 12 x), numOf c (digs 12 y)] w fun e w' => e = .returned (.int .i64 (sgn (x - y))) ∧ Junk w w' := by
  unfold numOf
  have HG := Lib.hid (fun k (h : k < 12) => digs_getD 12 x k h)
  have HH := Lib.hid (fun k (h : k < 12) => digs_getD 12 y k h)
  have hl1 := digs_len 12 x
  have hl2 := digs_len 12 y
  have X1 := Lib.hid (top_zero x x0 x1)
  have Y1 := Lib.hid (top_zero y y0 y1)
  have HS := Lib.hid (cmp_step x y)
  clear x1 y1
  generalize digs 12 x = ds at *
  generalize digs 12 y = es at *
  go_enter Tryz.func204, Tryz.ntmps204
  go_wp2_with fail
  go_loopw [5] (fun i wr => ∃ (k n : Nat), i = .int .i64 ((k : Int) - 1) ∧ k ≤ 12 ∧ x / 65536 ^ k = y / 65536 ^ k ∧ wr = ((w.alloc (.cells (numCells b ds) 213)).alloc (.cells (numCells c es) 213)).drewN n) (fun i _ => (intOf i + 1).toNat)
  case atStart => exact ⟨12, 0, rfl, by omega, by rw [X1.out, Y1.out], rfl⟩
  case round =>
    obtain ⟨k, n, rfl, hk, heq, rfl⟩ := hrel
    cases k with
    | zero =>
      have hxy : x - y = 0 := by simp at heq; omega
      have HX := Lib.hid (sgn_zero hxy)
      clear heq hxy
      go_wp2_with fail
      go_ret
      exact ⟨ret1 HX.out.symm, junk_of_below (by (repeat' first | with_reducible (first | apply Below.refl | assumption | apply bw_a | apply bw_d | apply bw_n | apply bw_p | apply bw_c | apply bw_r) | go_size))⟩
    | succ k =>
      obtain ⟨s1, s2⟩ := HS.out k heq
      obtain ⟨s3, s4⟩ := cmp_step y x k heq.symm
      have g1 := numCells_get b ds k (by omega)
      have g2 := numCells_get c es k (by omega)
      have f1 := HG.out k (by omega)
      have f2 := HH.out k (by omega)
      rw [← f1, ← f2] at s1 s2
      rw [← f1, ← f2] at s4
      have S1 := Lib.hid s1
      have S2 := Lib.hid s2
      have S4 := Lib.hid s4
      clear s1 s2 s3 s4 f1 f2 heq
      have z1 : (numCells b ds).size = 13 := by rw [numCells_size, hl1]
      have z2 : (numCells c es).size = 13 := by rw [numCells_size, hl2]
      generalize numCells b ds = C at *
      generalize numCells c es = D at *
      generalize ds.getD k 0 = p at *
      generalize es.getD k 0 = q at *
      clear hl1 hl2
      have q1 : k < 12 := by omega
      have q2 : ((k + 1 : Nat) : Int) - 1 = k := by omega
      rw [q2]; clear q2
      rcases Int.lt_trichotomy p q with h | h | h
      · have hb : (p != q) = true := by rw [bne_iff_ne]; omega
        have HX := Lib.hid (sgn_neg (show x - y < 0 by have := S2.out h; omega))
        go_wp2_with fail
        go_quiet (fail)
        go_wp2_with fail
        go_quiet (fail)
        go_wp2_with fail
        go_ret
        exact ⟨ret1 HX.out.symm, junk_of_below (by (repeat' first | with_reducible (first | apply Below.refl | assumption | apply bw_a | apply bw_d | apply bw_n | apply bw_p | apply bw_c | apply bw_r) | go_size))⟩
      · have hb : (p != q) = false := by simp [h]
        have HX := Lib.hid (S1.out h)
        clear h
        go_wp2_with fail
        go_quiet (fail)
        go_wp2_with fail
        go_roundw
        case rel => exact ⟨k, _, rfl, by omega, HX.out, rfl⟩
        case measure => simp [intOf]
      · have hb : (p != q) = true := by rw [bne_iff_ne]; omega
        have HX := Lib.hid (sgn_pos (show 0 < x - y by have := S4.out h; omega))
        go_wp2_with fail
        go_quiet (fail)
        go_wp2_with fail
        go_quiet (fail)
        go_wp2_with fail
        go_ret
        exact ⟨ret1 HX.out.symm, junk_of_below (by (repeat' first | with_reducible (first | apply Below.refl | assumption | apply bw_a | apply bw_d | apply bw_n | apply bw_p | apply bw_c | apply bw_r) | go_size))⟩
set_option maxRecDepth 100000 in
set_option maxHeartbeats 1000000 in
theorem r_Sgn (z : Int) (hz : Fits z) (w : World) :
    Calls Tryz.prog 177 #[num z] w fun e w' => e = .returned (.int .i64 (sgn z)) ∧ Junk w w' := by
  have hr := r_zero (decide (z < 0)) (digs 12 z.natAbs) (digs_len 12 _)
  rw [allZero_digs _ (by omega) hz] at hr
  unfold num numOf
  rcases sgn_cases z with ⟨h, e⟩ | ⟨h, e⟩ | ⟨h, e⟩
  · have hs : decide (z < 0) = false := by simp; omega
    rw [decide_eq_false (show ¬ (z.natAbs : Int) = 0 by omega), hs] at hr
    rw [hs, e]
    have HR := Lib.hid hr; clear hr e hs
    have hl := digs_len 12 (z.natAbs : Int)
    unfold numOf at HR
    generalize digs 12 (z.natAbs : Int) = ds at *
    go_enter Tryz.func177, Tryz.ntmps177
    go_wp2_with (first | (refine wpList_num_load rfl _ rfl _ rfl (by first | (simp [go_sem]; done) | (simp [go_sem, *]; done)) ?_; intro c hc; simp [go_sem] at hc; subst hc) | (refine wpList_num_store rfl _ _ rfl _ rfl _ _ rfl (by first | (simp [go_sem]; done) | (simp [go_sem, *]; done)) (by first | (simp [go_sem]; done) | (simp [go_sem, *]; done)) ?_))
    refine (HR.out _).mono ?_
    rintro e w' ⟨rfl, J, d, rfl⟩
    go_wp2
    go_ret
    exact ⟨rfl, junk_of_below (by (repeat' first | with_reducible (first | apply Below.refl | assumption | apply bw_a | apply bw_d | apply bw_n | apply bw_p | apply bw_c | apply bw_r) | go_size))⟩
  · rw [decide_eq_true (show (z.natAbs : Int) = 0 by omega)] at hr
    rw [e]
    have HR := Lib.hid hr; clear hr e
    have hl := digs_len 12 (z.natAbs : Int)
    unfold numOf at HR
    generalize digs 12 (z.natAbs : Int) = ds at *
    generalize decide (z < 0) = s at *
    go_enter Tryz.func177, Tryz.ntmps177
    go_wp2_with (first | (refine wpList_num_load rfl _ rfl _ rfl (by first | (simp [go_sem]; done) | (simp [go_sem, *]; done)) ?_; intro c hc; simp [go_sem] at hc; subst hc) | (refine wpList_num_store rfl _ _ rfl _ rfl _ _ rfl (by first | (simp [go_sem]; done) | (simp [go_sem, *]; done)) (by first | (simp [go_sem]; done) | (simp [go_sem, *]; done)) ?_))
    refine (HR.out _).mono ?_
    rintro e w' ⟨rfl, J, d, rfl⟩
    go_wp2
    go_ret
    exact ⟨rfl, junk_of_below (by (repeat' first | with_reducible (first | apply Below.refl | assumption | apply bw_a | apply bw_d | apply bw_n | apply bw_p | apply bw_c | apply bw_r) | go_size))⟩
  · have hs : decide (z < 0) = true := by simp; omega
    rw [decide_eq_false (show ¬ (z.natAbs : Int) = 0 by omega), hs] at hr
    rw [hs, e]
    have HR := Lib.hid hr; clear hr e hs
    have hl := digs_len 12 (z.natAbs : Int)
    unfold numOf at HR
    generalize digs 12 (z.natAbs : Int) = ds at *
    go_enter Tryz.func177, Tryz.ntmps177
    go_wp2_with (first | (refine wpList_num_load rfl _ rfl _ rfl (by first | (simp [go_sem]; done) | (simp [go_sem, *]; done)) ?_; intro c hc; simp [go_sem] at hc; subst hc) | (refine wpList_num_store rfl _ _ rfl _ rfl _ _ rfl (by first | (simp [go_sem]; done) | (simp [go_sem, *]; done)) (by first | (simp [go_sem]; done) | (simp [go_sem, *]; done)) ?_))
    refine (HR.out _).mono ?_
    rintro e w' ⟨rfl, J, d, rfl⟩
    go_wp2
    go_ret
    exact ⟨rfl, junk_of_below (by (repeat' first | with_reducible (first | apply Below.refl | assumption | apply bw_a | apply bw_d | apply bw_n | apply bw_p | apply bw_c | apply bw_r) | go_size))⟩
end

section
set_option linter.unusedVariables false
set_option linter.unusedSimpArgs false
open Go.RowKit
def inI64 (z : Int) : Bool := decide (-9223372036854775808 ≤ z ∧ z ≤ 9223372036854775807)
def i64Or0 (z : Int) : Int := if -9223372036854775808 ≤ z ∧ z ≤ 9223372036854775807 then z else 0
end

section
set_option linter.unusedVariables false
set_option linter.unusedSimpArgs false
open Go.RowKit
set_option maxRecDepth 100000 in
set_option maxHeartbeats 1000000 in
theorem r_Plus_same (s : Bool) (X Y : Int) (x0 : 0 ≤ X) (x1 : X < 65536 ^ 12) (y0 : 0 ≤ Y) (y1 : Y < 65536 ^ 12) (hs : X + Y < 65536 ^ 12) (w : World) :
    Calls Tryz.prog 175 #[numOf s (digs 12 X), numOf s (digs 12 Y)] w fun e w' => e = .returned (numOf (s && decide (X + Y ≠ 0)) (digs 12 (X + Y))) ∧ Junk w w' := by
  have HST := Lib.hid (pinv_start X (digs 12 Y) x0 x1)
  have hyl := digs_len 12 Y
  have HBD := Lib.hid (digs_bd 12 Y)
  have HY := Lib.hid (horner_digs 12 Y y0 y1)
  have HCA := Lib.hid (fun es (h : CInv (X + Y) 0 es) => r_carried s es (X + Y) (by omega) hs h)
  have hxl := digs_len 12 X
  have HRES := Lib.hid (digs_len 12 (X + Y))
  unfold numOf at HCA
  unfold numOf
  generalize digs 12 (X + Y) = rs at *
  generalize (s && decide (X + Y ≠ 0)) = rb at *
  generalize digs 12 X = xs at *
  generalize digs 12 Y = ys at *
  clear x1 y1 hs
  have HYL := Lib.hid hyl
  go_enter Tryz.func175, Tryz.ntmps175
  go_wp2_with fail
  go_loopw [5] (fun i wr => ∃ (k n : Nat) (es : List Int), i = .int .i64 k ∧ k ≤ 12 ∧ PInv X ys k es ∧ wr = (((w.alloc (.cells (numCells s es) 213)).alloc (.cells (numCells s ys) 213)).alloc (.cells (numCells false (List.replicate 12 0)) 213)).drewN n) (fun i _ => 12 - (intOf i).toNat)
  case atStart => exact ⟨0, 0, xs, rfl, by omega, HST.out, rfl⟩
  case round =>
    obtain ⟨k, n, es, rfl, hk, hin, rfl⟩ := hrel
    by_cases hlt : k < 12
    · have HS := Lib.hid (pinv_step X ys HYL.out HBD.out k hlt es hin)
      have q4 : 0 ≤ es.getD k 0 := (hin.2.2.1 k).1
      have q5 : es.getD k 0 < 131072 := (hin.2.2.1 k).2
      have q6 : 0 ≤ ys.getD k 0 := (HBD.out k).1
      have q7 : ys.getD k 0 < 65536 := (HBD.out k).2
      have g1 := numCells_get s es k (by rw [hin.1]; omega)
      have g2 := numCells_get s ys k (by rw [HYL.out]; omega)
      have HC := Lib.hid (show ∀ v, (numCells s es).setIfInBounds (1 + k) (.int .i64 v) = numCells s (es.set k v) from fun v => numCells_set _ _ _ _)
      clear hin hyl
      generalize es.getD k 0 = p at *
      generalize ys.getD k 0 = q at *
      generalize numCells s es = C at *
      generalize hD : numCells s ys = D at *
      have HD := Lib.hid hD; clear hD
      go_wp2_with fail
      go_region
      go_wp2_with fail
      go_roundw
      case rel => exact ⟨k + 1, n + 1, _, by go_num, by omega, HS.out, by rw [← HC.out]; rfl⟩
      case measure => simp [intOf]; omega
    · obtain rfl : k = 12 := by omega
      have hc := pinv_end X ys HYL.out es hin
      rw [HY.out] at hc
      have hel := hin.1
      have HR := Lib.hid (HCA.out es hc)
      clear hin hc
      have hrs := HRES.out
      go_wp2_with (first | (refine wpList_num_load rfl _ rfl _ rfl (by first | (simp [go_sem]; done) | (simp [go_sem, *]; done)) ?_; intro c hc; simp [go_sem] at hc; subst hc) | (refine wpList_num_store rfl _ _ rfl _ rfl _ _ rfl (by first | (simp [go_sem]; done) | (simp [go_sem, *]; done)) (by first | (simp [go_sem]; done) | (simp [go_sem, *]; done)) ?_))
      refine (HR.out _).mono ?_
      rintro e w' ⟨rfl, J, d, rfl⟩
      go_wp2_with (first | (refine wpList_num_load rfl _ rfl _ rfl (by first | (simp [go_sem]; done) | (simp [go_sem, *]; done)) ?_; intro c hc; simp [go_sem] at hc; subst hc) | (refine wpList_num_store rfl _ _ rfl _ rfl _ _ rfl (by first | (simp [go_sem]; done) | (simp [go_sem, *]; done)) (by first | (simp [go_sem]; done) | (simp [go_sem, *]; done)) ?_))
      refine bodyPost_num 4 rfl _ rfl (by first | (simp [go_sem]; done) | (simp [go_sem, *]; done)) rfl ?_; intro c hc; simp [go_sem] at hc; subst hc
      exact ⟨rfl, junk_of_below (by (repeat' first | with_reducible (first | apply Below.refl | assumption | apply bw_a | apply bw_d | apply bw_n | apply bw_p | apply bw_c | apply bw_r) | go_size))⟩
set_option maxRecDepth 100000 in
set_option maxHeartbeats 2000000 in
theorem r_Plus_sub (s t : Bool) (hst : s ≠ t) (X Y : Int) (x0 : 0 ≤ X) (x1 : X < 65536 ^ 12) (y0 : 0 ≤ Y) (y1 : Y < 65536 ^ 12) (hge : Y ≤ X) (w : World) :
    Calls Tryz.prog 175 #[numOf s (digs 12 X), numOf t (digs 12 Y)] w fun e w' => e = .returned (numOf (s && decide (X - Y ≠ 0)) (digs 12 (X - Y))) ∧ Junk w w' := by
  have HST := Lib.hid (sinv_start X (digs 12 Y) x0 x1)
  have hyl := digs_len 12 Y
  have HBD := Lib.hid (digs_bd 12 Y)
  have HY := Lib.hid (horner_digs 12 Y y0 y1)
  have HCA := Lib.hid (fun es (h : CInv (X - Y) 0 es) => r_carried s es (X - Y) (by omega) (by omega) h)
  have HSZ := Lib.hid (r_size s t X Y x0 x1 y0 y1)
  have hxl := digs_len 12 X
  have HRES := Lib.hid (digs_len 12 (X - Y))
  have hsg : 0 ≤ sgn (X - Y) := by rcases sgn_cases (X - Y) with h | h | h <;> omega
  have hb : (s == t) = false := by simp [hst]
  unfold numOf at HCA HSZ
  unfold numOf
  generalize digs 12 (X - Y) = rs at *
  generalize (s && decide (X - Y ≠ 0)) = rb at *
  generalize digs 12 X = xs at *
  generalize digs 12 Y = ys at *
  have HGE := Lib.hid (show horner ys ≤ X by rw [HY.out]; exact hge)
  generalize sgn (X - Y) = g at *
  clear x1 y1 hge hst
  have HYL := Lib.hid hyl
  go_enter Tryz.func175, Tryz.ntmps175
  go_wp2_with (first | (refine wpList_num_load rfl _ rfl _ rfl (by first | (simp [go_sem]; done) | (simp [go_sem, *]; done)) ?_; intro c hc; simp [go_sem] at hc; subst hc) | (refine wpList_num_store rfl _ _ rfl _ rfl _ _ rfl (by first | (simp [go_sem]; done) | (simp [go_sem, *]; done)) (by first | (simp [go_sem]; done) | (simp [go_sem, *]; done)) ?_))
  refine (HSZ.out _).mono ?_
  rintro e w' ⟨rfl, J, d, rfl⟩
  go_wp2_with (first | (refine wpList_num_load rfl _ rfl _ rfl (by first | (simp [go_sem]; done) | (simp [go_sem, *]; done)) ?_; intro c hc; simp [go_sem] at hc; subst hc) | (refine wpList_num_store rfl _ _ rfl _ rfl _ _ rfl (by first | (simp [go_sem]; done) | (simp [go_sem, *]; done)) (by first | (simp [go_sem]; done) | (simp [go_sem, *]; done)) ?_))
  clear HSZ hsg
  go_loopw [6] (fun i wr => ∃ (k d : Nat) (es : List Int), i = .int .i64 k ∧ k ≤ 12 ∧ SInv X ys k es ∧ wr = (((w.alloc (.cells (numCells s es) 213)).alloc (.cells (numCells t ys) 213)).alloc (.cells (numCells false (List.replicate 12 0)) 213)).plus J d) (fun i _ => 12 - (intOf i).toNat)
  case atStart => exact ⟨0, d, xs, rfl, by omega, HST.out, rfl⟩
  case round =>
    obtain ⟨k, n, es, rfl, hk, hin, rfl⟩ := hrel
    by_cases hlt : k < 12
    · have q4 : -1 ≤ es.getD k 0 := hin.2.2.2.1.1
      have q5 : es.getD k 0 < 65536 := hin.2.2.2.1.2
      have q6 : 0 ≤ ys.getD k 0 := (HBD.out k).1
      have q7 : ys.getD k 0 < 65536 := (HBD.out k).2
      have hel := hin.1
      have g1 := numCells_get s es k (by omega)
      have g2 := numCells_get t ys k (by rw [HYL.out]; omega)
      by_cases hneg : es.getD k 0 - ys.getD k 0 < 0 ∧ k < 11
      · obtain ⟨hn1, hn2⟩ := hneg
        have HS := Lib.hid (sinv_borrow X ys HYL.out HBD.out k hn2 es hin hn1)
        have q8 := (hin.2.2.2.2 (k + 1) (by omega)).1
        have q9 := (hin.2.2.2.2 (k + 1) (by omega)).2
        have g3 := numCells_get s es (k + 1) (by omega)
        have HC := Lib.hid (show ∀ u z, ((numCells s es).setIfInBounds (1 + k) (.int .i64 u)).setIfInBounds (1 + (k + 1)) (.int .i64 z) = numCells s ((es.set k u).set (k + 1) z) from fun u z => by rw [numCells_set, numCells_set])
        have hsz : (numCells s es).size = 13 := by rw [numCells_size, hel]
        clear hin hyl hel
        generalize es.getD k 0 = p at *
        generalize ys.getD k 0 = q at *
        generalize es.getD (k + 1) 0 = r at *
        generalize numCells s es = C at *
        generalize hD : numCells t ys = D at *
        have HD := Lib.hid hD; clear hD
        have q10 : k + 1 < 12 := by omega
        have g4 : (C.setIfInBounds (1 + k) (.int .i64 (p - q)))[1 + k]? = some (.int .i64 (p - q)) := by
          rw [Array.getElem?_setIfInBounds_self_of_lt (by omega)]
        have g5 : ((C.setIfInBounds (1 + k) (.int .i64 (p - q))).setIfInBounds (1 + k) (.int .i64 (p - q + 65536)))[1 + (k + 1)]? = some (.int .i64 r) := by
          rw [Array.getElem?_setIfInBounds_ne (by omega), Array.getElem?_setIfInBounds_ne (by omega)]; exact g3
        clear hsz
        go_wp2_with fail
        go_region
        go_wp2_with fail
        go_roundw
        case rel => exact ⟨k + 1, n + 1, _, by go_num, by omega, HS.out, by rw [← HC.out]; rfl⟩
        case measure => simp [intOf]; omega
      · have hs := sinv_plain X ys HYL.out HBD.out k hlt es hin HGE.out (by omega)
        have hpos := (hs.2.2.1 k (by omega)).1
        rw [getD_set _ _ _ _ (by omega), if_pos rfl] at hpos
        have HS := Lib.hid hs
        have HC := Lib.hid (show ∀ u, (numCells s es).setIfInBounds (1 + k) (.int .i64 u) = numCells s (es.set k u) from fun u => by rw [numCells_set])
        have hsz : (numCells s es).size = 13 := by rw [numCells_size, hel]
        clear hin hyl hel hs hneg
        generalize es.getD k 0 = p at *
        generalize ys.getD k 0 = q at *
        generalize numCells s es = C at *
        generalize hD : numCells t ys = D at *
        have HD := Lib.hid hD; clear hD
        have g4 : (C.setIfInBounds (1 + k) (.int .i64 (p - q)))[1 + k]? = some (.int .i64 (p - q)) := by
          rw [Array.getElem?_setIfInBounds_self_of_lt (by omega)]
        clear hsz
        go_wp2_with fail
        go_region
        go_wp2_with fail
        go_roundw
        case rel => exact ⟨k + 1, n + 1, _, by go_num, by omega, HS.out, by rw [← HC.out]; rfl⟩
        case measure => simp [intOf]; omega
    · obtain rfl : k = 12 := by omega
      have hc := sinv_end X ys HYL.out es hin
      rw [HY.out] at hc
      have hel := hin.1
      have HR := Lib.hid (HCA.out es hc)
      clear hin hc
      have hrs := HRES.out
      go_wp2_with (first | (refine wpList_num_load rfl _ rfl _ rfl (by first | (simp [go_sem]; done) | (simp [go_sem, *]; done)) ?_; intro c hc; simp [go_sem] at hc; subst hc) | (refine wpList_num_store rfl _ _ rfl _ rfl _ _ rfl (by first | (simp [go_sem]; done) | (simp [go_sem, *]; done)) (by first | (simp [go_sem]; done) | (simp [go_sem, *]; done)) ?_))
      refine (HR.out _).mono ?_
      rintro e w' ⟨rfl, J2, d2, rfl⟩
      go_wp2_with (first | (refine wpList_num_load rfl _ rfl _ rfl (by first | (simp [go_sem]; done) | (simp [go_sem, *]; done)) ?_; intro c hc; simp [go_sem] at hc; subst hc) | (refine wpList_num_store rfl _ _ rfl _ rfl _ _ rfl (by first | (simp [go_sem]; done) | (simp [go_sem, *]; done)) (by first | (simp [go_sem]; done) | (simp [go_sem, *]; done)) ?_))
      refine bodyPost_num 4 rfl _ rfl (by first | (simp [go_sem]; done) | (simp [go_sem, *]; done)) rfl ?_; intro c hc; simp [go_sem] at hc; subst hc
      exact ⟨rfl, junk_of_below (by (repeat' first | with_reducible (first | apply Below.refl | assumption | apply bw_a | apply bw_d | apply bw_n | apply bw_p | apply bw_c | apply bw_r) | go_size))⟩
theorem num_sum_same (x y : Int) (h : decide (x < 0) = decide (y < 0)) : num (x + y) = numOf (decide (x < 0) && decide ((x.natAbs : Int) + y.natAbs ≠ 0)) (digs 12 ((x.natAbs : Int) + y.natAbs)) := by
  unfold num
  have : ((x + y).natAbs : Int) = x.natAbs + y.natAbs := by
    by_cases hx : x < 0 <;> by_cases hy : y < 0 <;> simp_all <;> omega
  rw [this]
  congr 1
  have h' := decide_eq_decide.1 h
  rw [Bool.eq_iff_iff]; simp only [Bool.and_eq_true, decide_eq_true_eq]; omega
theorem num_sum_sub (x y : Int) (h : decide (x < 0) ≠ decide (y < 0)) (hge : y.natAbs ≤ x.natAbs) : num (x + y) = numOf (decide (x < 0) && decide ((x.natAbs : Int) - y.natAbs ≠ 0)) (digs 12 ((x.natAbs : Int) - y.natAbs)) := by
  unfold num
  have : ((x + y).natAbs : Int) = x.natAbs - y.natAbs := by
    by_cases hx : x < 0 <;> by_cases hy : y < 0 <;> simp_all <;> omega
  rw [this]
  congr 1
  have h' : ¬ (x < 0 ↔ y < 0) := fun k => h (decide_eq_decide.2 k)
  rw [Bool.eq_iff_iff]; simp only [Bool.and_eq_true, decide_eq_true_eq]; omega
theorem r_Plus_ge (x y : Int) (hx : Fits x) (hy : Fits y) (h : decide (x < 0) ≠ decide (y < 0)) (hge : y.natAbs ≤ x.natAbs) (w : World) :
    Calls Tryz.prog 175 #[num x, num y] w fun e w' => e = .returned (num (x + y)) ∧ Junk w w' := by
  rw [num_sum_sub x y h hge]
  exact r_Plus_sub _ _ h x.natAbs y.natAbs (by omega) hx (by omega) hy (by omega) w
set_option maxRecDepth 100000 in
set_option maxHeartbeats 1000000 in
theorem r_Plus_lt (x y : Int) (hx : Fits x) (hy : Fits y) (h : decide (x < 0) ≠ decide (y < 0)) (hlt : x.natAbs < y.natAbs) (w : World) :
    Calls Tryz.prog 175 #[num x, num y] w fun e w' => e = .returned (num (x + y)) ∧ Junk w w' := by
  have hp := r_Plus_ge y x hy hx (Ne.symm h) (by omega)
  rw [Int.add_comm y x] at hp
  have HP := Lib.hid hp; clear hp
  have HSZ := Lib.hid (r_size (decide (x < 0)) (decide (y < 0)) x.natAbs y.natAbs (by omega) hx (by omega) hy)
  have hsg : sgn ((x.natAbs : Int) - y.natAbs) < 0 := by rw [sgn_neg (by omega)]; decide
  generalize sgn ((x.natAbs : Int) - y.natAbs) = g at *
  have HRL := Lib.hid (digs_len 12 (x + y).natAbs)
  unfold num numOf at HP
  unfold numOf at HSZ
  unfold num numOf
  have hxl := digs_len 12 (x.natAbs : Int)
  have hyl := digs_len 12 (y.natAbs : Int)
  have hb : (decide (x < 0) == decide (y < 0)) = false := by simpa using h
  generalize decide (x < 0) = s at *
  generalize decide (y < 0) = t at *
  generalize decide (x + y < 0) = rb at *
  generalize digs 12 ((x + y).natAbs : Int) = rs at *
  generalize digs 12 (x.natAbs : Int) = xs at *
  generalize digs 12 (y.natAbs : Int) = ys at *
  have hrl := HRL.out
  clear h hlt
  go_enter Tryz.func175, Tryz.ntmps175
  go_wp2_with (first | (refine wpList_num_load rfl _ rfl _ rfl (by first | (simp [go_sem]; done) | (simp [go_sem, *]; done)) ?_; intro c hc; simp [go_sem] at hc; subst hc) | (refine wpList_num_store rfl _ _ rfl _ rfl _ _ rfl (by first | (simp [go_sem]; done) | (simp [go_sem, *]; done)) (by first | (simp [go_sem]; done) | (simp [go_sem, *]; done)) ?_))
  refine (HSZ.out _).mono ?_
  rintro e w' ⟨rfl, J, d, rfl⟩
  go_wp2_with (first | (refine wpList_num_load rfl _ rfl _ rfl (by first | (simp [go_sem]; done) | (simp [go_sem, *]; done)) ?_; intro c hc; simp [go_sem] at hc; subst hc) | (refine wpList_num_store rfl _ _ rfl _ rfl _ _ rfl (by first | (simp [go_sem]; done) | (simp [go_sem, *]; done)) (by first | (simp [go_sem]; done) | (simp [go_sem, *]; done)) ?_))
  refine (HP.out _).mono ?_
  rintro e w' ⟨rfl, J2, d2, rfl⟩
  go_wp2_with (first | (refine wpList_num_load rfl _ rfl _ rfl (by first | (simp [go_sem]; done) | (simp [go_sem, *]; done)) ?_; intro c hc; simp [go_sem] at hc; subst hc) | (refine wpList_num_store rfl _ _ rfl _ rfl _ _ rfl (by first | (simp [go_sem]; done) | (simp [go_sem, *]; done)) (by first | (simp [go_sem]; done) | (simp [go_sem, *]; done)) ?_))
  refine bodyPost_num 4 rfl _ rfl (by first | (simp [go_sem]; done) | (simp [go_sem, *]; done)) rfl ?_; intro c hc; simp [go_sem] at hc; subst hc
  exact ⟨rfl, junk_of_below (by (repeat' first | with_reducible (first | apply Below.refl | assumption | apply bw_a | apply bw_d | apply bw_n | apply bw_p | apply bw_c | apply bw_r) | go_size))⟩
theorem r_Plus (x y : Int) (hx : Fits x) (hy : Fits y) (hs : Fits (x + y)) (w : World) :
    Calls Tryz.prog 175 #[num x, num y] w fun e w' => e = .returned (num (x + y)) ∧ Junk w w' := by
  by_cases h : decide (x < 0) = decide (y < 0)
  · rw [num_sum_same x y h]
    unfold num
    rw [← h]
    refine r_Plus_same _ x.natAbs y.natAbs (by omega) hx (by omega) hy ?_ w
    have : ((x + y).natAbs : Int) = x.natAbs + y.natAbs := by
      by_cases hx : x < 0 <;> by_cases hy : y < 0 <;> simp_all <;> omega
    rw [← this]; exact hs
  · by_cases hge : y.natAbs ≤ x.natAbs
    · exact r_Plus_ge x y hx hy h hge w
    · exact r_Plus_lt x y hx hy h (by omega) w
end

section
set_option linter.unusedVariables false
set_option linter.unusedSimpArgs false
open Go.RowKit
set_option maxRecDepth 100000 in
set_option maxHeartbeats 2000000 in
theorem r_Mul0 (s t : Bool) (X Y : Int) (x0 : 0 ≤ X) (x1 : X < 65536 ^ 4) (y0 : 0 ≤ Y) (y1 : Y < 65536 ^ 4) (hXY : 0 ≤ X * Y ∧ X * Y < 65536 ^ 12) (w : World) :
    Calls Tryz.prog 174 #[numOf s (digs 12 X), numOf t (digs 12 Y)] w fun e w' => e = .returned (numOf ((s != t) && decide (X * Y ≠ 0)) (digs 12 (X * Y))) ∧ Junk w w' := by
  have HE := Lib.hid (minv_end X Y x0 x1 y0 y1)
  have HXL := Lib.hid (digs_len 12 X)
  have HYL := Lib.hid (digs_len 12 Y)
  have HXB := Lib.hid (digs_bd 12 X)
  have HYB := Lib.hid (digs_bd 12 Y)
  have HCA := Lib.hid (fun es (h : CInv (X * Y) 0 es) => r_carried (s != t) es (X * Y) hXY.1 hXY.2 h)
  have HRES := Lib.hid (digs_len 12 (X * Y))
  unfold numOf at HCA
  unfold numOf
  generalize digs 12 (X * Y) = rs at *
  generalize ((s != t) && decide (X * Y ≠ 0)) = rb at *
  generalize digs 12 X = xs at *
  generalize digs 12 Y = ys at *
  clear x0 x1 y0 y1 hXY
  have hxl := HXL.out
  have hyl := HYL.out
  generalize hst0 : (s != t) = st at *
  have hst : (!(s == t)) = st := hst0
  clear hst0
  go_enter Tryz.func174, Tryz.ntmps174
  go_wp2_with fail
  clear hst
  go_loopw [6] (fun i wr => ∃ (k n : Nat) (es : List Int), i = .int .i64 k ∧ k ≤ 4 ∧ MInv xs ys k 0 es ∧ wr = ((((w.alloc (.cells (numCells s xs) 213)).alloc (.cells (numCells t ys) 213)).alloc (.cells (numCells false (List.replicate 12 0)) 213)).alloc (.cells (numCells st es) 213)).drewN n) (fun i _ => 4 - (intOf i).toNat)
  case atStart => exact ⟨0, 0, List.replicate 12 0, rfl, by omega, minv_start xs ys, rfl⟩
  case round =>
    obtain ⟨i, n, es, rfl, hi, hin, rfl⟩ := hrel
    by_cases hlt : i < 4
    · have HIN := Lib.hid hin; clear hin
      go_wp2_with fail
      go_loopw [7] (fun k wr => ∃ (m n : Nat) (es : List Int), k = .int .i64 m ∧ m ≤ 4 ∧ MInv xs ys i m es ∧ wr = ((((w.alloc (.cells (numCells s xs) 213)).alloc (.cells (numCells t ys) 213)).alloc (.cells (numCells false (List.replicate 12 0)) 213)).alloc (.cells (numCells st es) 213)).drewN n) (fun k _ => 4 - (intOf k).toNat)
      case atStart => exact ⟨0, n, es, rfl, by omega, HIN.out, rfl⟩
      case round =>
        clear HIN
        obtain ⟨k, n2, es, rfl, hk, hin, rfl⟩ := hrel
        by_cases hkt : k < 4
        · have hp := prod_bd _ _ (HXB.out i).1 (HXB.out i).2 (HYB.out k).1 (HYB.out k).2
          have HS := Lib.hid (minv_step xs ys HYL.out i k hlt hkt hp es hin)
          obtain ⟨hp1, hp2⟩ := hp
          have q1 : 0 ≤ es.getD (i + k) 0 := (hin.2.2 (i + k)).1
          have q2 : es.getD (i + k) 0 ≤ 68719476736000 := by have := (hin.2.2 (i + k)).2; omega
          have q3 := (HXB.out i).1
          have q4 := (HXB.out i).2
          have q5 := (HYB.out k).1
          have q6 := (HYB.out k).2
          have q7 : i < 12 := by omega
          have q8 : k < 12 := by omega
          have q9 : i + k < 12 := by omega
          have g1 := numCells_get s xs i (by omega)
          have g2 := numCells_get t ys k (by omega)
          have g3 := numCells_get st es (i + k) (by rw [hin.1]; omega)
          have HC := Lib.hid (show ∀ v, (numCells st es).setIfInBounds (1 + (i + k)) (.int .i64 v) = numCells st (es.set (i + k) v) from fun v => numCells_set _ _ _ _)
          clear hin hxl hyl
          generalize xs.getD i 0 = p at *
          generalize ys.getD k 0 = q at *
          generalize es.getD (i + k) 0 = r at *
          generalize numCells st es = C at *
          generalize hD : numCells s xs = D at *
          generalize hF : numCells t ys = F at *
          have HD := Lib.hid hD; clear hD
          have HF := Lib.hid hF; clear hF
          go_wp2_with fail
          go_region
          go_wp2_with fail
          go_roundw
          case rel => exact ⟨k + 1, n2 + 1, _, by go_num, by omega, HS.out, by rw [← HC.out]; rfl⟩
          case measure => simp [intOf]; omega
        · obtain rfl : k = 4 := by omega
          have HN := Lib.hid (minv_next xs ys HXL.out i hlt es hin)
          clear hin
          go_wp2_with fail
          go_roundw
          case rel => exact ⟨i + 1, n2, _, by go_num, by omega, HN.out, rfl⟩
          case measure => simp [intOf]; omega
    · obtain rfl : i = 4 := by omega
      have hel := hin.1
      have HR := Lib.hid (HCA.out es (HE.out es hin))
      clear hin
      have hrs := HRES.out
      go_wp2_with (first | (refine wpList_num_load rfl _ rfl _ rfl (by first | (simp [go_sem]; done) | (simp [go_sem, *]; done)) ?_; intro c hc; simp [go_sem] at hc; subst hc) | (refine wpList_num_store rfl _ _ rfl _ rfl _ _ rfl (by first | (simp [go_sem]; done) | (simp [go_sem, *]; done)) (by first | (simp [go_sem]; done) | (simp [go_sem, *]; done)) ?_))
      refine (HR.out _).mono ?_
      rintro e w' ⟨rfl, J, d, rfl⟩
      go_wp2_with (first | (refine wpList_num_load rfl _ rfl _ rfl (by first | (simp [go_sem]; done) | (simp [go_sem, *]; done)) ?_; intro c hc; simp [go_sem] at hc; subst hc) | (refine wpList_num_store rfl _ _ rfl _ rfl _ _ rfl (by first | (simp [go_sem]; done) | (simp [go_sem, *]; done)) (by first | (simp [go_sem]; done) | (simp [go_sem, *]; done)) ?_))
      refine bodyPost_num 4 rfl _ rfl (by first | (simp [go_sem]; done) | (simp [go_sem, *]; done)) rfl ?_; intro c hc; simp [go_sem] at hc; subst hc
      exact ⟨rfl, junk_of_below (by (repeat' first | with_reducible (first | apply Below.refl | assumption | apply bw_a | apply bw_d | apply bw_n | apply bw_p | apply bw_c | apply bw_r) | go_size))⟩
theorem num_prod (x y : Int) : num (x * y) = numOf ((decide (x < 0) != decide (y < 0)) && decide ((x.natAbs : Int) * y.natAbs ≠ 0)) (digs 12 ((x.natAbs : Int) * y.natAbs)) := by
  unfold num
  rw [Int.natAbs_mul, Int.natCast_mul]
  congr 1
  rcases Int.lt_trichotomy x 0 with hx | hx | hx
  · rcases Int.lt_trichotomy y 0 with hy | hy | hy
    · have := Int.mul_pos_of_neg_of_neg hx hy
      simp [hx, hy]; omega
    · subst hy; simp
    · have := Int.mul_neg_of_neg_of_pos hx hy
      simp [hx, this, show ¬ y < 0 by omega]; omega
  · subst hx; simp
  · rcases Int.lt_trichotomy y 0 with hy | hy | hy
    · have := Int.mul_neg_of_pos_of_neg hx hy
      simp [hy, this, show ¬ x < 0 by omega]; omega
    · subst hy; simp
    · have := Int.mul_pos hx hy
      simp [show ¬ x < 0 by omega, show ¬ y < 0 by omega]; omega
theorem nat_prod_bd (a b : Nat) (ha : a < 18446744073709551616) (hb : b < 18446744073709551616) : a * b < 340282366920938463463374607431768211456 := by
  rcases Nat.eq_zero_or_pos b with h | h
  · subst h; simp
  · have := Nat.mul_lt_mul_of_lt_of_le ha (Nat.le_of_lt hb) (by decide)
    exact this
theorem r_Mul (x y : Int) (hx : x.natAbs < 18446744073709551616) (hy : y.natAbs < 18446744073709551616) (w : World) :
    Calls Tryz.prog 174 #[num x, num y] w fun e w' => e = .returned (num (x * y)) ∧ Junk w w' := by
  rw [num_prod]
  refine r_Mul0 _ _ x.natAbs y.natAbs (by omega) ?_ (by omega) ?_ ⟨Int.mul_nonneg (by omega) (by omega), ?_⟩ w
  · rw [show (65536 : Int) ^ 4 = 18446744073709551616 by decide]; omega
  · rw [show (65536 : Int) ^ 4 = 18446744073709551616 by decide]; omega
  · have := nat_prod_bd _ _ hx hy
    rw [show (65536 : Int) ^ 12 = 6277101735386680763835789423207666416102355444464034512896 by decide, ← Int.natCast_mul]
    omega
theorem fits_of (z : Int) (h : z.natAbs < 340282366920938463463374607431768211456) : Fits z := by
  unfold Fits
  rw [show (65536 : Int) ^ 12 = 6277101735386680763835789423207666416102355444464034512896 by decide]
  omega
end

section
set_option linter.unusedVariables false
set_option linter.unusedSimpArgs false
open Go.RowKit
def cellsOf (z : Int) : Array Value := numCells (decide (z < 0)) (digs 12 z.natAbs)
@[go_sem] theorem cellsOf_size (z : Int) : (cellsOf z).size = 13 := by unfold cellsOf; rw [numCells_size, digs_len]
@[go_sem] theorem cellsOf_abs (z : Int) : (cellsOf z).setIfInBounds 0 (.bool false) = cellsOf z.natAbs := by
  unfold cellsOf; rw [numCells_sign, Int.natAbs_natCast, decide_eq_false (show ¬ ((z.natAbs : Int) < 0) by omega)]
def PartsFin (X C : Int) (e : Ending) : Prop := e = .returned (.tuple #[num (X / C), .int .i64 (sgn (2 * (X % C) - C)), .bool (decide (X % C ≠ 0))])
end

section
set_option linter.unusedVariables false
set_option linter.unusedSimpArgs false
open Go.RowKit
theorem i64_abs (a : Int) (h0 : -9223372036854775808 ≤ a) (h1 : a ≤ 9223372036854775807) : a.natAbs ≤ 9223372036854775808 := by omega
theorem prod_abs (a b : Int) (ha : a.natAbs ≤ 9223372036854775808) (hb : b.natAbs ≤ 9223372036854775808) : (a * b).natAbs ≤ 85070591730234615865843651857942052864 := by
  rw [Int.natAbs_mul]
  exact Nat.mul_le_mul ha hb
end

section
set_option linter.unusedVariables false
set_option linter.unusedSimpArgs false
open Go.RowKit
set_option maxRecDepth 100000 in
set_option maxHeartbeats 1000000 in
theorem r_Sign (a b c d : Int) (a0 : -9223372036854775808 ≤ a) (a1 : a ≤ 9223372036854775807) (b0 : -9223372036854775808 ≤ b) (b1 : b ≤ 9223372036854775807)
    (c0 : -9223372036854775808 ≤ c) (c1 : c ≤ 9223372036854775807) (d0 : -9223372036854775808 ≤ d) (d1 : d ≤ 9223372036854775807) (w : World) :
    Calls Tryz.prog 146 #[.int .i64 a, .int .i64 b, .int .i64 c, .int .i64 d] w fun e w' => e = .returned (.int .i64 (sgn (a * b - c * d))) ∧ Junk w w' := by
  have hab := prod_abs a b (i64_abs a a0 a1) (i64_abs b b0 b1)
  have hcd := prod_abs c d (i64_abs c c0 c1) (i64_abs d d0 d1)
  have M1 := Lib.hid (r_Mul a b (by omega) (by omega))
  have M2 := Lib.hid (r_Mul c d (by omega) (by omega))
  have L1 := Lib.hid (r_Less (c * d) (fits_of _ (by omega)))
  have P1 := Lib.hid (r_Plus (a * b) (-(c * d)) (fits_of _ (by omega)) (fits_of _ (by omega)) (fits_of _ (by omega)))
  have S1 := Lib.hid (r_Sgn (a * b + -(c * d)) (fits_of _ (by omega)))
  have E1 := Lib.hid (show a * b + -(c * d) = a * b - c * d by omega)
  have O1 := Lib.hid (r_Of a a0 a1); have O2 := Lib.hid (r_Of b b0 b1); have O3 := Lib.hid (r_Of c c0 c1); have O4 := Lib.hid (r_Of d d0 d1)
  clear hab hcd
  generalize num a = na at *; generalize num b = nb at *; generalize num c = nc at *; generalize num d = nd at *
  generalize num (a * b) = nab at *; generalize num (c * d) = ncd at *; generalize num (-(c * d)) = nl at *; generalize num (a * b + -(c * d)) = ns at *
  go_enter Tryz.func146, Tryz.ntmps146
  go_wp2_with fail
  refine (O1.out _).mono ?_
  rintro e w' ⟨rfl, J1, d1, rfl⟩
  go_wp2_with fail
  refine (O2.out _).mono ?_
  rintro e w' ⟨rfl, J2, d2, rfl⟩
  go_wp2_with fail
  refine (M1.out _).mono ?_
  rintro e w' ⟨rfl, J3, d3, rfl⟩
  go_wp2_with fail
  refine (O3.out _).mono ?_
  rintro e w' ⟨rfl, J4, d4, rfl⟩
  go_wp2_with fail
  refine (O4.out _).mono ?_
  rintro e w' ⟨rfl, J5, d5, rfl⟩
  go_wp2_with fail
  refine (M2.out _).mono ?_
  rintro e w' ⟨rfl, J6, d6, rfl⟩
  go_wp2_with fail
  refine (L1.out _).mono ?_
  rintro e w' ⟨rfl, J7, d7, rfl⟩
  go_wp2_with fail
  refine (P1.out _).mono ?_
  rintro e w' ⟨rfl, J8, d8, rfl⟩
  go_wp2_with fail
  refine (S1.out _).mono ?_
  rintro e w' ⟨rfl, J9, d9, rfl⟩
  go_wp2
  go_ret
  exact ⟨ret1 (by rw [E1.out]), junk_of_below (by (repeat' first | with_reducible (first | apply Below.refl | assumption | apply bw_a | apply bw_d | apply bw_n | apply bw_p | apply bw_c | apply bw_r) | go_size))⟩
end
end Go.Proofs.YthphdiigjimchaaGreat

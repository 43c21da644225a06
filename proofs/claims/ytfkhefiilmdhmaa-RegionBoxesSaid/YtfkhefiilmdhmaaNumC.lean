/- Contracts of apportionref01's Of, Num.Less, size, Sgn, Int and told. Conditions: numbers below 2^192 in size. -/
import Derived.Test.YtfkhefiilmdhmaaNumB
import Derived.Test.YtfkhefiilmdhmaaNumMath
import Derived.Test.YtfkhefiilmdhmaaWideC
namespace Go.Proofs.Ytfkhefiilmdhmaa
set_option linter.unusedVariables false
set_option linter.unusedSimpArgs false
open Go.RowKit

theorem and_mask16 (u : Int) (h0 : 0 ≤ u) (h1 : u < 18446744073709551616) : bits .and .u64 u 65535 = u % 65536 := by
  obtain ⟨a, rfl⟩ := Int.eq_ofNat_of_zero_le h0
  have := u64_and_nat a 65535 (by omega) (by decide)
  rw [show ((65535 : Nat) : Int) = 65535 from rfl] at this
  rw [this, show (65535 : Nat) = 2 ^ 16 - 1 from by decide, Nat.and_two_pow_sub_one_eq_mod]
  omega

set_option maxRecDepth 100000 in
set_option maxHeartbeats 1000000 in
theorem r_Of0 (n u : Int) (h0 : -9223372036854775808 ≤ n) (h1 : n ≤ 9223372036854775807) (u0 : 0 ≤ u) (u1 : u < 18446744073709551616) (hu : Hid (u = n.natAbs)) (hpos : 0 ≤ n → n = u) (hneg : n < 0 → IntKind.u64.wrap (-IntKind.u64.wrap n) = u) (w : World) :
    Calls Try.prog 93 #[.int .i64 n] w fun e w' => e = .returned (num n) ∧ Junk w w' := by
  have e0 := and_mask16 u u0 u1
  have e1 := and_mask16 (u / 65536) (by omega) (by omega)
  have e2 := and_mask16 (u / 4294967296) (by omega) (by omega)
  have e3 := and_mask16 (u / 281474976710656) (by omega) (by omega)
  have HF := Lib.hid (show num n = .agg #[.bool (decide (n < 0)), .int .i64 (u % 65536), .int .i64 (u / 65536 % 65536), .int .i64 (u / 4294967296 % 65536), .int .i64 (u / 281474976710656 % 65536), .int .i64 0, .int .i64 0, .int .i64 0, .int .i64 0, .int .i64 0, .int .i64 0, .int .i64 0, .int .i64 0] by
    unfold num; rw [← hu.out, of_digs u u0 u1]; rfl)
  by_cases hn : n < 0
  · have hw := hneg hn
    clear hneg hpos
    rw [HF.out]
    go_enter Try.func93, Try.ntmps93
    go_wp2
    go_rounds 5
    go_returns
    exact ⟨by simp [hn], junk_of_below (by (repeat' (first | (with_reducible exact Below.refl _ _) | (with_reducible assumption) | (with_reducible refine Below.alloc ?_ ?_ _) | (with_reducible refine Below.drew ?_) | (with_reducible refine below_drewN ?_ _) | (with_reducible refine below_plus ?_ ?_ _ _) | (with_reducible refine Below.setCell ?_ ?_ _) | (with_reducible refine Below.setRow ?_ ?_ _) | go_size)))⟩
  · have hw := hpos (by omega)
    subst hw
    clear hneg hpos
    rw [HF.out]
    go_enter Try.func93, Try.ntmps93
    go_wp2
    go_rounds 5
    go_returns
    exact ⟨by simp [hn], junk_of_below (by (repeat' (first | (with_reducible exact Below.refl _ _) | (with_reducible assumption) | (with_reducible refine Below.alloc ?_ ?_ _) | (with_reducible refine Below.drew ?_) | (with_reducible refine below_drewN ?_ _) | (with_reducible refine below_plus ?_ ?_ _ _) | (with_reducible refine Below.setCell ?_ ?_ _) | (with_reducible refine Below.setRow ?_ ?_ _) | go_size)))⟩

theorem r_Of (n : Int) (h0 : -9223372036854775808 ≤ n) (h1 : n ≤ 9223372036854775807) (w : World) :
    Calls Try.prog 93 #[.int .i64 n] w fun e w' => e = .returned (num n) ∧ Junk w w' :=
  r_Of0 n n.natAbs h0 h1 (by omega) (by omega) rfl (by omega) (fun h => by rw [IntKind.wrap_u64, IntKind.wrap_u64]; omega) w

/-- The size of a number is below 2^192. -/
def Fits (z : Int) : Prop := (z.natAbs : Int) < 65536 ^ 12

set_option maxRecDepth 100000 in
set_option maxHeartbeats 1000000 in
theorem r_Less (z : Int) (hz : Fits z) (w : World) :
    Calls Try.prog 96 #[num z] w fun e w' => e = .returned (num (-z)) ∧ Junk w w' := by
  have HC := Lib.hid (r_carried (!decide (z < 0)) (digs 12 z.natAbs) z.natAbs (by omega) hz (cinv_digs _ (by omega) hz))
  have HE := Lib.hid (show numOf ((!decide (z < 0)) && decide ((z.natAbs : Int) ≠ 0)) (digs 12 z.natAbs) = num (-z) by
    unfold num
    rw [Int.natAbs_neg]
    congr 1
    by_cases h : z < 0
    · simp [h]; omega
    · by_cases h2 : z = 0
      · subst h2; rfl
      · simp [h, h2]; omega)
  rw [HE.out] at HC
  have HD := Lib.hid HC.out; clear HC HE
  unfold num numOf at HD
  unfold num numOf
  generalize decide (z < 0) = s at *
  have hl := digs_len 12 (z.natAbs : Int)
  generalize digs 12 (z.natAbs : Int) = ds at *
  go_enter Try.func96, Try.ntmps96
  go_wp2_with (first | (refine wpList_num_load rfl _ rfl _ rfl (by first | (simp [go_sem]; done) | (simp [go_sem, *]; done)) ?_; intro c hc; simp [go_sem] at hc; subst hc) | (refine wpList_num_store rfl _ _ rfl _ rfl _ _ rfl (by first | (simp [go_sem]; done) | (simp [go_sem, *]; done)) (by first | (simp [go_sem]; done) | (simp [go_sem, *]; done)) ?_))
  refine (HD.out _).mono ?_
  rintro e w' ⟨rfl, J, d, rfl⟩
  go_wp2_with (first | (refine wpList_num_load rfl _ rfl _ rfl (by first | (simp [go_sem]; done) | (simp [go_sem, *]; done)) ?_; intro c hc; simp [go_sem] at hc; subst hc) | (refine wpList_num_store rfl _ _ rfl _ rfl _ _ rfl (by first | (simp [go_sem]; done) | (simp [go_sem, *]; done)) (by first | (simp [go_sem]; done) | (simp [go_sem, *]; done)) ?_))
  refine bodyPost_num 2 rfl _ rfl (by first | (simp [go_sem]; done) | (simp [go_sem, *]; done)) rfl ?_; intro c hc; simp [go_sem] at hc; subst hc
  exact ⟨by simp, junk_of_below (by (repeat' (first | (with_reducible exact Below.refl _ _) | (with_reducible assumption) | (with_reducible refine Below.alloc ?_ ?_ _) | (with_reducible refine Below.drew ?_) | (with_reducible refine below_drewN ?_ _) | (with_reducible refine below_plus ?_ ?_ _ _) | (with_reducible refine Below.setCell ?_ ?_ _) | (with_reducible refine Below.setRow ?_ ?_ _) | go_size)))⟩

set_option maxRecDepth 100000 in
set_option maxHeartbeats 1000000 in
theorem r_size (b c : Bool) (x y : Int) (x0 : 0 ≤ x) (x1 : x < 65536 ^ 12) (y0 : 0 ≤ y) (y1 : y < 65536 ^ 12) (w : World) :
    Calls Try.prog 108 #[numOf b (digs 12 x), numOf c (digs 12 y)] w fun e w' => e = .returned (.int .i64 (sgn (x - y))) ∧ Junk w w' := by
  unfold numOf
  have HG := Lib.hid (fun k (h : k < 12) => digs_getD 12 x k h)
  have HH := Lib.hid (fun k (h : k < 12) => digs_getD 12 y k h)
  have hl1 := digs_len 12 x
  have hl2 := digs_len 12 y
  have X1 := Lib.hid (top_zero x x0 x1)
  have Y1 := Lib.hid (top_zero y y0 y1)
  have HS := Lib.hid (cmp_step x y)
  clear x1 y1
  generalize digs 12 x = ds at *
  generalize digs 12 y = es at *
  go_enter Try.func108, Try.ntmps108
  go_wp2_with fail
  go_loopw [5] (fun i wr => ∃ (k n : Nat), i = .int .i64 ((k : Int) - 1) ∧ k ≤ 12 ∧ x / 65536 ^ k = y / 65536 ^ k ∧ wr = ((w.alloc (.cells (numCells b ds) 114)).alloc (.cells (numCells c es) 114)).drewN n) (fun i _ => (intOf i + 1).toNat)
  case atStart => exact ⟨12, 0, rfl, by omega, by rw [X1.out, Y1.out], rfl⟩
  case round =>
    obtain ⟨k, n, rfl, hk, heq, rfl⟩ := hrel
    cases k with
    | zero =>
      have hxy : x - y = 0 := by simp at heq; omega
      have HX := Lib.hid (sgn_zero hxy)
      clear heq hxy
      go_wp2_with fail
      go_ret
      exact ⟨ret1 HX.out.symm, junk_of_below (by (repeat' (first | (with_reducible exact Below.refl _ _) | (with_reducible assumption) | (with_reducible refine Below.alloc ?_ ?_ _) | (with_reducible refine Below.drew ?_) | (with_reducible refine below_drewN ?_ _) | (with_reducible refine below_plus ?_ ?_ _ _) | (with_reducible refine Below.setCell ?_ ?_ _) | (with_reducible refine Below.setRow ?_ ?_ _) | go_size)))⟩
    | succ k =>
      obtain ⟨s1, s2⟩ := HS.out k heq
      obtain ⟨s3, s4⟩ := cmp_step y x k heq.symm
      have g1 := numCells_get b ds k (by omega)
      have g2 := numCells_get c es k (by omega)
      have f1 := HG.out k (by omega)
      have f2 := HH.out k (by omega)
      rw [← f1, ← f2] at s1 s2
      rw [← f1, ← f2] at s4
      have S1 := Lib.hid s1
      have S2 := Lib.hid s2
      have S4 := Lib.hid s4
      clear s1 s2 s3 s4 f1 f2 heq
      have z1 : (numCells b ds).size = 13 := by rw [numCells_size, hl1]
      have z2 : (numCells c es).size = 13 := by rw [numCells_size, hl2]
      generalize numCells b ds = C at *
      generalize numCells c es = D at *
      generalize ds.getD k 0 = p at *
      generalize es.getD k 0 = q at *
      clear hl1 hl2
      have q1 : k < 12 := by omega
      have q2 : ((k + 1 : Nat) : Int) - 1 = k := by omega
      rw [q2]; clear q2
      rcases Int.lt_trichotomy p q with h | h | h
      · have hb : (p != q) = true := by rw [bne_iff_ne]; omega
        have HX := Lib.hid (sgn_neg (show x - y < 0 by have := S2.out h; omega))
        go_wp2_with fail
        go_quiet (fail)
        go_wp2_with fail
        go_quiet (fail)
        go_wp2_with fail
        go_ret
        exact ⟨ret1 HX.out.symm, junk_of_below (by (repeat' (first | (with_reducible exact Below.refl _ _) | (with_reducible assumption) | (with_reducible refine Below.alloc ?_ ?_ _) | (with_reducible refine Below.drew ?_) | (with_reducible refine below_drewN ?_ _) | (with_reducible refine below_plus ?_ ?_ _ _) | (with_reducible refine Below.setCell ?_ ?_ _) | (with_reducible refine Below.setRow ?_ ?_ _) | go_size)))⟩
      · have hb : (p != q) = false := by simp [h]
        have HX := Lib.hid (S1.out h)
        clear h
        go_wp2_with fail
        go_quiet (fail)
        go_wp2_with fail
        go_roundw
        case rel => exact ⟨k, _, rfl, by omega, HX.out, rfl⟩
        case measure => simp [intOf]
      · have hb : (p != q) = true := by rw [bne_iff_ne]; omega
        have HX := Lib.hid (sgn_pos (show 0 < x - y by have := S4.out h; omega))
        go_wp2_with fail
        go_quiet (fail)
        go_wp2_with fail
        go_quiet (fail)
        go_wp2_with fail
        go_ret
        exact ⟨ret1 HX.out.symm, junk_of_below (by (repeat' (first | (with_reducible exact Below.refl _ _) | (with_reducible assumption) | (with_reducible refine Below.alloc ?_ ?_ _) | (with_reducible refine Below.drew ?_) | (with_reducible refine below_drewN ?_ _) | (with_reducible refine below_plus ?_ ?_ _ _) | (with_reducible refine Below.setCell ?_ ?_ _) | (with_reducible refine Below.setRow ?_ ?_ _) | go_size)))⟩

set_option maxRecDepth 100000 in
set_option maxHeartbeats 1000000 in
theorem r_Sgn (z : Int) (hz : Fits z) (w : World) :
    Calls Try.prog 97 #[num z] w fun e w' => e = .returned (.int .i64 (sgn z)) ∧ Junk w w' := by
  have hr := r_zero (decide (z < 0)) (digs 12 z.natAbs) (digs_len 12 _)
  rw [allZero_digs _ (by omega) hz] at hr
  unfold num numOf
  rcases sgn_cases z with ⟨h, e⟩ | ⟨h, e⟩ | ⟨h, e⟩
  · have hs : decide (z < 0) = false := by simp; omega
    rw [decide_eq_false (show ¬ (z.natAbs : Int) = 0 by omega), hs] at hr
    rw [hs, e]
    have HR := Lib.hid hr; clear hr e hs
    have hl := digs_len 12 (z.natAbs : Int)
    unfold numOf at HR
    generalize digs 12 (z.natAbs : Int) = ds at *
    go_enter Try.func97, Try.ntmps97
    go_wp2_with (first | (refine wpList_num_load rfl _ rfl _ rfl (by first | (simp [go_sem]; done) | (simp [go_sem, *]; done)) ?_; intro c hc; simp [go_sem] at hc; subst hc) | (refine wpList_num_store rfl _ _ rfl _ rfl _ _ rfl (by first | (simp [go_sem]; done) | (simp [go_sem, *]; done)) (by first | (simp [go_sem]; done) | (simp [go_sem, *]; done)) ?_))
    refine (HR.out _).mono ?_
    rintro e w' ⟨rfl, J, d, rfl⟩
    go_wp2
    go_ret
    exact ⟨rfl, junk_of_below (by (repeat' (first | (with_reducible exact Below.refl _ _) | (with_reducible assumption) | (with_reducible refine Below.alloc ?_ ?_ _) | (with_reducible refine Below.drew ?_) | (with_reducible refine below_drewN ?_ _) | (with_reducible refine below_plus ?_ ?_ _ _) | (with_reducible refine Below.setCell ?_ ?_ _) | (with_reducible refine Below.setRow ?_ ?_ _) | go_size)))⟩
  · rw [decide_eq_true (show (z.natAbs : Int) = 0 by omega)] at hr
    rw [e]
    have HR := Lib.hid hr; clear hr e
    have hl := digs_len 12 (z.natAbs : Int)
    unfold numOf at HR
    generalize digs 12 (z.natAbs : Int) = ds at *
    generalize decide (z < 0) = s at *
    go_enter Try.func97, Try.ntmps97
    go_wp2_with (first | (refine wpList_num_load rfl _ rfl _ rfl (by first | (simp [go_sem]; done) | (simp [go_sem, *]; done)) ?_; intro c hc; simp [go_sem] at hc; subst hc) | (refine wpList_num_store rfl _ _ rfl _ rfl _ _ rfl (by first | (simp [go_sem]; done) | (simp [go_sem, *]; done)) (by first | (simp [go_sem]; done) | (simp [go_sem, *]; done)) ?_))
    refine (HR.out _).mono ?_
    rintro e w' ⟨rfl, J, d, rfl⟩
    go_wp2
    go_ret
    exact ⟨rfl, junk_of_below (by (repeat' (first | (with_reducible exact Below.refl _ _) | (with_reducible assumption) | (with_reducible refine Below.alloc ?_ ?_ _) | (with_reducible refine Below.drew ?_) | (with_reducible refine below_drewN ?_ _) | (with_reducible refine below_plus ?_ ?_ _ _) | (with_reducible refine Below.setCell ?_ ?_ _) | (with_reducible refine Below.setRow ?_ ?_ _) | go_size)))⟩
  · have hs : decide (z < 0) = true := by simp; omega
    rw [decide_eq_false (show ¬ (z.natAbs : Int) = 0 by omega), hs] at hr
    rw [hs, e]
    have HR := Lib.hid hr; clear hr e hs
    have hl := digs_len 12 (z.natAbs : Int)
    unfold numOf at HR
    generalize digs 12 (z.natAbs : Int) = ds at *
    go_enter Try.func97, Try.ntmps97
    go_wp2_with (first | (refine wpList_num_load rfl _ rfl _ rfl (by first | (simp [go_sem]; done) | (simp [go_sem, *]; done)) ?_; intro c hc; simp [go_sem] at hc; subst hc) | (refine wpList_num_store rfl _ _ rfl _ rfl _ _ rfl (by first | (simp [go_sem]; done) | (simp [go_sem, *]; done)) (by first | (simp [go_sem]; done) | (simp [go_sem, *]; done)) ?_))
    refine (HR.out _).mono ?_
    rintro e w' ⟨rfl, J, d, rfl⟩
    go_wp2
    go_ret
    exact ⟨rfl, junk_of_below (by (repeat' (first | (with_reducible exact Below.refl _ _) | (with_reducible assumption) | (with_reducible refine Below.alloc ?_ ?_ _) | (with_reducible refine Below.drew ?_) | (with_reducible refine below_drewN ?_ _) | (with_reducible refine below_plus ?_ ?_ _ _) | (with_reducible refine Below.setCell ?_ ?_ _) | (with_reducible refine Below.setRow ?_ ?_ _) | go_size)))⟩
end Go.Proofs.Ytfkhefiilmdhmaa

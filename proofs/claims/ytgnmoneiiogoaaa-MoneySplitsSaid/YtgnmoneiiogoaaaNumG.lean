/- Contract of apportionref01's Num.parts: how often one size goes into another, and how far the rest is from a half. Conditions: the numbers are below 2^128 and 2^64 in size, the second one is not nought. -/
import Derived.Test.YtgnmoneiiogoaaaNumF
import Derived.Deep.RegionWith
import Derived.Test.YtgnmoneiiogoaaaQStore
namespace Go.Proofs.Ytgnmoneiiogoaaa
set_option linter.unusedVariables false
set_option linter.unusedSimpArgs false
open Go.RowKit

def cellsOf (z : Int) : Array Value := numCells (decide (z < 0)) (digs 12 z.natAbs)
theorem num_agg (z : Int) : num z = .agg (cellsOf z) := rfl
@[go_sem] theorem cellsOf_size (z : Int) : (cellsOf z).size = 13 := by unfold cellsOf; rw [numCells_size, digs_len]
@[go_sem] theorem cellsOf_abs (z : Int) : (cellsOf z).setIfInBounds 0 (.bool false) = cellsOf z.natAbs := by
  unfold cellsOf; rw [numCells_sign, Int.natAbs_natCast, decide_eq_false (show ¬ ((z.natAbs : Int) < 0) by omega)]
theorem cellsOf_zero : cellsOf 0 = numCells false (List.replicate 12 0) := rfl

theorem wpList_cells_store {ops : Array Oper} {rest : List Oper} {o : Oper} {a : Act} {w : World} {Q : Exit → Act → World → Prop} (hgd : o.guard = none) (x y : Operand) (ho : o.op = .store 49 x y)
    (g : Nat) (hx : a.eval x = .pointer (some ⟨g, 0, none⟩)) (z : Int) (hy : a.eval y = .agg (cellsOf z)) (ha : (w.rowAt g).any (fun c => c.size == 13) = true)
    (h : ∀ w1, w1 = w.setRow g (cellsOf z) → wpList Try.prog ops Q rest (a.put o.dst undef) w1) : wpList Try.prog ops Q (o :: rest) a w :=
  wpList_num_store hgd x y ho g hx _ _ hy (digs_len _ _) ha (h _ rfl)

theorem r_size' (x y : Int) (hx : Fits x) (hy : Fits y) (w : World) :
    Calls Try.prog 49 #[.agg (cellsOf x), .agg (cellsOf y)] w fun e w' => e = .returned (.int .i64 (sgn ((x.natAbs : Int) - y.natAbs))) ∧ Junk w w' :=
  r_size _ _ _ _ (by omega) hx (by omega) hy w
theorem r_Plus' (x y : Int) (hx : Fits x) (hy : Fits y) (hs : Fits (x + y)) (w : World) :
    Calls Try.prog 36 #[.agg (cellsOf x), .agg (cellsOf y)] w fun e w' => e = .returned (.agg (cellsOf (x + y))) ∧ Junk w w' := r_Plus x y hx hy hs w
theorem r_Of' (n : Int) (h0 : -9223372036854775808 ≤ n) (h1 : n ≤ 9223372036854775807) (w : World) :
    Calls Try.prog 33 #[.int .i64 n] w fun e w' => e = .returned (.agg (cellsOf n)) ∧ Junk w w' := r_Of n h0 h1 w
theorem r_Less' (z : Int) (hz : Fits z) (w : World) :
    Calls Try.prog 43 #[.agg (cellsOf z)] w fun e w' => e = .returned (.agg (cellsOf (-z))) ∧ Junk w w' := r_Less z hz w

theorem div_step (X C : Int) (k : Nat) (b r q : Int) (hC : 0 < C) (hb : X / 2 ^ k % 2 = b) (hq : X / 2 ^ (k + 1) / C = q) (hr : X / 2 ^ (k + 1) % C = r) :
    (2 * r + b < C → X / 2 ^ k / C = 2 * q ∧ X / 2 ^ k % C = 2 * r + b) ∧ (C ≤ 2 * r + b → X / 2 ^ k / C = 2 * q + 1 ∧ X / 2 ^ k % C = 2 * r + b - C) := by
  have e : X / 2 ^ k = 2 * (X / 2 ^ (k + 1)) + b := by
    rw [Int.pow_succ, ← Int.ediv_ediv_of_nonneg (Int.le_of_lt (Int.pow_pos (by decide)))]; omega
  have e2 := Int.ediv_mul_add_emod (X / 2 ^ (k + 1)) C
  have r0 := Int.emod_nonneg (X / 2 ^ (k + 1)) (show C ≠ 0 by omega)
  have r1 := Int.emod_lt_of_pos (X / 2 ^ (k + 1)) hC
  rw [hq, hr] at e2
  rw [hr] at r0 r1
  have e3 : X / 2 ^ k = 2 * r + b + (2 * q) * C := by rw [e, ← e2, Int.mul_assoc]; omega
  have hb2 : 0 ≤ b ∧ b < 2 := by omega
  constructor
  · intro h
    rw [e3, Int.add_mul_ediv_right _ _ (by omega), Int.add_mul_emod_self_right, Int.ediv_eq_zero_of_lt (by omega) h, Int.emod_eq_of_lt (by omega) h]
    omega
  · intro h
    have e4 : 2 * r + b + (2 * q) * C = (2 * r + b - C) + (2 * q + 1) * C := by rw [Int.add_mul]; omega
    rw [e3, e4, Int.add_mul_ediv_right _ _ (by omega), Int.add_mul_emod_self_right, Int.ediv_eq_zero_of_lt (by omega) (by omega), Int.emod_eq_of_lt (by omega) (by omega)]
    omega

theorem bit_of (X : Int) (k : Nat) (x0 : 0 ≤ X) (hk : k < 192) : (digs 12 X).getD (k / 16) 0 / 2 ^ (k % 16) % 2 = X / 2 ^ k % 2 := by
  rw [digs_getD 12 X _ (by omega)]
  have hp : (65536 : Int) ^ (k / 16) = 2 ^ (16 * (k / 16)) := by rw [show (65536 : Int) = 2 ^ 16 by decide, ← Int.pow_mul]
  have e1 : X / 2 ^ k = X / 65536 ^ (k / 16) / 2 ^ (k % 16) := by
    rw [hp, Int.ediv_ediv_of_nonneg (Int.le_of_lt (Int.pow_pos (by decide))), ← Int.pow_add, show 16 * (k / 16) + k % 16 = k by omega]
  rw [e1]
  generalize X / 65536 ^ (k / 16) = y
  have hd : (65536 : Int) = 2 ^ (k % 16) * 2 ^ (15 - k % 16) * 2 := by
    rw [← Int.pow_add, show k % 16 + (15 - k % 16) = 15 by omega]; decide
  have e2 : y % 65536 + 65536 * (y / 65536) = y := by omega
  have hm : y = y % 65536 + (2 ^ (15 - k % 16) * 2 * (y / 65536)) * 2 ^ (k % 16) := by
    have : (2 ^ (15 - k % 16) * 2 * (y / 65536)) * 2 ^ (k % 16) = 65536 * (y / 65536) := by
      rw [hd]; simp only [Int.mul_assoc, Int.mul_comm, Int.mul_left_comm]
    omega
  have p : (0 : Int) < 2 ^ (k % 16) := Int.pow_pos (by decide)
  have e3 : y / 2 ^ (k % 16) = y % 65536 / 2 ^ (k % 16) + 2 ^ (15 - k % 16) * 2 * (y / 65536) := by
    have := Int.add_mul_ediv_right (y % 65536) (2 ^ (15 - k % 16) * 2 * (y / 65536)) (show (2 : Int) ^ (k % 16) ≠ 0 by omega)
    rw [← hm] at this
    exact this
  rw [e3, show (2 : Int) ^ (15 - k % 16) * 2 * (y / 65536) = 2 * (2 ^ (15 - k % 16) * (y / 65536)) by rw [Int.mul_comm (2 ^ (15 - k % 16)) 2, Int.mul_assoc]]
  omega

theorem results_num2 {fn : Func} {p t u : Tmp} (h : fn.results = #[.cell p 49, .tmp t, .tmp u]) (tmps : Array Value) (w : World) (g : Nat) (c : Array Value)
    (hp : tmps.getD p undef = .pointer (some ⟨g, 0, none⟩)) (hr : w.rowAt g = some c) (hc : c.size = 13) : (results fn tmps).run Try.prog w = .ok (.tuple #[.agg c, tmps.getD t undef, tmps.getD u undef]) w := by
  obtain ⟨ty, hg⟩ := rowAt_some hr
  have hp' : tmps[p]?.getD undef = .pointer (some ⟨g, 0, none⟩) := by simpa using hp
  simp [results, h, hp', asAddr, run_loadVar_row w g ty _ c (0, 0) _ hg Try.underlying49 rfl (by rw [hc]; kernel_rfl)]

theorem plus_nil (w : World) : w.plus #[] w.drawn = w := by unfold World.plus; simp

theorem cells_lit (z : Int) : ∃ b e0 e1 e2 e3 e4 e5 e6 e7 e8 e9 e10 e11, cellsOf z = #[.bool b, .int .i64 e0, .int .i64 e1, .int .i64 e2, .int .i64 e3, .int .i64 e4, .int .i64 e5, .int .i64 e6, .int .i64 e7, .int .i64 e8, .int .i64 e9, .int .i64 e10, .int .i64 e11] := by
  unfold cellsOf
  have hl := digs_len 12 (z.natAbs : Int)
  generalize digs 12 (z.natAbs : Int) = ds at *
  match ds, hl with
  | [e0, e1, e2, e3, e4, e5, e6, e7, e8, e9, e10, e11], _ => exact ⟨_, e0, e1, e2, e3, e4, e5, e6, e7, e8, e9, e10, e11, rfl⟩

def PartsFin (X C : Int) (e : Ending) : Prop := e = .returned (.tuple #[num (X / C), .int .i64 (sgn (2 * (X % C) - C)), .bool (decide (X % C ≠ 0))])

set_option maxRecDepth 100000 in
set_option maxHeartbeats 2000000 in
theorem r_parts (x c : Int) (X C : Int) (hX : X = x.natAbs) (hC : C = c.natAbs) (x1 : X < 170141183460469231731687303715884105728) (c0 : 0 < C) (c1 : C < 18446744073709551616) (w : World) :
    Calls Try.prog 35 #[num x, num c] w fun e w' => PartsFin X C e ∧ Junk w w' := by
  have hxf : Fits x := fits_of x (by omega)
  have HXL := Lib.hid (digs_len 12 X)
  rw [num_agg, num_agg]
  generalize hcx : cellsOf x = Cx at *
  have hcs : Cx.size = 13 := by rw [← hcx, cellsOf_size]
  have HG := Lib.hid (show ∀ j, j < 12 → Cx[1 + j]? = some (.int .i64 ((digs 12 X).getD j 0)) from fun j hj => by rw [← hcx, hX]; exact numCells_get _ _ _ (by rw [digs_len]; exact hj))
  have HCX := Lib.hid hcx; clear hcx
  have HX := Lib.hid hX; have HC := Lib.hid hC; have HX1 := Lib.hid x1
  clear hX hC x1
  go_enter Try.func35, Try.ntmps35
  go_wp2_with fail
  go_loopw [9] (fun i wr => ∃ (k : Nat) (J : Array Obj) (d : Nat) (c' : Int), i = .int .i64 ((k : Int) - 1) ∧ k ≤ 192 ∧ (c'.natAbs : Int) = C ∧ wr = (((((w.alloc (.cells Cx 49)).alloc (.cells (cellsOf c') 49)).alloc (.cells (numCells false (List.replicate 12 0)) 49)).alloc (.cells (cellsOf (X / 2 ^ k / C)) 49)).alloc (.cells (cellsOf (X / 2 ^ k % C)) 49)).plus J d) (fun i _ => (intOf i + 1).toNat)
  case atStart =>
    have e0 : X / 2 ^ 192 = 0 := Int.ediv_eq_zero_of_lt (by rw [HX.out]; omega) (by have := HX1.out; rw [show (2 : Int) ^ 192 = 6277101735386680763835789423207666416102355444464034512896 by decide]; omega)
    exact ⟨192, #[], w.drawn, c, rfl, by omega, HC.out.symm, by rw [e0, Int.zero_ediv, Int.zero_emod]; exact (plus_nil _).symm⟩
  case round =>
    obtain ⟨k, J, d, c', rfl, hk, hc', rfl⟩ := hrel
    cases k with
    | zero =>
      rw [Int.pow_zero, Int.ediv_one]
      have hr0 : 0 ≤ X % C := Int.emod_nonneg _ (by omega)
      have hr1 : X % C < C := Int.emod_lt_of_pos _ c0
      have H1 := Lib.hid (show num (X / C) = .agg (cellsOf (X / C)) from rfl)
      have HPL := Lib.hid (r_Plus' (X % C) (X % C) (fits_of _ (by omega)) (fits_of _ (by omega)) (fits_of _ (by omega)))
      have hsz := r_size' (X % C + X % C) c' (fits_of _ (by omega)) (fits_of c' (by omega))
      rw [hc', show ((X % C + X % C).natAbs : Int) - C = 2 * (X % C) - C by omega] at hsz
      have hzz := r_zero (decide (X % C < 0)) (digs 12 (X % C).natAbs) (digs_len 12 _)
      rw [allZero_digs _ (by omega) (fits_of _ (by omega))] at hzz
      have hz2 : decide ((((X % C).natAbs : Nat) : Int) = 0) = decide (X % C = 0) := decide_eq_decide.2 (by omega)
      rw [hz2] at hzz
      have HSZ := Lib.hid hsz; have HZZ := Lib.hid (show ∀ w : World, Calls Try.prog 50 #[.agg (cellsOf (X % C))] w fun e w' => e = .returned (.bool (decide (X % C = 0))) ∧ Junk w w' from hzz)
      have HNE := Lib.hid (show decide (X % C ≠ 0) = !decide (X % C = 0) by simp)
      have HOC := Lib.hid (numCells_one (decide (X / C < 0)) (digs 12 (X / C).natAbs))
      clear hsz hzz hz2 hr0 hr1 c0 c1 hc' hk
      generalize hge : sgn (2 * (X % C) - C) = g at *
      generalize hze : decide (X % C = 0) = zb at *
      have HGE := Lib.hid hge; have HZE := Lib.hid hze
      clear hge hze
      go_wp2_with fail
      refine region_store (DD (((((w.alloc (.cells Cx 49)).alloc (.cells (cellsOf c') 49)).alloc (.cells (numCells false (List.replicate 12 0)) 49)).alloc (.cells (cellsOf (X / C)) 49)).alloc (.cells (cellsOf (X % C)) 49)) (((((w.alloc (.cells Cx 49)).alloc (.cells (cellsOf c') 49)).alloc (.cells (cellsOf (X / C)) 49)).alloc (.cells (cellsOf (X / C)) 49)).alloc (.cells (cellsOf (X % C)) 49))) 9 (by decide) (by kernel_rfl) (by kernel_rfl) ⟨_, _, rfl⟩ ?_
      (refine s_load rfl (by decide) _ _ rfl _ Try.underlying49 rfl 13 (by kernel_rfl) _ rfl (by simp [go_sem]) (by simp [go_sem]) _ (by simp [go_sem]; rfl) (by simp [go_sem]) (by first | (simp [go_sem]; done) | (simp [go_sem, *]; done)) ?_)
      (refine s_load rfl (by decide) _ _ rfl _ Try.underlying49 rfl 13 (by kernel_rfl) _ rfl (by simp [go_sem]) (by simp [go_sem]) _ (by simp [go_sem]; rfl) (by simp [go_sem]) (by first | (simp [go_sem]; done) | (simp [go_sem, *]; done)) ?_)
      (refine s_load rfl (by decide) _ _ rfl _ Try.underlying49 rfl 13 (by kernel_rfl) _ rfl (by simp [go_sem]) (by simp [go_sem]) _ (by simp [go_sem]; rfl) (by simp [go_sem]) (by first | (simp [go_sem]; done) | (simp [go_sem, *]; done)) ?_)
      refine s_call rfl (by decide) 36 _ _ rfl #[.agg (cellsOf (X % C)), .agg (cellsOf (X % C))] (by simp [Act.eval, Act.put]) (fun _ => by kernel_rfl) _ HPL.out ?_
      (refine s_load rfl (by decide) _ _ rfl _ Try.underlying49 rfl 13 (by kernel_rfl) _ rfl (by simp [go_sem]) (by simp [go_sem]) _ (by simp [go_sem]; rfl) (by simp [go_sem]) (by first | (simp [go_sem]; done) | (simp [go_sem, *]; done)) ?_)
      refine s_call rfl (by decide) 49 _ _ rfl #[.agg (cellsOf (X % C + X % C)), .agg (cellsOf c')] (by simp [Act.eval, Act.put]) (fun _ => by kernel_rfl) _ HSZ.out ?_
      (refine s_load rfl (by decide) _ _ rfl _ Try.underlying49 rfl 13 (by kernel_rfl) _ rfl (by simp [go_sem]) (by simp [go_sem]) _ (by simp [go_sem]; rfl) (by simp [go_sem]) (by first | (simp [go_sem]; done) | (simp [go_sem, *]; done)) ?_)
      refine s_call rfl (by decide) 50 _ _ rfl #[.agg (cellsOf (X % C))] (by simp [Act.eval, Act.put]) (fun _ => by kernel_rfl) _ HZZ.out ?_
      try simp only [Act.put, List.setIfInBounds_toArray, List.set_cons_succ, List.set_cons_zero]
      refine s_not rfl (by decide) _ _ rfl zb (by simp [Act.eval, Act.put]) ?_
      refine s_store rfl (by decide) _ _ _ rfl 13 (by kernel_rfl) _ rfl (by simp [go_sem]) (cellsOf (X / C)) (by simp [Act.eval, Act.put]) (by simp [go_sem]) HOC.out (by simp [go_sem]) (by simp [go_sem]) ?_
      refine s_assign rfl (by decide) _ rfl (.int .i64 g) (by simp [Act.eval, Act.put]) ?_
      refine s_assign rfl (by decide) _ rfl (.bool (!zb)) (by simp [Act.eval, Act.put]) ?_
      rintro w9 ⟨J9, d9, rfl⟩
      try simp only [Act.put, List.setIfInBounds_toArray, List.set_cons_succ, List.set_cons_zero]
      go_wp2_with fail
      refine bodyPost_ret (results_num2 (p := 4) rfl _ _ (w.heap.size + 1 + 1) (cellsOf (X / C)) rfl (by simp [go_sem]) (by simp [go_sem])) rfl ⟨?_, junk_of_below (by (repeat' (first | (with_reducible exact Below.refl _ _) | (with_reducible assumption) | (with_reducible refine Below.alloc ?_ ?_ _) | (with_reducible refine Below.drew ?_) | (with_reducible refine below_drewN ?_ _) | (with_reducible refine below_plus ?_ ?_ _ _) | (with_reducible refine Below.setCell ?_ ?_ _) | (with_reducible refine Below.setRow ?_ ?_ _) | go_size)))⟩
      unfold PartsFin
      rw [H1.out, HGE.out, HNE.out]
      rfl
    | succ k =>
      have q1 : k < 192 := by omega
      have q2 : ((k + 1 : Nat) : Int) - 1 = k := by omega
      rw [q2]; clear q2
      have xk0 : 0 ≤ X / 2 ^ (k + 1) := Int.ediv_nonneg (by rw [HX.out]; omega) (Int.le_of_lt (Int.pow_pos (by decide)))
      have xk1 : X / 2 ^ (k + 1) ≤ X := Int.ediv_le_self _ (by rw [HX.out]; omega)
      have hq0 : 0 ≤ X / 2 ^ (k + 1) / C := Int.ediv_nonneg xk0 (Int.le_of_lt c0)
      have hq1 : X / 2 ^ (k + 1) / C < 170141183460469231731687303715884105728 := by
        have := Int.ediv_le_self C xk0; have := HX1.out; omega
      have hr0 : 0 ≤ X / 2 ^ (k + 1) % C := Int.emod_nonneg _ (by omega)
      have hr1 : X / 2 ^ (k + 1) % C < C := Int.emod_lt_of_pos _ c0
      clear xk0 xk1
      generalize hqe : X / 2 ^ (k + 1) / C = q at *
      generalize hre : X / 2 ^ (k + 1) % C = r at *
      have HQE := Lib.hid hqe; have HRE := Lib.hid hre; have HQ1 := Lib.hid hq1
      clear hqe hre
      have F1 := Lib.hid (fits_of q (by omega))
      have F2 := Lib.hid (fits_of (q + q) (by omega))
      have F3 := Lib.hid (fits_of r (by omega))
      have F4 := Lib.hid (fits_of (r + r) (by omega))
      clear hq1
      go_wp2_with (first | (refine wpList_num_load rfl _ rfl _ rfl (by first | (simp [go_sem]; done) | (simp [go_sem, *]; done)) ?_; intro c_ hc_; simp [go_sem] at hc_; subst hc_; try simp only [Act.put, List.setIfInBounds_toArray, List.set_cons_succ, List.set_cons_zero]) | (refine wpList_cells_store rfl _ _ rfl _ rfl _ rfl (by first | (simp [go_sem]; done) | (simp [go_sem, *]; done)) ?_; intro w1_ hw1_; simp [go_sem] at hw1_; subst hw1_; try simp only [Act.put, List.setIfInBounds_toArray, List.set_cons_succ, List.set_cons_zero]))
      refine (r_Plus' q q F1.out F1.out F2.out _).mono ?_
      rintro e w' ⟨rfl, J1, d1, rfl⟩
      go_wp2_with (first | (refine wpList_num_load rfl _ rfl _ rfl (by first | (simp [go_sem]; done) | (simp [go_sem, *]; done)) ?_; intro c_ hc_; simp [go_sem] at hc_; subst hc_; try simp only [Act.put, List.setIfInBounds_toArray, List.set_cons_succ, List.set_cons_zero]) | (refine wpList_cells_store rfl _ _ rfl _ rfl _ rfl (by first | (simp [go_sem]; done) | (simp [go_sem, *]; done)) ?_; intro w1_ hw1_; simp [go_sem] at hw1_; subst hw1_; try simp only [Act.put, List.setIfInBounds_toArray, List.set_cons_succ, List.set_cons_zero]))
      refine (r_Plus' r r F3.out F3.out F4.out _).mono ?_
      rintro e w' ⟨rfl, J2, d2, rfl⟩
      have HCC := Lib.hid hc'; have HC1 := Lib.hid c1
      have q3 : k / 16 < 12 := by omega
      have g1 := HG.out (k / 16) q3
      have HBD := Lib.hid (digs_bd 12 X (k / 16))
      have HBIT := Lib.hid (bit_of X k (by rw [HX.out]; omega) q1)
      obtain ⟨p0, p1⟩ := HBD.out
      generalize (digs 12 X).getD (k / 16) 0 = p at *
      clear hc' c1 HBD
      go_upto_region 7 with (first | (refine wpList_num_load rfl _ rfl _ rfl (by first | (simp [go_sem]; done) | (simp [go_sem, *]; done)) ?_; intro c_ hc_; simp [go_sem] at hc_; subst hc_; try simp only [Act.put, List.setIfInBounds_toArray, List.set_cons_succ, List.set_cons_zero]) | (refine wpList_cells_store rfl _ _ rfl _ rfl _ rfl (by first | (simp [go_sem]; done) | (simp [go_sem, *]; done)) ?_; intro w1_ hw1_; simp [go_sem] at hw1_; subst hw1_; try simp only [Act.put, List.setIfInBounds_toArray, List.set_cons_succ, List.set_cons_zero]))
      obtain ⟨i, hi⟩ : ∃ i, i = k / 16 := ⟨_, rfl⟩
      obtain ⟨m, hm⟩ : ∃ m, m = k % 16 := ⟨_, rfl⟩
      rw [← hi] at g1 q3
      rw [← hm] at HBIT
      have e1 : (k : Int) / 16 = i := by omega
      have e2 : (k : Int) % 16 = m := by omega
      have e3 : m < 16 := by omega
      clear hi hm
      obtain ⟨y, hy⟩ : ∃ y, p / 2 ^ m = y := ⟨_, rfl⟩
      have y0 : 0 ≤ y := by rw [← hy]; exact Int.ediv_nonneg p0 (Int.le_of_lt (Int.pow_pos (by decide)))
      rw [hy] at HBIT
      obtain ⟨b, hb⟩ : ∃ b, y % 2 = b := ⟨_, rfl⟩
      have b0 : 0 ≤ b ∧ b ≤ 1 := by omega
      have HB1 := Lib.hid (show X / 2 ^ k % 2 = b by rw [← HBIT.out]; exact hb)
      clear HBIT
      have F5 := Lib.hid (fits_of (r + r + b) (by have := HC1.out; omega))
      have F6 := Lib.hid (fits_of 1 (by decide))
      go_upto_if 29 with fail
      go_cut [] from 10 to 44 (fun w'' => Cls (((((w.alloc (.cells Cx 49)).alloc (.cells (cellsOf c') 49)).alloc (.cells (numCells false (List.replicate 12 0)) 49)).alloc (.cells (cellsOf (q + q)) 49)).alloc (.cells (cellsOf (r + r + b)) 49)) w'')
      case first =>
        by_cases hbit : b = 1
        · have hb' : (b == 1) = true := by rw [beq_iff_eq]; exact hbit
          rw [hbit] at F5
          have HBI := Lib.hid hbit
          clear hb hbit
          rw [hb']
          clear hb' b0
          go_upto_region 8 with fail
          refine region_quiet_tail (C := Cls (((((w.alloc (.cells Cx 49)).alloc (.cells (cellsOf c') 49)).alloc (.cells (numCells false (List.replicate 12 0)) 49)).alloc (.cells (cellsOf (q + q)) 49)).alloc (.cells (cellsOf (r + r)) 49))) 3 (by kernel_rfl) (by kernel_rfl) ⟨_, _, rfl⟩ ?_
          simp only [List.take_succ_cons, List.take_zero, List.drop_succ_cons, List.drop_zero]
          (refine q_load rfl _ _ rfl _ Try.underlying49 rfl 13 (by kernel_rfl) _ rfl (by simp [go_sem]) _ (by simp [go_sem]; rfl) (by simp [go_sem]) ?_)
          refine q_call rfl 33 _ _ rfl #[.int .i64 1] (by simp [Act.eval]) (fun _ => by kernel_rfl) _ (r_Of' 1 (by decide) (by decide)) ?_
          refine q_call rfl 36 _ _ rfl #[.agg (cellsOf (r + r)), .agg (cellsOf 1)] (by simp [Act.eval, Act.put]) (fun _ => by kernel_rfl) _ (r_Plus' (r + r) 1 F4.out F6.out F5.out) ?_
          refine wpQuiet_nil ?_
          rintro w3 ⟨J3, d3, rfl⟩
          go_wp2_with (first | (refine wpList_num_load rfl _ rfl _ rfl (by first | (simp [go_sem]; done) | (simp [go_sem, *]; done)) ?_; intro c_ hc_; simp [go_sem] at hc_; subst hc_; try simp only [Act.put, List.setIfInBounds_toArray, List.set_cons_succ, List.set_cons_zero]) | (refine wpList_cells_store rfl _ _ rfl _ rfl _ rfl (by first | (simp [go_sem]; done) | (simp [go_sem, *]; done)) ?_; intro w1_ hw1_; simp [go_sem] at hw1_; subst hw1_; try simp only [Act.put, List.setIfInBounds_toArray, List.set_cons_succ, List.set_cons_zero]))
          try simp only [Act.put, List.setIfInBounds_toArray, List.set_cons_succ, List.set_cons_zero]
          go_meet
          case rel => exact ⟨_, _, by rw [← HBI.out]; rfl⟩
        · have hb' : (b == 1) = false := by rw [beq_eq_false_iff_ne]; exact hbit
          have HBI := Lib.hid (show b = 0 by omega)
          rw [hb']
          clear hb' b0 hb hbit
          go_wp2_with fail
          go_meet
          case rel => exact ⟨_, _, by rw [HBI.out, Int.add_zero]; rfl⟩
      case rest =>
        obtain ⟨J4, d4, rfl⟩ := hcut
        have F7 := Lib.hid (fits_of c' (by have := HC1.out; have := HCC.out; omega))
        clear e1 e2 e3 g1 hy y0 hb p0 p1
        go_wp2_with (first | (refine wpList_num_load rfl _ rfl _ rfl (by first | (simp [go_sem]; done) | (simp [go_sem, *]; done)) ?_; intro c_ hc_; simp [go_sem] at hc_; subst hc_; try simp only [Act.put, List.setIfInBounds_toArray, List.set_cons_succ, List.set_cons_zero]) | (refine wpList_cells_store rfl _ _ rfl _ rfl _ rfl (by first | (simp [go_sem]; done) | (simp [go_sem, *]; done)) ?_; intro w1_ hw1_; simp [go_sem] at hw1_; subst hw1_; try simp only [Act.put, List.setIfInBounds_toArray, List.set_cons_succ, List.set_cons_zero]))
        refine (r_size' (r + r + b) c' F5.out F7.out _).mono ?_
        rintro e w' ⟨rfl, J5, d5, rfl⟩
        rw [HCC.out, show ((r + r + b).natAbs : Int) = r + r + b by omega]
        obtain ⟨HS1, HS2⟩ := div_step X C k b r q c0 HB1.out HQE.out HRE.out
        by_cases hge : C ≤ r + r + b
        · have hsg : 0 ≤ sgn (r + r + b - C) := by rcases sgn_cases (r + r + b - C) with h | h | h <;> omega
          have HFQ := Lib.hid (HS2 (by omega))
          have F8 := Lib.hid (fits_of ((c'.natAbs : Int)) (by have := HC1.out; have := HCC.out; omega))
          have F9 := Lib.hid (fits_of (r + r + b + -(c'.natAbs : Int)) (by have := HC1.out; have := HCC.out; omega))
          have F10 := Lib.hid (fits_of (q + q + 1) (by have := HX1.out; have := HQ1.out; omega))
          have F11 := Lib.hid (fits_of 1 (by decide))
          generalize sgn (r + r + b - C) = g at *
          clear HS1 HS2 hge b0
          have HGB := Lib.hid (show decide (0 ≤ g) = true by simp; omega)
          clear hsg
          go_upto_if 36 with (first | (refine wpList_num_load rfl _ rfl _ rfl (by first | (simp [go_sem]; done) | (simp [go_sem, *]; done)) ?_; intro c_ hc_; simp [go_sem] at hc_; subst hc_; try simp only [Act.put, List.setIfInBounds_toArray, List.set_cons_succ, List.set_cons_zero]) | (refine wpList_cells_store rfl _ _ rfl _ rfl _ rfl (by first | (simp [go_sem]; done) | (simp [go_sem, *]; done)) ?_; intro w1_ hw1_; simp [go_sem] at hw1_; subst hw1_; try simp only [Act.put, List.setIfInBounds_toArray, List.set_cons_succ, List.set_cons_zero]))
          rw [HGB.out]
          go_upto_region 11 with (first | (refine wpList_num_load rfl _ rfl _ rfl (by first | (simp [go_sem]; done) | (simp [go_sem, *]; done)) ?_; intro c_ hc_; simp [go_sem] at hc_; subst hc_; try simp only [Act.put, List.setIfInBounds_toArray, List.set_cons_succ, List.set_cons_zero]) | (refine wpList_cells_store rfl _ _ rfl _ rfl _ rfl (by first | (simp [go_sem]; done) | (simp [go_sem, *]; done)) ?_; intro w1_ hw1_; simp [go_sem] at hw1_; subst hw1_; try simp only [Act.put, List.setIfInBounds_toArray, List.set_cons_succ, List.set_cons_zero]))
          refine region_quiet_tail (C := Cls (((((w.alloc (.cells Cx 49)).alloc (.cells (cellsOf (c'.natAbs : Int)) 49)).alloc (.cells (numCells false (List.replicate 12 0)) 49)).alloc (.cells (cellsOf (q + q)) 49)).alloc (.cells (cellsOf (r + r + b)) 49))) 4 (by kernel_rfl) (by kernel_rfl) ⟨_, _, rfl⟩ ?_
          simp only [List.take_succ_cons, List.take_zero, List.drop_succ_cons, List.drop_zero]
          (refine q_load rfl _ _ rfl _ Try.underlying49 rfl 13 (by kernel_rfl) _ rfl (by simp [go_sem]) _ (by simp [go_sem]; rfl) (by simp [go_sem]) ?_)
          (refine q_load rfl _ _ rfl _ Try.underlying49 rfl 13 (by kernel_rfl) _ rfl (by simp [go_sem]) _ (by simp [go_sem]; rfl) (by simp [go_sem]) ?_)
          refine q_call rfl 43 _ _ rfl #[.agg (cellsOf (c'.natAbs : Int))] (by simp [Act.eval, Act.put]) (fun _ => by kernel_rfl) _ (r_Less' _ F8.out) ?_
          refine q_call rfl 36 _ _ rfl #[.agg (cellsOf (r + r + b)), .agg (cellsOf (-(c'.natAbs : Int)))] (by simp [Act.eval, Act.put]) (fun _ => by kernel_rfl) _ (r_Plus' _ _ F5.out (by unfold Fits; rw [Int.natAbs_neg]; exact F8.out) F9.out) ?_
          refine wpQuiet_nil ?_
          rintro w6 ⟨J6, d6, rfl⟩
          go_wp2_with (first | (refine wpList_num_load rfl _ rfl _ rfl (by first | (simp [go_sem]; done) | (simp [go_sem, *]; done)) ?_; intro c_ hc_; simp [go_sem] at hc_; subst hc_; try simp only [Act.put, List.setIfInBounds_toArray, List.set_cons_succ, List.set_cons_zero]) | (refine wpList_cells_store rfl _ _ rfl _ rfl _ rfl (by first | (simp [go_sem]; done) | (simp [go_sem, *]; done)) ?_; intro w1_ hw1_; simp [go_sem] at hw1_; subst hw1_; try simp only [Act.put, List.setIfInBounds_toArray, List.set_cons_succ, List.set_cons_zero]))
          try simp only [Act.put, List.setIfInBounds_toArray, List.set_cons_succ, List.set_cons_zero]
          go_upto_region 12 with (first | (refine wpList_num_load rfl _ rfl _ rfl (by first | (simp [go_sem]; done) | (simp [go_sem, *]; done)) ?_; intro c_ hc_; simp [go_sem] at hc_; subst hc_; try simp only [Act.put, List.setIfInBounds_toArray, List.set_cons_succ, List.set_cons_zero]) | (refine wpList_cells_store rfl _ _ rfl _ rfl _ rfl (by first | (simp [go_sem]; done) | (simp [go_sem, *]; done)) ?_; intro w1_ hw1_; simp [go_sem] at hw1_; subst hw1_; try simp only [Act.put, List.setIfInBounds_toArray, List.set_cons_succ, List.set_cons_zero]))
          refine region_quiet_tail (C := Cls (((((w.alloc (.cells Cx 49)).alloc (.cells (cellsOf (c'.natAbs : Int)) 49)).alloc (.cells (numCells false (List.replicate 12 0)) 49)).alloc (.cells (cellsOf (q + q)) 49)).alloc (.cells (cellsOf (r + r + b + -(c'.natAbs : Int))) 49))) 3 (by kernel_rfl) (by kernel_rfl) ⟨_, _, rfl⟩ ?_
          simp only [List.take_succ_cons, List.take_zero, List.drop_succ_cons, List.drop_zero]
          (refine q_load rfl _ _ rfl _ Try.underlying49 rfl 13 (by kernel_rfl) _ rfl (by simp [go_sem]) _ (by simp [go_sem]; rfl) (by simp [go_sem]) ?_)
          refine q_call rfl 33 _ _ rfl #[.int .i64 1] (by simp [Act.eval]) (fun _ => by kernel_rfl) _ (r_Of' 1 (by decide) (by decide)) ?_
          refine q_call rfl 36 _ _ rfl #[.agg (cellsOf (q + q)), .agg (cellsOf 1)] (by simp [Act.eval, Act.put]) (fun _ => by kernel_rfl) _ (r_Plus' (q + q) 1 F2.out F11.out F10.out) ?_
          refine wpQuiet_nil ?_
          rintro w7 ⟨J7, d7, rfl⟩
          go_wp2_with (first | (refine wpList_num_load rfl _ rfl _ rfl (by first | (simp [go_sem]; done) | (simp [go_sem, *]; done)) ?_; intro c_ hc_; simp [go_sem] at hc_; subst hc_; try simp only [Act.put, List.setIfInBounds_toArray, List.set_cons_succ, List.set_cons_zero]) | (refine wpList_cells_store rfl _ _ rfl _ rfl _ rfl (by first | (simp [go_sem]; done) | (simp [go_sem, *]; done)) ?_; intro w1_ hw1_; simp [go_sem] at hw1_; subst hw1_; try simp only [Act.put, List.setIfInBounds_toArray, List.set_cons_succ, List.set_cons_zero]))
          go_roundw
          case rel => exact ⟨k, J7, d7, (c'.natAbs : Int), by go_num, by omega, by rw [Int.natAbs_natCast]; exact HCC.out, by rw [HFQ.out.1, HFQ.out.2, show 2 * q + 1 = q + q + 1 by omega, show 2 * r + b - C = r + r + b + -(c'.natAbs : Int) by rw [HCC.out]; omega]; rfl⟩
          case measure => simp [intOf]
        · have hsg : sgn (r + r + b - C) < 0 := by rcases sgn_cases (r + r + b - C) with h | h | h <;> omega
          have HFQ := Lib.hid (HS1 (by omega))
          generalize sgn (r + r + b - C) = g at *
          have HGB := Lib.hid (show decide (0 ≤ g) = false by simp; omega)
          clear HS1 HS2 hge b0 hsg
          go_upto_if 36 with (first | (refine wpList_num_load rfl _ rfl _ rfl (by first | (simp [go_sem]; done) | (simp [go_sem, *]; done)) ?_; intro c_ hc_; simp [go_sem] at hc_; subst hc_; try simp only [Act.put, List.setIfInBounds_toArray, List.set_cons_succ, List.set_cons_zero]) | (refine wpList_cells_store rfl _ _ rfl _ rfl _ rfl (by first | (simp [go_sem]; done) | (simp [go_sem, *]; done)) ?_; intro w1_ hw1_; simp [go_sem] at hw1_; subst hw1_; try simp only [Act.put, List.setIfInBounds_toArray, List.set_cons_succ, List.set_cons_zero]))
          rw [HGB.out]
          go_wp2_with fail
          go_roundw
          case rel => exact ⟨k, _, _, c', by go_num, by omega, HCC.out, by rw [HFQ.out.1, HFQ.out.2, show 2 * q = q + q by omega, show 2 * r + b = r + r + b by omega]; rfl⟩
          case measure => simp [intOf]
end Go.Proofs.Ytgnmoneiiogoaaa

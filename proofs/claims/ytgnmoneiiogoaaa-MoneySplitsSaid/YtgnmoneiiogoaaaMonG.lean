/- Contract of apportionref02's greater: is one rest greater than another. Conditions: the arguments are ints. -/
import Derived.Test.YtgnmoneiiogoaaaNumH
import Derived.Test.YtgnmoneiiogoaaaSumQ
import Derived.Test.YtgnmoneiiogoaaaPlus2
namespace Go.Proofs.Ytgnmoneiiogoaaa
set_option linter.unusedVariables false
set_option linter.unusedSimpArgs false
open Go.RowKit

theorem cls_drawn (w : World) : Cls w { w with drawn := w.drawn + 1 } := ⟨#[], w.drawn + 1, by unfold World.plus; simp⟩

theorem fits_big (z : Int) (h : z.natAbs ≤ 1361129467683753853853498429727072845824) : Fits z := by
  unfold Fits
  rw [show (65536 : Int) ^ 12 = 6277101735386680763835789423207666416102355444464034512896 by decide]
  omega

theorem r_Mul' (x y : Int) (hx : x.natAbs ≤ 9223372036854775808) (hy : y.natAbs ≤ 9223372036854775808) (w : World) :
    Calls Try.prog 34 #[.agg (cellsOf x), .agg (cellsOf y)] w fun e w' => e = .returned (.agg (cellsOf (x * y))) ∧ Junk w w' := r_Mul x y (by omega) (by omega) w

set_option maxRecDepth 100000 in
set_option maxHeartbeats 2000000 in
theorem m_greater_core (s a n b m u : Int) (X Y Z : Int) (w : World)
    (Os : Hid (∀ w, Calls Try.prog 33 #[.int .i64 s] w fun e w' => e = .returned (.agg (cellsOf s)) ∧ Junk w w'))
    (Oa : Hid (∀ w, Calls Try.prog 33 #[.int .i64 a] w fun e w' => e = .returned (.agg (cellsOf a)) ∧ Junk w w'))
    (On : Hid (∀ w, Calls Try.prog 33 #[.int .i64 n] w fun e w' => e = .returned (.agg (cellsOf n)) ∧ Junk w w'))
    (Ob : Hid (∀ w, Calls Try.prog 33 #[.int .i64 b] w fun e w' => e = .returned (.agg (cellsOf b)) ∧ Junk w w'))
    (Om : Hid (∀ w, Calls Try.prog 33 #[.int .i64 m] w fun e w' => e = .returned (.agg (cellsOf m)) ∧ Junk w w'))
    (Ou : Hid (∀ w, Calls Try.prog 33 #[.int .i64 u] w fun e w' => e = .returned (.agg (cellsOf u)) ∧ Junk w w'))
    (p1 p2 p3 p4 : Int)
    (M1 : Hid (∀ w, Calls Try.prog 34 #[.agg (cellsOf s), .agg (cellsOf a)] w fun e w' => e = .returned (.agg (cellsOf p1)) ∧ Junk w w'))
    (M2 : Hid (∀ w, Calls Try.prog 34 #[.agg (cellsOf n), .agg (cellsOf u)] w fun e w' => e = .returned (.agg (cellsOf p2)) ∧ Junk w w'))
    (M3 : Hid (∀ w, Calls Try.prog 34 #[.agg (cellsOf s), .agg (cellsOf b)] w fun e w' => e = .returned (.agg (cellsOf p3)) ∧ Junk w w'))
    (M4 : Hid (∀ w, Calls Try.prog 34 #[.agg (cellsOf m), .agg (cellsOf u)] w fun e w' => e = .returned (.agg (cellsOf p4)) ∧ Junk w w'))
    (L2 : Hid (∀ w, Calls Try.prog 43 #[.agg (cellsOf p2)] w fun e w' => e = .returned (.agg (cellsOf (-p2))) ∧ Junk w w'))
    (L4 : Hid (∀ w, Calls Try.prog 43 #[.agg (cellsOf p4)] w fun e w' => e = .returned (.agg (cellsOf (-p4))) ∧ Junk w w'))
    (P1 : Hid (∀ w, Calls Try.prog 36 #[.agg (cellsOf p1), .agg (cellsOf (-p2))] w fun e w' => e = .returned (.agg (cellsOf X)) ∧ Junk w w'))
    (P2 : Hid (∀ w, Calls Try.prog 36 #[.agg (cellsOf p3), .agg (cellsOf (-p4))] w fun e w' => e = .returned (.agg (cellsOf Y)) ∧ Junk w w'))
    (LY : Hid (∀ w, Calls Try.prog 43 #[.agg (cellsOf Y)] w fun e w' => e = .returned (.agg (cellsOf (-Y))) ∧ Junk w w'))
    (PZ : Hid (∀ w, Calls Try.prog 36 #[.agg (cellsOf X), .agg (cellsOf (-Y))] w fun e w' => e = .returned (.agg (cellsOf Z)) ∧ Junk w w'))
    (SZ : Hid (∀ w, Calls Try.prog 42 #[.agg (cellsOf Z)] w fun e w' => e = .returned (.int .i64 (sgn Z)) ∧ Junk w w')) :
    Calls Try.prog 28 #[.int .i64 s, .int .i64 a, .int .i64 n, .int .i64 b, .int .i64 m, .int .i64 u] w fun e w' => e = .returned (.bool (decide (0 < sgn Z))) ∧ Junk w w' := by
  generalize hS : cellsOf s = cs at *
  generalize hA : cellsOf a = ca at *
  generalize hN : cellsOf n = cn at *
  generalize hB : cellsOf b = cb at *
  generalize hM : cellsOf m = cm at *
  generalize hU : cellsOf u = cu at *
  clear hS hA hN hB hM hU
  go_enter Try.func28, Try.ntmps28
  go_wp2_with (first | (refine wpList_num_load rfl _ rfl _ rfl (by first | (simp [go_sem]; done) | (simp [go_sem, *]; done)) ?_; intro c_ hc_; simp [go_sem] at hc_; subst hc_; try simp only [Act.put, List.setIfInBounds_toArray, List.set_cons_succ, List.set_cons_zero]) | (refine wpList_cells_store rfl _ _ rfl _ rfl _ rfl (by first | (simp [go_sem]; done) | (simp [go_sem, *]; done)) ?_; intro w1_ hw1_; simp [go_sem] at hw1_; subst hw1_; try simp only [Act.put, List.setIfInBounds_toArray, List.set_cons_succ, List.set_cons_zero]))
  refine (Os.out _).mono ?_; rintro e w' ⟨rfl, J1, d1, rfl⟩
  go_wp2_with (first | (refine wpList_num_load rfl _ rfl _ rfl (by first | (simp [go_sem]; done) | (simp [go_sem, *]; done)) ?_; intro c_ hc_; simp [go_sem] at hc_; subst hc_; try simp only [Act.put, List.setIfInBounds_toArray, List.set_cons_succ, List.set_cons_zero]) | (refine wpList_cells_store rfl _ _ rfl _ rfl _ rfl (by first | (simp [go_sem]; done) | (simp [go_sem, *]; done)) ?_; intro w1_ hw1_; simp [go_sem] at hw1_; subst hw1_; try simp only [Act.put, List.setIfInBounds_toArray, List.set_cons_succ, List.set_cons_zero]))
  refine (Oa.out _).mono ?_; rintro e w' ⟨rfl, J2, d2, rfl⟩
  go_wp2_with (first | (refine wpList_num_load rfl _ rfl _ rfl (by first | (simp [go_sem]; done) | (simp [go_sem, *]; done)) ?_; intro c_ hc_; simp [go_sem] at hc_; subst hc_; try simp only [Act.put, List.setIfInBounds_toArray, List.set_cons_succ, List.set_cons_zero]) | (refine wpList_cells_store rfl _ _ rfl _ rfl _ rfl (by first | (simp [go_sem]; done) | (simp [go_sem, *]; done)) ?_; intro w1_ hw1_; simp [go_sem] at hw1_; subst hw1_; try simp only [Act.put, List.setIfInBounds_toArray, List.set_cons_succ, List.set_cons_zero]))
  refine (M1.out _).mono ?_; rintro e w' ⟨rfl, J3, d3, rfl⟩
  go_wp2_with (first | (refine wpList_num_load rfl _ rfl _ rfl (by first | (simp [go_sem]; done) | (simp [go_sem, *]; done)) ?_; intro c_ hc_; simp [go_sem] at hc_; subst hc_; try simp only [Act.put, List.setIfInBounds_toArray, List.set_cons_succ, List.set_cons_zero]) | (refine wpList_cells_store rfl _ _ rfl _ rfl _ rfl (by first | (simp [go_sem]; done) | (simp [go_sem, *]; done)) ?_; intro w1_ hw1_; simp [go_sem] at hw1_; subst hw1_; try simp only [Act.put, List.setIfInBounds_toArray, List.set_cons_succ, List.set_cons_zero]))
  refine (On.out _).mono ?_; rintro e w' ⟨rfl, J4, d4, rfl⟩
  go_wp2_with (first | (refine wpList_num_load rfl _ rfl _ rfl (by first | (simp [go_sem]; done) | (simp [go_sem, *]; done)) ?_; intro c_ hc_; simp [go_sem] at hc_; subst hc_; try simp only [Act.put, List.setIfInBounds_toArray, List.set_cons_succ, List.set_cons_zero]) | (refine wpList_cells_store rfl _ _ rfl _ rfl _ rfl (by first | (simp [go_sem]; done) | (simp [go_sem, *]; done)) ?_; intro w1_ hw1_; simp [go_sem] at hw1_; subst hw1_; try simp only [Act.put, List.setIfInBounds_toArray, List.set_cons_succ, List.set_cons_zero]))
  refine (Ou.out _).mono ?_; rintro e w' ⟨rfl, J5, d5, rfl⟩
  go_wp2_with (first | (refine wpList_num_load rfl _ rfl _ rfl (by first | (simp [go_sem]; done) | (simp [go_sem, *]; done)) ?_; intro c_ hc_; simp [go_sem] at hc_; subst hc_; try simp only [Act.put, List.setIfInBounds_toArray, List.set_cons_succ, List.set_cons_zero]) | (refine wpList_cells_store rfl _ _ rfl _ rfl _ rfl (by first | (simp [go_sem]; done) | (simp [go_sem, *]; done)) ?_; intro w1_ hw1_; simp [go_sem] at hw1_; subst hw1_; try simp only [Act.put, List.setIfInBounds_toArray, List.set_cons_succ, List.set_cons_zero]))
  refine (M2.out _).mono ?_; rintro e w' ⟨rfl, J6, d6, rfl⟩
  go_wp2_with (first | (refine wpList_num_load rfl _ rfl _ rfl (by first | (simp [go_sem]; done) | (simp [go_sem, *]; done)) ?_; intro c_ hc_; simp [go_sem] at hc_; subst hc_; try simp only [Act.put, List.setIfInBounds_toArray, List.set_cons_succ, List.set_cons_zero]) | (refine wpList_cells_store rfl _ _ rfl _ rfl _ rfl (by first | (simp [go_sem]; done) | (simp [go_sem, *]; done)) ?_; intro w1_ hw1_; simp [go_sem] at hw1_; subst hw1_; try simp only [Act.put, List.setIfInBounds_toArray, List.set_cons_succ, List.set_cons_zero]))
  refine (L2.out _).mono ?_; rintro e w' ⟨rfl, J7, d7, rfl⟩
  go_wp2_with (first | (refine wpList_num_load rfl _ rfl _ rfl (by first | (simp [go_sem]; done) | (simp [go_sem, *]; done)) ?_; intro c_ hc_; simp [go_sem] at hc_; subst hc_; try simp only [Act.put, List.setIfInBounds_toArray, List.set_cons_succ, List.set_cons_zero]) | (refine wpList_cells_store rfl _ _ rfl _ rfl _ rfl (by first | (simp [go_sem]; done) | (simp [go_sem, *]; done)) ?_; intro w1_ hw1_; simp [go_sem] at hw1_; subst hw1_; try simp only [Act.put, List.setIfInBounds_toArray, List.set_cons_succ, List.set_cons_zero]))
  refine (P1.out _).mono ?_; rintro e w' ⟨rfl, J8, d8, rfl⟩
  go_wp2_with (first | (refine wpList_num_load rfl _ rfl _ rfl (by first | (simp [go_sem]; done) | (simp [go_sem, *]; done)) ?_; intro c_ hc_; simp [go_sem] at hc_; subst hc_; try simp only [Act.put, List.setIfInBounds_toArray, List.set_cons_succ, List.set_cons_zero]) | (refine wpList_cells_store rfl _ _ rfl _ rfl _ rfl (by first | (simp [go_sem]; done) | (simp [go_sem, *]; done)) ?_; intro w1_ hw1_; simp [go_sem] at hw1_; subst hw1_; try simp only [Act.put, List.setIfInBounds_toArray, List.set_cons_succ, List.set_cons_zero]))
  refine (Os.out _).mono ?_; rintro e w' ⟨rfl, K1, e1, rfl⟩
  go_wp2_with (first | (refine wpList_num_load rfl _ rfl _ rfl (by first | (simp [go_sem]; done) | (simp [go_sem, *]; done)) ?_; intro c_ hc_; simp [go_sem] at hc_; subst hc_; try simp only [Act.put, List.setIfInBounds_toArray, List.set_cons_succ, List.set_cons_zero]) | (refine wpList_cells_store rfl _ _ rfl _ rfl _ rfl (by first | (simp [go_sem]; done) | (simp [go_sem, *]; done)) ?_; intro w1_ hw1_; simp [go_sem] at hw1_; subst hw1_; try simp only [Act.put, List.setIfInBounds_toArray, List.set_cons_succ, List.set_cons_zero]))
  refine (Ob.out _).mono ?_; rintro e w' ⟨rfl, K2, e2, rfl⟩
  go_wp2_with (first | (refine wpList_num_load rfl _ rfl _ rfl (by first | (simp [go_sem]; done) | (simp [go_sem, *]; done)) ?_; intro c_ hc_; simp [go_sem] at hc_; subst hc_; try simp only [Act.put, List.setIfInBounds_toArray, List.set_cons_succ, List.set_cons_zero]) | (refine wpList_cells_store rfl _ _ rfl _ rfl _ rfl (by first | (simp [go_sem]; done) | (simp [go_sem, *]; done)) ?_; intro w1_ hw1_; simp [go_sem] at hw1_; subst hw1_; try simp only [Act.put, List.setIfInBounds_toArray, List.set_cons_succ, List.set_cons_zero]))
  refine (M3.out _).mono ?_; rintro e w' ⟨rfl, K3, e3, rfl⟩
  go_wp2_with (first | (refine wpList_num_load rfl _ rfl _ rfl (by first | (simp [go_sem]; done) | (simp [go_sem, *]; done)) ?_; intro c_ hc_; simp [go_sem] at hc_; subst hc_; try simp only [Act.put, List.setIfInBounds_toArray, List.set_cons_succ, List.set_cons_zero]) | (refine wpList_cells_store rfl _ _ rfl _ rfl _ rfl (by first | (simp [go_sem]; done) | (simp [go_sem, *]; done)) ?_; intro w1_ hw1_; simp [go_sem] at hw1_; subst hw1_; try simp only [Act.put, List.setIfInBounds_toArray, List.set_cons_succ, List.set_cons_zero]))
  refine (Om.out _).mono ?_; rintro e w' ⟨rfl, K4, e4, rfl⟩
  go_wp2_with (first | (refine wpList_num_load rfl _ rfl _ rfl (by first | (simp [go_sem]; done) | (simp [go_sem, *]; done)) ?_; intro c_ hc_; simp [go_sem] at hc_; subst hc_; try simp only [Act.put, List.setIfInBounds_toArray, List.set_cons_succ, List.set_cons_zero]) | (refine wpList_cells_store rfl _ _ rfl _ rfl _ rfl (by first | (simp [go_sem]; done) | (simp [go_sem, *]; done)) ?_; intro w1_ hw1_; simp [go_sem] at hw1_; subst hw1_; try simp only [Act.put, List.setIfInBounds_toArray, List.set_cons_succ, List.set_cons_zero]))
  refine (Ou.out _).mono ?_; rintro e w' ⟨rfl, K5, e5, rfl⟩
  go_wp2_with (first | (refine wpList_num_load rfl _ rfl _ rfl (by first | (simp [go_sem]; done) | (simp [go_sem, *]; done)) ?_; intro c_ hc_; simp [go_sem] at hc_; subst hc_; try simp only [Act.put, List.setIfInBounds_toArray, List.set_cons_succ, List.set_cons_zero]) | (refine wpList_cells_store rfl _ _ rfl _ rfl _ rfl (by first | (simp [go_sem]; done) | (simp [go_sem, *]; done)) ?_; intro w1_ hw1_; simp [go_sem] at hw1_; subst hw1_; try simp only [Act.put, List.setIfInBounds_toArray, List.set_cons_succ, List.set_cons_zero]))
  refine (M4.out _).mono ?_; rintro e w' ⟨rfl, K6, e6, rfl⟩
  go_wp2_with (first | (refine wpList_num_load rfl _ rfl _ rfl (by first | (simp [go_sem]; done) | (simp [go_sem, *]; done)) ?_; intro c_ hc_; simp [go_sem] at hc_; subst hc_; try simp only [Act.put, List.setIfInBounds_toArray, List.set_cons_succ, List.set_cons_zero]) | (refine wpList_cells_store rfl _ _ rfl _ rfl _ rfl (by first | (simp [go_sem]; done) | (simp [go_sem, *]; done)) ?_; intro w1_ hw1_; simp [go_sem] at hw1_; subst hw1_; try simp only [Act.put, List.setIfInBounds_toArray, List.set_cons_succ, List.set_cons_zero]))
  refine (L4.out _).mono ?_; rintro e w' ⟨rfl, K7, e7, rfl⟩
  go_wp2_with (first | (refine wpList_num_load rfl _ rfl _ rfl (by first | (simp [go_sem]; done) | (simp [go_sem, *]; done)) ?_; intro c_ hc_; simp [go_sem] at hc_; subst hc_; try simp only [Act.put, List.setIfInBounds_toArray, List.set_cons_succ, List.set_cons_zero]) | (refine wpList_cells_store rfl _ _ rfl _ rfl _ rfl (by first | (simp [go_sem]; done) | (simp [go_sem, *]; done)) ?_; intro w1_ hw1_; simp [go_sem] at hw1_; subst hw1_; try simp only [Act.put, List.setIfInBounds_toArray, List.set_cons_succ, List.set_cons_zero]))
  refine (P2.out _).mono ?_; rintro e w' ⟨rfl, K8, e8, rfl⟩
  go_upto_region 3 with (first | (refine wpList_num_load rfl _ rfl _ rfl (by first | (simp [go_sem]; done) | (simp [go_sem, *]; done)) ?_; intro c_ hc_; simp [go_sem] at hc_; subst hc_; try simp only [Act.put, List.setIfInBounds_toArray, List.set_cons_succ, List.set_cons_zero]) | (refine wpList_cells_store rfl _ _ rfl _ rfl _ rfl (by first | (simp [go_sem]; done) | (simp [go_sem, *]; done)) ?_; intro w1_ hw1_; simp [go_sem] at hw1_; subst hw1_; try simp only [Act.put, List.setIfInBounds_toArray, List.set_cons_succ, List.set_cons_zero]))
  refine wp_region_quiet (C := Cls ((((w.plus (J1 ++ (J2 ++ (J3 ++ (J4 ++ (J5 ++ (J6 ++ (J7 ++ J8))))))) d8).alloc (.cells (cellsOf X) 49)).plus (K1 ++ (K2 ++ (K3 ++ (K4 ++ (K5 ++ (K6 ++ (K7 ++ K8))))))) e8).alloc (.cells (cellsOf Y) 49))) (by kernel_rfl) (by kernel_rfl) (cls_drawn _) ?_
  (refine q_load rfl _ _ rfl _ Try.underlying49 rfl 13 (by kernel_rfl) _ rfl (by simp [go_sem]) _ (by simp [go_sem]; rfl) (by simp [go_sem]) ?_)
  try simp only [Act.put, List.setIfInBounds_toArray, List.set_cons_succ, List.set_cons_zero]
  (refine q_load rfl _ _ rfl _ Try.underlying49 rfl 13 (by kernel_rfl) _ rfl (by simp [go_sem]) _ (by simp [go_sem]; rfl) (by simp [go_sem]) ?_)
  try simp only [Act.put, List.setIfInBounds_toArray, List.set_cons_succ, List.set_cons_zero]
  refine q_call rfl 43 _ _ rfl #[.agg (cellsOf Y)] (by simp [Act.eval]) (fun _ => by kernel_rfl) _ LY.out ?_
  try simp only [Act.put, List.setIfInBounds_toArray, List.set_cons_succ, List.set_cons_zero]
  refine q_call rfl 36 _ _ rfl #[.agg (cellsOf X), .agg (cellsOf (-Y))] (by simp [Act.eval]) (fun _ => by kernel_rfl) _ PZ.out ?_
  try simp only [Act.put, List.setIfInBounds_toArray, List.set_cons_succ, List.set_cons_zero]
  refine q_call rfl 42 _ _ rfl #[.agg (cellsOf Z)] (by simp [Act.eval]) (fun _ => by kernel_rfl) _ SZ.out ?_
  try simp only [Act.put, List.setIfInBounds_toArray, List.set_cons_succ, List.set_cons_zero]
  refine q_val rfl (.bool (decide (0 < sgn Z))) (fun w1 _ => by simp [execOp, Act.eval, go_sem]; done) ?_
  try simp only [Act.put, List.setIfInBounds_toArray, List.set_cons_succ, List.set_cons_zero]
  refine q_assign rfl _ rfl (.bool (decide (0 < sgn Z))) rfl ?_
  try simp only [Act.put, List.setIfInBounds_toArray, List.set_cons_succ, List.set_cons_zero]
  refine wpQuiet_nil ?_
  rintro w4 ⟨J9, d9, rfl⟩
  try simp only [Act.put, List.setIfInBounds_toArray, List.set_cons_succ, List.set_cons_zero]
  go_wp2_with fail
  go_ret
  exact ⟨rfl, junk_of_below (by (repeat' (first | (with_reducible exact Below.refl _ _) | (with_reducible assumption) | (with_reducible refine Below.alloc ?_ ?_ _) | (with_reducible refine Below.drew ?_) | (with_reducible refine below_drewN ?_ _) | (with_reducible refine below_plus ?_ ?_ _ _) | (with_reducible refine Below.setCell ?_ ?_ _) | (with_reducible refine Below.setRow ?_ ?_ _) | go_size)))⟩

theorem m_greater (s a n b m u : Int) (s0 : -9223372036854775808 ≤ s) (s1 : s ≤ 9223372036854775807) (a0 : -9223372036854775808 ≤ a) (a1 : a ≤ 9223372036854775807) (n0 : -9223372036854775808 ≤ n) (n1 : n ≤ 9223372036854775807)
    (b0 : -9223372036854775808 ≤ b) (b1 : b ≤ 9223372036854775807) (m0 : -9223372036854775808 ≤ m) (m1 : m ≤ 9223372036854775807) (u0 : -9223372036854775808 ≤ u) (u1 : u ≤ 9223372036854775807) (w : World) :
    Calls Try.prog 28 #[.int .i64 s, .int .i64 a, .int .i64 n, .int .i64 b, .int .i64 m, .int .i64 u] w fun e w' => e = .returned (.bool (decide (s * b - m * u < s * a - n * u))) ∧ Junk w w' := by
  have q1 := prod_abs s a (by omega) (by omega)
  have q2 := prod_abs n u (by omega) (by omega)
  have q3 := prod_abs s b (by omega) (by omega)
  have q4 := prod_abs m u (by omega) (by omega)
  have hd : decide (s * b - m * u < s * a - n * u) = decide (0 < sgn (s * a - n * u + -(s * b - m * u))) := by
    have := sgn_cases (s * a - n * u + -(s * b - m * u))
    rw [Bool.eq_iff_iff, decide_eq_true_iff, decide_eq_true_iff]
    omega
  rw [hd]
  refine m_greater_core s a n b m u (s * a - n * u) (s * b - m * u) _ w (Lib.hid (r_Of' s s0 s1)) (Lib.hid (r_Of' a a0 a1)) (Lib.hid (r_Of' n n0 n1)) (Lib.hid (r_Of' b b0 b1)) (Lib.hid (r_Of' m m0 m1)) (Lib.hid (r_Of' u u0 u1))
    (s * a) (n * u) (s * b) (m * u) (Lib.hid (r_Mul' s a (by omega) (by omega))) (Lib.hid (r_Mul' n u (by omega) (by omega))) (Lib.hid (r_Mul' s b (by omega) (by omega))) (Lib.hid (r_Mul' m u (by omega) (by omega)))
    (Lib.hid (r_Less' _ (fits_big _ (by omega)))) (Lib.hid (r_Less' _ (fits_big _ (by omega)))) (Lib.hid ?_) (Lib.hid ?_) (Lib.hid (r_Less' _ (fits_big _ (by omega)))) (Lib.hid (r_Plus' _ _ (fits_big _ (by omega)) (fits_big _ (by omega)) (fits_big _ (by omega)))) (Lib.hid ?_)
  · have := r_Plus' (s * a) (-(n * u)) (fits_big _ (by omega)) (fits_big _ (by omega)) (fits_big _ (by omega))
    rw [← Int.sub_eq_add_neg] at this; exact this
  · have := r_Plus' (s * b) (-(m * u)) (fits_big _ (by omega)) (fits_big _ (by omega)) (fits_big _ (by omega))
    rw [← Int.sub_eq_add_neg] at this; exact this
  · have := r_Sgn (s * a - n * u + -(s * b - m * u)) (fits_big _ (by omega))
    rw [num_agg] at this; exact this
end Go.Proofs.Ytgnmoneiiogoaaa

/- The law PointKnown: the walk. -/
import Derived.Test.YtlfjbbelanccbaaPtJ
import Derived.Test.YtlfjbbelanccbaaQAll
import Derived.Test.YtlfjbbelanccbaaLtx
namespace Go.Proofs.Ytlfjbbelanccbaa
set_option linter.unusedVariables false
set_option linter.unusedSimpArgs false
open Go.RowKit

theorem m_is {x y u v p q e : Int} (h : (moveX x y u v, moveY x y u v, moveE x y u v) = (p, q, e)) (w : World) : Calls Try.prog 11 #[.agg #[.int .i64 x, .int .i64 y], .agg #[.int .i64 u, .int .i64 v]] w fun e' w' => e' = .returned (.tuple #[.agg #[.int .i64 p, .int .i64 q], .int .i64 e]) ∧ Junk w w' := by
  injection h with h1 h2
  injection h2 with h2 h3
  rw [← h1, ← h2, ← h3]; exact n_ptMove x y u v w
theorem i_is {px py lx ly hx hy : Int} (r : Bool) (h : inF px py lx ly hx hy = r) (w : World) : Calls Try.prog 25 #[.agg #[.int .i64 px, .int .i64 py], .agg #[.int .i64 lx, .int .i64 ly, .int .i64 hx, .int .i64 hy]] w fun e w' => e = .returned (.bool r) ∧ Junk w w' := by
  rw [← h]; exact n_ptIn px py lx ly hx hy w
theorem x_is {lx ly hx hy kx ky mx my : Int} (r : Bool) (h : meetF lx ly hx hy kx ky mx my = r) (w : World) : Calls Try.prog 27 #[.agg #[.int .i64 lx, .int .i64 ly, .int .i64 hx, .int .i64 hy], .agg #[.int .i64 kx, .int .i64 ky, .int .i64 mx, .int .i64 my]] w fun e w' => e = .returned (.bool r) ∧ Junk w w' := by
  rw [← h]; exact n_ptMeet lx ly hx hy kx ky mx my w
theorem b_known (w : World) (b : Nat) (h0 : w.cell? ⟨b, 0, none⟩ = some (.int .i64 1)) (h1 : w.cell? ⟨b, 1, none⟩ = some (.int .i64 2)) (h2 : w.cell? ⟨b, 2, none⟩ = some (.int .i64 5)) (h3 : w.cell? ⟨b, 3, none⟩ = some (.int .i64 0)) :
    Calls Try.prog 22 #[.slice (some ⟨b, 0, none⟩) 2 2] w fun e w' => e = .returned (.tuple #[.agg #[.int .i64 1, .int .i64 0, .int .i64 6, .int .i64 3], .bool true]) ∧ Junk w w' := by
  have h := n_ptBounds w (some ⟨b, 0, none⟩) 2 2 [(1, 2), (5, 0)] ⟨rfl, .inr ⟨b, 0, rfl, fun i hi => by
    match i, hi with
    | 0, _ => exact ⟨h0, h1⟩
    | 1, _ => exact ⟨h2, h3⟩⟩⟩ (by decide)
  have e1 : bndOk [(1, 2), (5, 0)] = true := by decide
  have e2 : boxF [(1, 2), (5, 0)] = (1, 0, 6, 3) := by decide
  unfold boxV at h
  rw [e1, e2] at h
  exact h

set_option maxRecDepth 100000 in
set_option maxHeartbeats 4000000 in
theorem l_pointKnown (w : World) : Calls Try.prog 10 #[] w fun e w' => e = .returned (.bool true) ∧ Junk w w' := by
  have HAt := Lib.hid l_ptAt
  have H9 := Lib.hid l_ptAwake
  have HT1 := Lib.hid (t_is (ax := 0) (ay := 0) (bx := 4) (by_ := 0) (cx := 9) (cy := 0) 0 (by decide))
  have HT2 := Lib.hid (t_is (ax := 0) (ay := 0) (bx := 4) (by_ := 0) (cx := 1099511627776) (cy := 0) 0 (by decide))
  have HO1 := Lib.hid (o_is (ax := 3) (ay := 1) (bx := 0) (by_ := 0) (cx := 4) (cy := 2) false (by decide))
  have HO2 := Lib.hid (o_is (ax := 6) (ay := 3) (bx := 0) (by_ := 0) (cx := 4) (cy := 2) false (by decide))
  have HO3 := Lib.hid (o_is (ax := 0) (ay := 0) (bx := 0) (by_ := 0) (cx := 0) (cy := 0) true (by decide))
  have HM := Lib.hid (m_is (x := 1) (y := 2) (u := 3) (v := -4) (p := 4) (q := -2) (e := 0) (by decide))
  have HC := Lib.hid (c_is (ax := 1) (ay := 1) (bx := 0) (by_ := 1) 1 (by decide))
  have HB := Lib.hid b_known
  have HI1 := Lib.hid (i_is (px := 5) (py := 2) (lx := 1) (ly := 0) (hx := 6) (hy := 3) true (by decide))
  have HI2 := Lib.hid (i_is (px := 6) (py := 2) (lx := 1) (ly := 0) (hx := 6) (hy := 3) false (by decide))
  have HX := Lib.hid (x_is (lx := 1) (ly := 0) (hx := 6) (hy := 3) (kx := 6) (ky := 0) (mx := 9) (my := 9) false (by decide))
  have HQ0 := Lib.hid (fun w => l_ptAt (1) (1) w)
  have HQ1 := Lib.hid (fun w => l_ptAt (0) (1) w)
  have HQ2 := Lib.hid (fun w => l_ptAt (4) (-2) w)
  have HQ3 := Lib.hid (fun w => l_ptAt (1) (0) w)
  have HQ4 := Lib.hid (fun w => l_ptAt (6) (3) w)
  have HQ5 := Lib.hid (fun w => l_ptAt (5) (2) w)
  have HQ6 := Lib.hid (fun w => l_ptAt (6) (2) w)
  have HQ7 := Lib.hid (fun w => l_ptAt (6) (0) w)
  have HQ8 := Lib.hid (fun w => l_ptAt (9) (9) w)
  unfold pt at HAt HQ0 HQ1 HQ2 HQ3 HQ4 HQ5 HQ6 HQ7 HQ8
  go_enter Try.func10, Try.ntmps10
  go_upto_region 3 with (first | (go_at_call 29; refine (HAt.out _ _ _).mono ?_; rintro e w1 ⟨rfl, J1, d1, rfl⟩) | (go_at_call 17; (first | (with_reducible refine (HT1.out _).mono ?_) | (with_reducible refine (HT2.out _).mono ?_)); rintro e w1 ⟨rfl, J2, dJ2, rfl⟩) | (go_at_call 19; (first | (with_reducible refine (HO1.out _).mono ?_) | (with_reducible refine (HO2.out _).mono ?_) | (with_reducible refine (HO3.out _).mono ?_)); rintro e w1 ⟨rfl, J3, dJ3, rfl⟩) | (go_at_call 11; (first | (with_reducible refine (HM.out _).mono ?_)); rintro e w1 ⟨rfl, J4, dJ4, rfl⟩))
  go_wp2_with (first | (go_at_call 29; refine (HAt.out _ _ _).mono ?_; rintro e w1 ⟨rfl, J1, d1, rfl⟩))
  refine (HB.out _ _ ?_ ?_ ?_ ?_).mono ?_
  iterate 4 (simp [go_sem])
  rintro e w1 ⟨rfl, J5, d5, rfl⟩
  go_upto_region 4 with fail
  refine region_quiet_all (C := Cls _) (by kernel_rfl) (by kernel_rfl) (cls_drawn _) ?_
  repeat (first | (refine qw_skip (by rfl) ?_; simp only [Act.put, List.setIfInBounds_toArray, List.set_cons_succ, List.set_cons_zero]) | (refine qw_want (by rfl) (fun K hK => ?_); go_simp; first | (refine hK _ ?_; clear hK K) | (apply Exists.intro; refine ⟨?_, hK _ ?_⟩; (rintro w3_ ⟨J3_, d3_, rfl⟩; first | (with_reducible exact rfl) | (go_simp; with_reducible exact rfl) | (go_simp; (first | (with_reducible refine (H9.out _).mono ?_) | (with_reducible refine (HC.out _).mono ?_) | (with_reducible refine (HI1.out _).mono ?_) | (with_reducible refine (HI2.out _).mono ?_) | (with_reducible refine (HX.out _).mono ?_) | (with_reducible refine (HQ0.out _).mono ?_) | (with_reducible refine (HQ1.out _).mono ?_) | (with_reducible refine (HQ2.out _).mono ?_) | (with_reducible refine (HQ3.out _).mono ?_) | (with_reducible refine (HQ4.out _).mono ?_) | (with_reducible refine (HQ5.out _).mono ?_) | (with_reducible refine (HQ6.out _).mono ?_) | (with_reducible refine (HQ7.out _).mono ?_) | (with_reducible refine (HQ8.out _).mono ?_)); rintro e_ w_ ⟨rfl, J4_, d4_, rfl⟩; exact ⟨rfl, J3_ ++ J4_, d4_, by simp only [plus_plus, Array.append_assoc]⟩)); clear hK K)))
  refine qw_nil ?_
  rintro w3 ⟨J6, d6, rfl⟩
  go_wp2
  go_ret
  exact ⟨rfl, junk_of_below (by (repeat' (first | (with_reducible exact Below.refl _ _) | (with_reducible assumption) | (with_reducible refine Below.alloc ?_ ?_ _) | (with_reducible refine Below.drew ?_) | (with_reducible refine below_drewN ?_ _) | (with_reducible refine below_plus ?_ ?_ _ _) | (with_reducible refine Below.setCell ?_ ?_ _) | (with_reducible refine Below.setRow ?_ ?_ _) | go_size)))⟩
end Go.Proofs.Ytlfjbbelanccbaa

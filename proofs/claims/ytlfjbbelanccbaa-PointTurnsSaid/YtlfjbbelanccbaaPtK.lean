/- The law PointTurns: the walk. -/
import Derived.Test.YtlfjbbelanccbaaPtJ
import Derived.Test.YtlfjbbelanccbaaQAll
import Derived.Test.YtlfjbbelanccbaaLtx
namespace Go.Proofs.Ytlfjbbelanccbaa
set_option linter.unusedVariables false
set_option linter.unusedSimpArgs false
open Go.RowKit

set_option maxRecDepth 100000 in
set_option maxHeartbeats 4000000 in
theorem l_pointTurns (w : World) (ax ay bx by_ cx cy : Int) : Calls Try.prog 3 #[pt ax ay, pt bx by_, pt cx cy] w fun e w' => e = .returned (.bool true) ∧ Junk w w' := by
  have HM := Lib.hid (fun w' => n_ptMove ax ay bx by_ w')
  have HR := Lib.hid (fun w' => r_ptMove ax ay bx by_ w')
  have H1 := Lib.hid (fun w' => n_ptValid ax ay w')
  have H2 := Lib.hid (fun w' => r_ptValid ax ay w')
  have H3 := Lib.hid (fun w' => n_ptCompare ax ay bx by_ w')
  have H4 := Lib.hid (fun w' => r_ptCompare ax ay bx by_ w')
  have H5 := Lib.hid (fun w' => n_ptTurn ax ay bx by_ cx cy w')
  have H6 := Lib.hid (fun w' => r_ptTurn ax ay bx by_ cx cy w')
  have H7 := Lib.hid (fun w' => n_ptOn cx cy ax ay bx by_ w')
  have H8 := Lib.hid (fun w' => r_ptOn cx cy ax ay bx by_ w')
  have H9 := Lib.hid l_ptAwake
  unfold pt at *
  generalize okP ax ay = v at *
  generalize cmpF ax ay bx by_ = c at *
  generalize turnF ax ay bx by_ cx cy = t at *
  generalize onB cx cy ax ay bx by_ = o at *
  generalize moveX ax ay bx by_ = mx at *
  generalize moveY ax ay bx by_ = my at *
  generalize moveE ax ay bx by_ = me at *
  go_enter Try.func3, Try.ntmps3
  go_upto_region 3 with (first | (go_at_call 11; refine (HM.out _).mono ?_; rintro e w1 ⟨rfl, J1, d1, rfl⟩) | (go_at_call 12; refine (HR.out _).mono ?_; rintro e w1 ⟨rfl, J2, d2, rfl⟩))
  refine region_quiet_all (C := Cls _) (by kernel_rfl) (by kernel_rfl) (cls_drawn _) ?_
  repeat (first | (refine qw_skip (by rfl) ?_; simp only [Act.put, List.setIfInBounds_toArray, List.set_cons_succ, List.set_cons_zero]) | (refine qw_want (by rfl) (fun K hK => ?_); go_simp; first | (refine hK _ ?_; clear hK K) | (apply Exists.intro; refine ⟨?_, hK _ ?_⟩; (rintro w3_ ⟨J3_, d3_, rfl⟩; first | (with_reducible exact rfl) | (go_simp; with_reducible exact rfl) | (go_simp; (first | (with_reducible refine (H1.out _).mono ?_) | (with_reducible refine (H2.out _).mono ?_) | (with_reducible refine (H3.out _).mono ?_) | (with_reducible refine (H4.out _).mono ?_) | (with_reducible refine (H5.out _).mono ?_) | (with_reducible refine (H6.out _).mono ?_) | (with_reducible refine (H7.out _).mono ?_) | (with_reducible refine (H8.out _).mono ?_) | (with_reducible refine (H9.out _).mono ?_)); rintro e_ w_ ⟨rfl, J4_, d4_, rfl⟩; exact ⟨rfl, J3_ ++ J4_, d4_, by simp only [plus_plus, Array.append_assoc]⟩)); clear hK K)))
  refine qw_nil ?_
  rintro w3 ⟨J3, d3, rfl⟩
  go_wp2
  go_ret
  exact ⟨rfl, junk_of_below (by (repeat' (first | (with_reducible exact Below.refl _ _) | (with_reducible assumption) | (with_reducible refine Below.alloc ?_ ?_ _) | (with_reducible refine Below.drew ?_) | (with_reducible refine below_drewN ?_ _) | (with_reducible refine below_plus ?_ ?_ _ _) | (with_reducible refine Below.setCell ?_ ?_ _) | (with_reducible refine Below.setRow ?_ ?_ _) | go_size)))⟩
end Go.Proofs.Ytlfjbbelanccbaa

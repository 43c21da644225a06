/- The law InsideBoxes: what is no box. -/
import Derived.Test.YthjjhfopmianoaaInE
import Derived.Test.YthjjhfopmianoaaPtH
namespace Go.Proofs.Ythjjhfopmianoaa
set_option linter.unusedVariables false
set_option linter.unusedSimpArgs false
open Go.RowKit

set_option maxRecDepth 100000 in
set_option maxHeartbeats 8000000 in
theorem boxes_not (w : World) (px py lx ly hx hy x y : Int) (v1 v2 v3 : Bool) (h1 : okP px py = v1) (h2 : okP lx ly = v2) (h3 : okP hx hy = v3)
    (hc : v1 = false ∨ (v1 = true ∧ v2 = false) ∨ (v1 = true ∧ v2 = true ∧ v3 = false) ∨ (v1 = true ∧ v2 = true ∧ v3 = true ∧ hx ≤ lx) ∨ (v1 = true ∧ v2 = true ∧ v3 = true ∧ ¬ hx ≤ lx ∧ hy ≤ ly)) :
    Calls Try.prog 6 #[pt px py, pt lx ly, pt hx hy, .int .i64 x, .int .i64 y] w fun e w' => e = .returned (.bool true) ∧ Junk w w' := by
  have HAw := Lib.hid l_inAwake
  have HV1 := Lib.hid (fun w' => n_ptValid px py w')
  have HV2 := Lib.hid (fun w' => n_ptValid lx ly w')
  have HV3 := Lib.hid (fun w' => n_ptValid hx hy w')
  rw [h1] at HV1
  rw [h2] at HV2
  rw [h3] at HV3
  clear h1 h2 h3
  unfold pt at *
  rcases hc with rfl | ⟨rfl, rfl⟩ | ⟨rfl, rfl, rfl⟩ | ⟨rfl, rfl, rfl, q1⟩ | ⟨rfl, rfl, rfl, q1, q2⟩
  all_goals
    go_enter Try.func6, Try.ntmps6
    go_wp2_with (first | (go_at_call 17; refine (HAw.out _).mono ?_; rintro e w1 ⟨rfl, J4, d4, rfl⟩) | (go_at_call 22; (first | (with_reducible refine (HV1.out _).mono ?_) | (with_reducible refine (HV2.out _).mono ?_) | (with_reducible refine (HV3.out _).mono ?_)); rintro e w1 ⟨rfl, J5, d5, rfl⟩))
    go_ret
    exact ⟨rfl, junk_of_below (by (repeat' (first | (with_reducible exact Below.refl _ _) | (with_reducible assumption) | (with_reducible refine Below.alloc ?_ ?_ _) | (with_reducible refine Below.drew ?_) | (with_reducible refine below_drewN ?_ _) | (with_reducible refine below_plus ?_ ?_ _ _) | (with_reducible refine Below.setCell ?_ ?_ _) | (with_reducible refine Below.setRow ?_ ?_ _) | go_size)))⟩
end Go.Proofs.Ythjjhfopmianoaa

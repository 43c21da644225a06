/- The laws' own functions: at, awake. -/
import Derived.Test.YtegliapkbapigaaGreatPtI
import Derived.Test.YtegliapkbapigaaGreatPtThree
namespace Go.Proofs.YtegliapkbapigaaGreat
set_option linter.unusedVariables false
set_option linter.unusedSimpArgs false
open Go.RowKit

theorem results_pt1 {fn : Func} {p : Tmp} (h : fn.results = #[.cell p 40]) (tmps : Array Value) (w : World) (g : Nat) (c : Array Value)
    (hp : tmps.getD p undef = .pointer (some ⟨g, 0, none⟩)) (hr : w.rowAt g = some c) (hc : c.size = 2) : (results fn tmps).run Tryz.prog w = .ok (.agg c) w := by
  obtain ⟨ty, hg⟩ := rowAt_some hr
  have hp' : tmps[p]?.getD undef = .pointer (some ⟨g, 0, none⟩) := by simpa using hp
  simp [results, h, hp', asAddr, run_loadVar_row w g ty _ c (0, 0) _ hg Tryz.underlying40 rfl (by rw [hc]; kernel_rfl)]
theorem t_is {ax ay bx by_ cx cy : Int} (r : Int) (h : turnF ax ay bx by_ cx cy = r) (w : World) : Calls Tryz.prog 40 #[.agg #[.int .i64 ax, .int .i64 ay], .agg #[.int .i64 bx, .int .i64 by_], .agg #[.int .i64 cx, .int .i64 cy]] w fun e w' => e = .returned (.int .i64 r) ∧ Junk w w' := by
  rw [← h]; exact n_ptTurn ax ay bx by_ cx cy w
theorem o_is {ax ay bx by_ cx cy : Int} (r : Bool) (h : onB ax ay bx by_ cx cy = r) (w : World) : Calls Tryz.prog 151 #[.agg #[.int .i64 ax, .int .i64 ay], .agg #[.int .i64 bx, .int .i64 by_], .agg #[.int .i64 cx, .int .i64 cy]] w fun e w' => e = .returned (.bool r) ∧ Junk w w' := by
  rw [← h]; exact n_ptOn ax ay bx by_ cx cy w
theorem c_is {ax ay bx by_ : Int} (r : Int) (h : cmpF ax ay bx by_ = r) (w : World) : Calls Tryz.prog 75 #[.agg #[.int .i64 ax, .int .i64 ay], .agg #[.int .i64 bx, .int .i64 by_]] w fun e w' => e = .returned (.int .i64 r) ∧ Junk w w' := by
  rw [← h]; exact n_ptCompare ax ay bx by_ w

end Go.Proofs.YtegliapkbapigaaGreat

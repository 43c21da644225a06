/- The laws' own functions: at, awake. -/
import Derived.Test.YtlfjbbelanccbaaPtI
import Derived.Test.YtlfjbbelanccbaaPtE
import Derived.Test.YtlfjbbelanccbaaPtF
namespace Go.Proofs.Ytlfjbbelanccbaa
set_option linter.unusedVariables false
set_option linter.unusedSimpArgs false
open Go.RowKit

theorem results_pt1 {fn : Func} {p : Tmp} (h : fn.results = #[.cell p 23]) (tmps : Array Value) (w : World) (g : Nat) (c : Array Value)
    (hp : tmps.getD p undef = .pointer (some ⟨g, 0, none⟩)) (hr : w.rowAt g = some c) (hc : c.size = 2) : (results fn tmps).run Try.prog w = .ok (.agg c) w := by
  obtain ⟨ty, hg⟩ := rowAt_some hr
  have hp' : tmps[p]?.getD undef = .pointer (some ⟨g, 0, none⟩) := by simpa using hp
  simp [results, h, hp', asAddr, run_loadVar_row w g ty _ c (0, 0) _ hg Try.underlying23 rfl (by rw [hc]; kernel_rfl)]
theorem l_ptAt (x y : Int) (w : World) : Calls Try.prog 29 #[.int .i64 x, .int .i64 y] w fun e w' => e = .returned (pt x y) ∧ Junk w w' := by
  go_enter Try.func29, Try.ntmps29
  go_wp2
  refine bodyPost_ret (results_pt1 rfl _ _ w.heap.size #[.int .i64 x, .int .i64 y] rfl (by simp [go_sem]) rfl) rfl ⟨rfl, junk_of_below (by (repeat' (first | (with_reducible exact Below.refl _ _) | (with_reducible assumption) | (with_reducible refine Below.alloc ?_ ?_ _) | (with_reducible refine Below.drew ?_) | (with_reducible refine below_drewN ?_ _) | (with_reducible refine below_plus ?_ ?_ _ _) | (with_reducible refine Below.setCell ?_ ?_ _) | (with_reducible refine Below.setRow ?_ ?_ _) | go_size)))⟩
theorem t_is {ax ay bx by_ cx cy : Int} (r : Int) (h : turnF ax ay bx by_ cx cy = r) (w : World) : Calls Try.prog 17 #[.agg #[.int .i64 ax, .int .i64 ay], .agg #[.int .i64 bx, .int .i64 by_], .agg #[.int .i64 cx, .int .i64 cy]] w fun e w' => e = .returned (.int .i64 r) ∧ Junk w w' := by
  rw [← h]; exact n_ptTurn ax ay bx by_ cx cy w
theorem o_is {ax ay bx by_ cx cy : Int} (r : Bool) (h : onB ax ay bx by_ cx cy = r) (w : World) : Calls Try.prog 19 #[.agg #[.int .i64 ax, .int .i64 ay], .agg #[.int .i64 bx, .int .i64 by_], .agg #[.int .i64 cx, .int .i64 cy]] w fun e w' => e = .returned (.bool r) ∧ Junk w w' := by
  rw [← h]; exact n_ptOn ax ay bx by_ cx cy w
theorem c_is {ax ay bx by_ : Int} (r : Int) (h : cmpF ax ay bx by_ = r) (w : World) : Calls Try.prog 15 #[.agg #[.int .i64 ax, .int .i64 ay], .agg #[.int .i64 bx, .int .i64 by_]] w fun e w' => e = .returned (.int .i64 r) ∧ Junk w w' := by
  rw [← h]; exact n_ptCompare ax ay bx by_ w

set_option maxRecDepth 100000 in
set_option maxHeartbeats 1000000 in
theorem l_ptAwake (w : World) : Calls Try.prog 21 #[] w fun e w' => e = .returned (.bool true) ∧ Junk w w' := by
  have HAt := Lib.hid l_ptAt
  have H1 := Lib.hid (t_is (ax := 0) (ay := 0) (bx := 4) (by_ := 0) (cx := 1) (cy := 1) 1 (by decide))
  have H2 := Lib.hid (t_is (ax := 0) (ay := 0) (bx := 4) (by_ := 0) (cx := 1) (cy := -1) (-1) (by decide))
  have H3 := Lib.hid (o_is (ax := 2) (ay := 1) (bx := 0) (by_ := 0) (cx := 4) (cy := 2) true (by decide))
  have H4 := Lib.hid (c_is (ax := 9) (ay := 1) (bx := 0) (by_ := 2) (-1) (by decide))
  unfold pt at HAt
  go_enter Try.func21, Try.ntmps21
  go_wp2_with (first | (go_at_call 29; refine (HAt.out _ _ _).mono ?_; rintro e w1 ⟨rfl, J1, d1, rfl⟩) | (go_at_call 17; (with_reducible refine (H1.out _).mono ?_); clear H1; rintro e w1 ⟨rfl, J1, d1, rfl⟩) | (go_at_call 17; (with_reducible refine (H2.out _).mono ?_); clear H2; rintro e w1 ⟨rfl, J1, d1, rfl⟩) | (go_at_call 19; refine (H3.out _).mono ?_; clear H3; rintro e w1 ⟨rfl, J1, d1, rfl⟩) | (go_at_call 15; refine (H4.out _).mono ?_; clear H4; rintro e w1 ⟨rfl, J1, d1, rfl⟩))
  go_ret
  exact ⟨rfl, junk_of_below (by (repeat' (first | (with_reducible exact Below.refl _ _) | (with_reducible assumption) | (with_reducible refine Below.alloc ?_ ?_ _) | (with_reducible refine Below.drew ?_) | (with_reducible refine below_drewN ?_ _) | (with_reducible refine below_plus ?_ ?_ _ _) | (with_reducible refine Below.setCell ?_ ?_ _) | (with_reducible refine Below.setRow ?_ ?_ _) | go_size)))⟩
end Go.Proofs.Ytlfjbbelanccbaa

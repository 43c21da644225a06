/- Contract of apportionref16's pairs. -/
import Derived.Test.YtngjkmjejijfiaaDoorWdA
namespace Go.Proofs.YtngjkmjejijfiaaDoor
set_option linter.unusedVariables false
set_option linter.unusedSimpArgs false
open Go.RowKit

set_option maxRecDepth 100000 in
set_option maxHeartbeats 8000000 in
theorem r_wdPairs1 (w : World) : Calls Tryd.prog 19 #[.int .i64 1] w (DRes wd1 w) := by
  go_enter Tryd.func19, Tryd.ntmps19
  go_wp2
  go_ret
  exact dres_new rfl rfl (junk_of_below (by (repeat' first | with_reducible (first | apply Below.refl | assumption | apply bw_a | apply bw_d | apply bw_n | apply bw_p | apply bw_c | apply bw_r) | go_size)))
set_option maxRecDepth 100000 in
set_option maxHeartbeats 8000000 in
theorem r_wdPairs2 (w : World) : Calls Tryd.prog 19 #[.int .i64 2] w (DRes wd2 w) := by
  go_enter Tryd.func19, Tryd.ntmps19
  go_wp2
  go_ret
  exact dres_new rfl rfl (junk_of_below (by (repeat' first | with_reducible (first | apply Below.refl | assumption | apply bw_a | apply bw_d | apply bw_n | apply bw_p | apply bw_c | apply bw_r) | go_size)))
set_option maxRecDepth 100000 in
set_option maxHeartbeats 8000000 in
theorem r_wdPairs3 (w : World) : Calls Tryd.prog 19 #[.int .i64 3] w (DRes wd3 w) := by
  go_enter Tryd.func19, Tryd.ntmps19
  go_wp2
  go_ret
  exact dres_new rfl rfl (junk_of_below (by (repeat' first | with_reducible (first | apply Below.refl | assumption | apply bw_a | apply bw_d | apply bw_n | apply bw_p | apply bw_c | apply bw_r) | go_size)))
set_option maxRecDepth 100000 in
set_option maxHeartbeats 8000000 in
theorem r_wdPairs4 (w : World) : Calls Tryd.prog 19 #[.int .i64 4] w (DRes wd4 w) := by
  go_enter Tryd.func19, Tryd.ntmps19
  go_wp2
  go_ret
  exact dres_new rfl rfl (junk_of_below (by (repeat' first | with_reducible (first | apply Below.refl | assumption | apply bw_a | apply bw_d | apply bw_n | apply bw_p | apply bw_c | apply bw_r) | go_size)))
theorem r_wdPairs (k : Int) (w : World) : Calls Tryd.prog 19 #[.int .i64 k] w (DRes (wdT k) w) := by
  by_cases h1 : k = 1
  · subst h1; exact r_wdPairs1 w
  by_cases h2 : k = 2
  · subst h2; exact r_wdPairs2 w
  by_cases h3 : k = 3
  · subst h3; exact r_wdPairs3 w
  by_cases h4 : k = 4
  · subst h4; exact r_wdPairs4 w
  have e0 : wdT k = [] := by unfold wdT; rw [if_neg h1, if_neg h2, if_neg h3, if_neg h4]
  have e1 : (k == 1) = false := beq_eq_false_iff_ne.2 h1
  have e2 : (k == 2) = false := beq_eq_false_iff_ne.2 h2
  have e3 : (k == 3) = false := beq_eq_false_iff_ne.2 h3
  have e4 : (k == 4) = false := beq_eq_false_iff_ne.2 h4
  rw [e0]
  clear h1 h2 h3 h4 e0
  go_enter Tryd.func19, Tryd.ntmps19
  go_wp2
  go_ret
  exact ⟨none, 0, rfl, dreads_nil _, junk_of_below (by (repeat' first | with_reducible (first | apply Below.refl | assumption | apply bw_a | apply bw_d | apply bw_n | apply bw_p | apply bw_c | apply bw_r) | go_size))⟩
end Go.Proofs.YtngjkmjejijfiaaDoor

/- Contract of apportionref02's Check. No condition. -/
import Derived.Test.YtgnmoneiiogoaaaDoorLists
import Derived.Test.YtgnmoneiiogoaaaDoorMonD
namespace Go.Proofs.YtgnmoneiiogoaaaDoor
set_option linter.unusedVariables false
set_option linter.unusedSimpArgs false
open Go.RowKit

theorem m_Check (v : Int) (w : World) : Calls Tryd.prog 20 #[.int .i64 v] w fun e w' => e = .returned (.int .i64 (amtErr v)) ∧ w = w' := by
  unfold amtErr
  by_cases h0 : -1099511627775 ≤ v
  · by_cases h1 : v ≤ 1099511627775
    · rw [if_pos ⟨h0, h1⟩]
      go_enter Tryd.func20, Tryd.ntmps20
      go_wp2
      go_ret
      exact ⟨rfl, rfl⟩
    · rw [if_neg (by omega)]
      go_enter Tryd.func20, Tryd.ntmps20
      go_wp2
      go_ret
      exact ⟨rfl, rfl⟩
  · rw [if_neg (by omega)]
    go_enter Tryd.func20, Tryd.ntmps20
    go_wp2
    go_ret
    exact ⟨rfl, rfl⟩

end Go.Proofs.YtgnmoneiiogoaaaDoor

/- Contract of apportionref02's Check. No condition. -/
import Derived.Test.YtgnmoneiiogoaaaLists
import Derived.Test.YtgnmoneiiogoaaaMonD
namespace Go.Proofs.Ytgnmoneiiogoaaa
set_option linter.unusedVariables false
set_option linter.unusedSimpArgs false
open Go.RowKit

theorem m_Check (v : Int) (w : World) : Calls Try.prog 8 #[.int .i64 v] w fun e w' => e = .returned (.int .i64 (amtErr v)) ∧ w = w' := by
  unfold amtErr
  by_cases h0 : -1099511627775 ≤ v
  · by_cases h1 : v ≤ 1099511627775
    · rw [if_pos ⟨h0, h1⟩]
      go_enter Try.func8, Try.ntmps8
      go_wp2
      go_ret
      exact ⟨rfl, rfl⟩
    · rw [if_neg (by omega)]
      go_enter Try.func8, Try.ntmps8
      go_wp2
      go_ret
      exact ⟨rfl, rfl⟩
  · rw [if_neg (by omega)]
    go_enter Try.func8, Try.ntmps8
    go_wp2
    go_ret
    exact ⟨rfl, rfl⟩

end Go.Proofs.Ytgnmoneiiogoaaa

/- The laws MoneyTaxes and MoneyCumulates hold. -/
import Derived.Test.YtgnmoneiiogoaaaLawMC
import Derived.Test.YtgnmoneiiogoaaaMonE
namespace Go.Proofs.Ytgnmoneiiogoaaa
set_option linter.unusedVariables false
set_option linter.unusedSimpArgs false
open Go.RowKit

theorem below_of_junk {e : Ending} {w w' : World} (h : e = .returned (.bool true) ∧ Junk w w') : e = .returned (.bool true) ∧ Below w.heap.size w w' := ⟨h.1, h.2.below⟩
end Go.Proofs.Ytgnmoneiiogoaaa

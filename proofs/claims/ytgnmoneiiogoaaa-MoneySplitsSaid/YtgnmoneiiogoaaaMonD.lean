/- What money's functions answer: mathematics. -/
import Derived.Test.YtgnmoneiiogoaaaWideC
namespace Go.Proofs.Ytgnmoneiiogoaaa
set_option linter.unusedVariables false
set_option linter.unusedSimpArgs false
open Go.RowKit

/-- Is a number an amount: its error. -/
def amtErr (v : Int) : Int := if -1099511627775 ≤ v ∧ v ≤ 1099511627775 then 0 else 5

def rateErr (v : Int) : Int := if 0 ≤ v ∧ v ≤ 1000000 then 0 else 5

theorem amtErr_two (v : Int) : (amtErr v = 0 ∧ -1099511627775 ≤ v ∧ v ≤ 1099511627775) ∨ (amtErr v = 5 ∧ ¬ (-1099511627775 ≤ v ∧ v ≤ 1099511627775)) := by
  unfold amtErr; split
  · exact .inl ⟨rfl, by omega, by omega⟩
  · exact .inr ⟨rfl, ‹_›⟩
theorem rateErr_two (v : Int) : (rateErr v = 0 ∧ 0 ≤ v ∧ v ≤ 1000000) ∨ (rateErr v = 5 ∧ ¬ (0 ≤ v ∧ v ≤ 1000000)) := by
  unfold rateErr; split
  · exact .inl ⟨rfl, by omega, by omega⟩
  · exact .inr ⟨rfl, ‹_›⟩

/-- What a tax is. -/
def taxRes (a r : Int) : Int × Int := if (-1099511627775 ≤ a ∧ a ≤ 1099511627775) ∧ (0 ≤ r ∧ r ≤ 1000000) then evenRes a r 1000000 else (0, 5)
/-- What a share is. -/
def shareRes (t p w : Int) : Int × Int :=
  if ¬ (-1099511627775 ≤ t ∧ t ≤ 1099511627775) then (0, 5) else if w < 1 ∨ 1099511627775 < w ∨ p < 0 ∨ w < p then (0, 2) else evenRes t p w

end Go.Proofs.Ytgnmoneiiogoaaa

/- Contracts of apportionref10: Counts, Crossings, In. -/
import Derived.Test.YtfkhefiilmdhmaaRiMath
import Derived.Test.YtfkhefiilmdhmaaKitTwo
import Derived.Test.YtfkhefiilmdhmaaPtOne
import Derived.Test.YtfkhefiilmdhmaaPtU
import Derived.Test.YtfkhefiilmdhmaaKitOne
namespace Go.Proofs.Ytfkhefiilmdhmaa
set_option linter.unusedVariables false
set_option linter.unusedSimpArgs false
open Go.RowKit

theorem le_true {a b : Int} (h : a ≤ b) : decide (a ≤ b) = true := decide_eq_true h
def CrAt (W : World) (p : Pt) (K : List Pt) (x y : Value) (wr : World) : Prop := ∃ k : Nat, y = .int .i64 (k : Int) ∧ x = .int .i64 (crossK p K k : Nat) ∧ k ≤ K.length ∧ Cls W wr
theorem crossK_le (p : Pt) (K : List Pt) : ∀ k, crossK p K k ≤ k
  | 0 => Nat.le_refl _
  | k + 1 => by
    have := crossK_le p K k
    show crossK p K k + oneN _ ≤ _
    unfold oneN; split <;> omega
end Go.Proofs.Ytfkhefiilmdhmaa

/- Slices of points that come in as arguments, with their coordinates' bounds. -/
import Derived.Test.YthphdiigjimchaaGreatPtArg
import Derived.Test.YthphdiigjimchaaGreatRgLaw
namespace Go.Proofs.YthphdiigjimchaaGreat
set_option linter.unusedVariables false
set_option linter.unusedSimpArgs false
open Go.RowKit Go.ChangeShapes Go.WideShapes Go.ChangeAt Go.Joins
def In64 (K : List Pt) : Prop := ∀ q ∈ K, (-9223372036854775808 ≤ q.1 ∧ q.1 ≤ 9223372036854775807) ∧ (-9223372036854775808 ≤ q.2 ∧ q.2 ≤ 9223372036854775807)
section
variable {H : Type} {enc : TypeId × Value → H} {w : World} {base : Nat} {spare : Nat → Bool} {held : Bool}
end
end Go.Proofs.YthphdiigjimchaaGreat

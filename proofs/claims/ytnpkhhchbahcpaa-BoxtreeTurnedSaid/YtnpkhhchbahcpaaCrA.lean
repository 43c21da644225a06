/- Whether there may be a segment: contracts of apportionref08.may, apportionlaw08's at and may. -/
import Derived.Test.YtnpkhhchbahcpaaCrMath
import Derived.Test.YtnpkhhchbahcpaaPtJ
import Derived.Test.YtnpkhhchbahcpaaKitTwo
import Derived.Test.YtnpkhhchbahcpaaKitOne
namespace Go.Proofs.Ytnpkhhchbahcpaa
set_option linter.unusedVariables false
set_option linter.unusedSimpArgs false
open Go.RowKit

/-- A slice that reads as a list of points. -/
def PRes (w : World) (v : Value) (K : List (Int × Int)) : Prop := ∃ a n cap, v = .slice a n cap ∧ PReads w a n K ∧ K.length ≤ 4
theorem may_is (ax ay bx by_ : Int) : mayQ (ax, ay) (bx, by_) = (okP ax ay && okP bx by_ && !(ax == bx && ay == by_)) := by
  unfold mayQ
  congr 1
  rw [Bool.eq_iff_iff]
  simp
end Go.Proofs.Ytnpkhhchbahcpaa

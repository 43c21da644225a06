/- Contracts of apportionref07: Turn, On. -/
import Derived.Test.YtnpkhhchbahcpaaPtOne
import Derived.Test.YtnpkhhchbahcpaaNumRest
namespace Go.Proofs.Ytnpkhhchbahcpaa
set_option linter.unusedVariables false
set_option linter.unusedSimpArgs false
open Go.RowKit

def turnF (ax ay bx by_ cx cy : Int) : Int := if okP ax ay && okP bx by_ && okP cx cy then sgn (detP ax ay bx by_ cx cy) else 0
def onB (px py ax ay bx by_ : Int) : Bool := okP px py && okP ax ay && okP bx by_ && decide (onF px py ax ay bx by_)

theorem onB_eq (px py ax ay bx by_ : Int) : onB px py ax ay bx by_ = (okP px py && okP ax ay && okP bx by_ && (turnF ax ay bx by_ px py == 0) && decide (btw px ax bx) && decide (btw py ay by_)) := by
  unfold onB turnF
  cases okP px py <;> cases okP ax ay <;> cases okP bx by_ <;> try rfl
  simp only [Bool.and_self, Bool.true_and, if_true]
  have h := sgn_cases (detP ax ay bx by_ px py)
  rw [Bool.eq_iff_iff, decide_eq_true_iff, Bool.and_eq_true, Bool.and_eq_true, beq_iff_eq, decide_eq_true_iff, decide_eq_true_iff]
  unfold onF
  constructor
  · rintro ⟨a, b, c⟩
    exact ⟨⟨by omega, b⟩, c⟩
  · rintro ⟨⟨a, b⟩, c⟩
    exact ⟨by omega, b, c⟩

end Go.Proofs.Ytnpkhhchbahcpaa

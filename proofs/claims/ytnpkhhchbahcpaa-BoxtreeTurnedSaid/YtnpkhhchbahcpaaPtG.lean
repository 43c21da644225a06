/- Contract of point.Compare. -/
import Derived.Test.YtnpkhhchbahcpaaPtOne
import Derived.Test.YtnpkhhchbahcpaaWideB
import Derived.Test.YtnpkhhchbahcpaaKitOne
import Derived.Test.YtnpkhhchbahcpaaKitTwo
namespace Go.Proofs.Ytnpkhhchbahcpaa
set_option linter.unusedVariables false
set_option linter.unusedSimpArgs false
open Go.RowKit

theorem cmpF_sgn (ax ay bx by_ : Int) : (if sgn (ay - by_) = 0 then sgn (ax - bx) else sgn (ay - by_)) = cmpF ax ay bx by_ := by
  have h1 := sgn_cases (ay - by_)
  have h2 := sgn_cases (ax - bx)
  unfold cmpF
  rcases h1 with ⟨h1, e1⟩ | ⟨h1, e1⟩ | ⟨h1, e1⟩ <;> rcases h2 with ⟨h2, e2⟩ | ⟨h2, e2⟩ | ⟨h2, e2⟩ <;> rw [e1, e2] <;> repeat' split <;> first | rfl | omega
end Go.Proofs.Ytnpkhhchbahcpaa

/- Contracts of package point: On, Move. -/
import Derived.Test.YtnpkhhchbahcpaaPtH
namespace Go.Proofs.Ytnpkhhchbahcpaa
set_option linter.unusedVariables false
set_option linter.unusedSimpArgs false
open Go.RowKit

end Go.Proofs.Ytnpkhhchbahcpaa

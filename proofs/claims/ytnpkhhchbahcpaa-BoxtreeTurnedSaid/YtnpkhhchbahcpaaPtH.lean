/- Contracts of package point: Turn, On. -/
import Derived.Test.YtnpkhhchbahcpaaPtG
import Derived.Test.YtnpkhhchbahcpaaPtU
namespace Go.Proofs.Ytnpkhhchbahcpaa
set_option linter.unusedVariables false
set_option linter.unusedSimpArgs false
open Go.RowKit

end Go.Proofs.Ytnpkhhchbahcpaa

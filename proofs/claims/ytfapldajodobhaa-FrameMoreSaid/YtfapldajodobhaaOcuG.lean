/- Contract of octet's Get. -/
import Derived.Test.YtfapldajodobhaaOcuB
import Derived.Test.YtfapldajodobhaaOctL
namespace Go.Proofs.Ytfapldajodobhaa
set_option linter.unusedVariables false
set_option linter.unusedSimpArgs false
open Go.RowKit

end Go.Proofs.Ytfapldajodobhaa

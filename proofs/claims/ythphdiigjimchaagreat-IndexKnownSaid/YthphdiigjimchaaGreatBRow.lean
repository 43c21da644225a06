/- Rows of bools. -/
import Derived.Test.YthphdiigjimchaaGreatRgChk
import Derived.Laws.MakeOwn
namespace Go.Proofs.YthphdiigjimchaaGreat
set_option linter.unusedVariables false
set_option linter.unusedSimpArgs false
open Go.RowKit
def brw (us : List Bool) : Array Value := (us.map Value.bool).toArray
end Go.Proofs.YthphdiigjimchaaGreat

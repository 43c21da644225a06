/- Contract of apportionref05's Put. -/
import Derived.Test.YtfapldajodobhaaBList
import Derived.Test.YtfapldajodobhaaOctB
namespace Go.Proofs.Ytfapldajodobhaa
set_option linter.unusedVariables false
set_option linter.unusedSimpArgs false
open Go.RowKit

/-- A call tells bytes in memory of its own. -/
def PutRes (w : World) (L : List UInt8) (e : Ending) (w' : World) : Prop := ∃ v, e = .returned v ∧ BOwns w' w.heap.size v L ∧ Junk w w'

/-- Put's loop: what is laid, and the rank that is left. -/
def PutAt (w : World) (X : Nat) (o x : Value) (wr : World) : Prop := ∃ (D : List UInt8) (r : Nat), x = .int .u64 (r : Int) ∧ BOwns wr w.heap.size o D ∧ D ++ encR r = encR X ∧ r ≤ X ∧ Junk w wr ∧ D.length ≤ 10

end Go.Proofs.Ytfapldajodobhaa

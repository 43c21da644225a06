/-
  No cell of these rows narrows 'for every input' (looked for: loops, veiled, ifaces, maps, wideKeys, modest, calm, conditions, laid).
  DERIVED. THE GIVEN ROWS OF THIS SEAT. 8 by the template 'for every input the law returns true; each argument reads behind the call as it read before'; 0 by the template 'total and deterministic' (their statements: YtmofejcafbjlnaaTotals.lean).
  GIVEN WITH THE SEED: the statements are not yours to turn. If you find one false, say at which input.
  Laid BY PROGRAM, IN A SANDBOX (cutbox-rows.mjs): the forced cells as the released guide's own fill.sh prints them over the translation 09c029751126b60e… (all of the seat's roots in one cut). By AI agents, Wed Nov 11 2026. No macro, syntax, notation, axiom, sorry.
-/
import Derived.Test.YtmofejcafbjlnaaChecked
import GoSem.Claim
import GoSem.ClaimJoined
import GoSem.ClaimMapViews
import Derived.JoinedTies
import Derived.KernelRfl
namespace Go.Proofs.Ytmofejcafbjlnaa
/- THE CELL 'sum', in the pinned program and in every row, IS THE sha256 OF THE DUMP (.gsa) THAT YtmofejcafbjlnaaProg.lean LOADS. Nothing in Lean hashes anything: it is a label: what it is worth is what the hold of that sum in a sandbox is worth. -/
noncomputable def Try.pinned : Pinned := { name := "ytmofejcafbjlnaa", sum := "09c029751126b60e0ebd8a38180237b1e690c601d4a7f6a29b0af604f25464a4", checked := Try.checked }
namespace Rows
def none {H : Type} : Left H := { results := [], args := [] }

/-- 'apportionlaw09.RingChecks': WHATEVER THE INPUT: true; the input reads as it did. -/
def ringChecksSpec : ChangeSpec := { name := "ringChecks", fn := fun _ => fun
  | [d1, d2] => { results := [.lit (.bool true)], args := [d1, d2] }
  | _ => none }
def ringChecksRow : OpenClaim := { program := "ytmofejcafbjlnaa", sum := "09c029751126b60e0ebd8a38180237b1e690c601d4a7f6a29b0af604f25464a4", func := "apportion/apportionlaw09.RingChecks", spec := "ringChecks", unfollowed := true, recurses := true, apart := false }
def RingChecksSaid : Prop := ringChecksRow.holds Try.pinned (OpenSpec.ofChange ringChecksSpec)

/-- ITS FALSE NEIGHBOUR: 'it returns false'. Refute it at one input. -/
def ringChecksWrong : ChangeSpec := { name := "ringChecks", fn := fun _ => fun
  | [d1, d2] => { results := [.lit (.bool false)], args := [d1, d2] }
  | _ => none }
def RingChecksWrongFalsely : Prop := ringChecksRow.holds Try.pinned (OpenSpec.ofChange ringChecksWrong)

/-- 'apportionlaw09.RingSames': WHATEVER THE INPUT: true; the input reads as it did. -/
def ringSamesSpec : ChangeSpec := { name := "ringSames", fn := fun _ => fun
  | [d1, d2] => { results := [.lit (.bool true)], args := [d1, d2] }
  | _ => none }
def ringSamesRow : OpenClaim := { program := "ytmofejcafbjlnaa", sum := "09c029751126b60e0ebd8a38180237b1e690c601d4a7f6a29b0af604f25464a4", func := "apportion/apportionlaw09.RingSames", spec := "ringSames", unfollowed := true, recurses := true, apart := false }
def RingSamesSaid : Prop := ringSamesRow.holds Try.pinned (OpenSpec.ofChange ringSamesSpec)

/-- ITS FALSE NEIGHBOUR: 'it returns false'. Refute it at one input. -/
def ringSamesWrong : ChangeSpec := { name := "ringSames", fn := fun _ => fun
  | [d1, d2] => { results := [.lit (.bool false)], args := [d1, d2] }
  | _ => none }
def RingSamesWrongFalsely : Prop := ringSamesRow.holds Try.pinned (OpenSpec.ofChange ringSamesWrong)

/-- 'apportionlaw09.RingLong': WHATEVER THE INPUT: true; the input reads as it did. -/
def ringLongSpec : ChangeSpec := { name := "ringLong", fn := fun _ => fun
  | [d] => { results := [.lit (.bool true)], args := [d] }
  | _ => none }
def ringLongRow : OpenClaim := { program := "ytmofejcafbjlnaa", sum := "09c029751126b60e0ebd8a38180237b1e690c601d4a7f6a29b0af604f25464a4", func := "apportion/apportionlaw09.RingLong", spec := "ringLong", unfollowed := true, recurses := true, apart := false }
def RingLongSaid : Prop := ringLongRow.holds Try.pinned (OpenSpec.ofChange ringLongSpec)

/-- ITS FALSE NEIGHBOUR: 'it returns false'. Refute it at one input. -/
def ringLongWrong : ChangeSpec := { name := "ringLong", fn := fun _ => fun
  | [d] => { results := [.lit (.bool false)], args := [d] }
  | _ => none }
def RingLongWrongFalsely : Prop := ringLongRow.holds Try.pinned (OpenSpec.ofChange ringLongWrong)

/-- 'apportionlaw09.RingTurns': WHATEVER THE INPUT: true; the input reads as it did. -/
def ringTurnsSpec : ChangeSpec := { name := "ringTurns", fn := fun _ => fun
  | [d1, d2] => { results := [.lit (.bool true)], args := [d1, d2] }
  | _ => none }
def ringTurnsRow : OpenClaim := { program := "ytmofejcafbjlnaa", sum := "09c029751126b60e0ebd8a38180237b1e690c601d4a7f6a29b0af604f25464a4", func := "apportion/apportionlaw09.RingTurns", spec := "ringTurns", unfollowed := true, recurses := true, apart := false }
def RingTurnsSaid : Prop := ringTurnsRow.holds Try.pinned (OpenSpec.ofChange ringTurnsSpec)

/-- ITS FALSE NEIGHBOUR: 'it returns false'. Refute it at one input. -/
def ringTurnsWrong : ChangeSpec := { name := "ringTurns", fn := fun _ => fun
  | [d1, d2] => { results := [.lit (.bool false)], args := [d1, d2] }
  | _ => none }
def RingTurnsWrongFalsely : Prop := ringTurnsRow.holds Try.pinned (OpenSpec.ofChange ringTurnsWrong)

/-- 'apportionlaw09.RingEdges': WHATEVER THE INPUT: true; the input reads as it did. -/
def ringEdgesSpec : ChangeSpec := { name := "ringEdges", fn := fun _ => fun
  | [d] => { results := [.lit (.bool true)], args := [d] }
  | _ => none }
def ringEdgesRow : OpenClaim := { program := "ytmofejcafbjlnaa", sum := "09c029751126b60e0ebd8a38180237b1e690c601d4a7f6a29b0af604f25464a4", func := "apportion/apportionlaw09.RingEdges", spec := "ringEdges", unfollowed := true, recurses := true, apart := false }
def RingEdgesSaid : Prop := ringEdgesRow.holds Try.pinned (OpenSpec.ofChange ringEdgesSpec)

/-- ITS FALSE NEIGHBOUR: 'it returns false'. Refute it at one input. -/
def ringEdgesWrong : ChangeSpec := { name := "ringEdges", fn := fun _ => fun
  | [d] => { results := [.lit (.bool false)], args := [d] }
  | _ => none }
def RingEdgesWrongFalsely : Prop := ringEdgesRow.holds Try.pinned (OpenSpec.ofChange ringEdgesWrong)

/-- 'apportionlaw09.RingNormals': WHATEVER THE INPUT: true; the input reads as it did. -/
def ringNormalsSpec : ChangeSpec := { name := "ringNormals", fn := fun _ => fun
  | [d1, d2] => { results := [.lit (.bool true)], args := [d1, d2] }
  | _ => none }
def ringNormalsRow : OpenClaim := { program := "ytmofejcafbjlnaa", sum := "09c029751126b60e0ebd8a38180237b1e690c601d4a7f6a29b0af604f25464a4", func := "apportion/apportionlaw09.RingNormals", spec := "ringNormals", unfollowed := true, recurses := true, apart := false }
def RingNormalsSaid : Prop := ringNormalsRow.holds Try.pinned (OpenSpec.ofChange ringNormalsSpec)

/-- ITS FALSE NEIGHBOUR: 'it returns false'. Refute it at one input. -/
def ringNormalsWrong : ChangeSpec := { name := "ringNormals", fn := fun _ => fun
  | [d1, d2] => { results := [.lit (.bool false)], args := [d1, d2] }
  | _ => none }
def RingNormalsWrongFalsely : Prop := ringNormalsRow.holds Try.pinned (OpenSpec.ofChange ringNormalsWrong)

/-- 'apportionlaw09.RingBoxes': WHATEVER THE INPUT: true; the input reads as it did. -/
def ringBoxesSpec : ChangeSpec := { name := "ringBoxes", fn := fun _ => fun
  | [d1, d2, d3] => { results := [.lit (.bool true)], args := [d1, d2, d3] }
  | _ => none }
def ringBoxesRow : OpenClaim := { program := "ytmofejcafbjlnaa", sum := "09c029751126b60e0ebd8a38180237b1e690c601d4a7f6a29b0af604f25464a4", func := "apportion/apportionlaw09.RingBoxes", spec := "ringBoxes", unfollowed := true, recurses := true, apart := false }
def RingBoxesSaid : Prop := ringBoxesRow.holds Try.pinned (OpenSpec.ofChange ringBoxesSpec)

/-- ITS FALSE NEIGHBOUR: 'it returns false'. Refute it at one input. -/
def ringBoxesWrong : ChangeSpec := { name := "ringBoxes", fn := fun _ => fun
  | [d1, d2, d3] => { results := [.lit (.bool false)], args := [d1, d2, d3] }
  | _ => none }
def RingBoxesWrongFalsely : Prop := ringBoxesRow.holds Try.pinned (OpenSpec.ofChange ringBoxesWrong)

/-- 'apportionlaw09.RingKnown': WHATEVER THE INPUT: true; the input reads as it did. -/
def ringKnownSpec : ChangeSpec := { name := "ringKnown", fn := fun _ => fun
  | [] => { results := [.lit (.bool true)], args := [] }
  | _ => none }
def ringKnownRow : OpenClaim := { program := "ytmofejcafbjlnaa", sum := "09c029751126b60e0ebd8a38180237b1e690c601d4a7f6a29b0af604f25464a4", func := "apportion/apportionlaw09.RingKnown", spec := "ringKnown", unfollowed := true, recurses := true, apart := false }
def RingKnownSaid : Prop := ringKnownRow.holds Try.pinned (OpenSpec.ofChange ringKnownSpec)

/-- ITS FALSE NEIGHBOUR: 'it returns false'. Refute it at one input. -/
def ringKnownWrong : ChangeSpec := { name := "ringKnown", fn := fun _ => fun
  | [] => { results := [.lit (.bool false)], args := [] }
  | _ => none }
def RingKnownWrongFalsely : Prop := ringKnownRow.holds Try.pinned (OpenSpec.ofChange ringKnownWrong)

/- THE SECOND FORM. 'bulk': how many values and letters a reading holds, each counted each time it is reached (what is shared counts as often as it is met; a slice's spare places count too). A statement '..UptoSaid' is the law's where the arguments, and the package variables that the reading takes, are together of bulk at most 1048576: NARROWER than '..Said'. Prove '..Said' where nothing that the law and all that it calls make is longer than what came in: it says more and counts as full. Else prove '..UptoSaid'. A law counts once. -/
mutual
def uptoBulk {H : Type} : DataW H → Nat
  | .lit (.string bytes) => bytes.length + 1
  | .lit _ => 1
  | .nil => 1
  | .ptr d => uptoBulk d + 1
  | .slice elems spare => uptoBulkAll elems + uptoBulkAll spare + 1
  | .agg parts => uptoBulkAll parts + 1
  | .iface _ d => uptoBulk d + 1
  | .map entries => uptoBulkEntries entries + 1
  | .held _ => 1
def uptoBulkAll {H : Type} : List (DataW H) → Nat
  | [] => 0
  | d :: r => uptoBulk d + uptoBulkAll r
def uptoBulkEntries {H : Type} : List (Lit × DataW H) → Nat
  | [] => 0
  | x :: r => uptoBulkEntry x + uptoBulkEntries r
def uptoBulkEntry {H : Type} : Lit × DataW H → Nat
  | (.string bytes, d) => bytes.length + uptoBulk d + 1
  | (_, d) => uptoBulk d + 1
 end
def uptoSmall : (H : Type) → List (DataW H) → Bool := fun _ ds => decide (uptoBulkAll ds ≤ 1048576)
def OpenSpec.upto (s : _root_.Go.ChangeSpec) : _root_.Go.OpenSpec := { _root_.Go.OpenSpec.ofChange s with cond := some uptoSmall }

/-- 'apportionlaw09.RingChecks', WHERE WHAT IT READS IS OF BULK AT MOST 1048576: true; the input reads as it did. -/
def ringChecksUptoRow : OpenClaim := { program := "ytmofejcafbjlnaa", sum := "09c029751126b60e0ebd8a38180237b1e690c601d4a7f6a29b0af604f25464a4", func := "apportion/apportionlaw09.RingChecks", spec := "ringChecks", unfollowed := true, recurses := true, apart := false, narrowed := true }
def RingChecksUptoSaid : Prop := ringChecksUptoRow.holds Try.pinned (OpenSpec.upto ringChecksSpec)

/-- 'apportionlaw09.RingSames', WHERE WHAT IT READS IS OF BULK AT MOST 1048576: true; the input reads as it did. -/
def ringSamesUptoRow : OpenClaim := { program := "ytmofejcafbjlnaa", sum := "09c029751126b60e0ebd8a38180237b1e690c601d4a7f6a29b0af604f25464a4", func := "apportion/apportionlaw09.RingSames", spec := "ringSames", unfollowed := true, recurses := true, apart := false, narrowed := true }
def RingSamesUptoSaid : Prop := ringSamesUptoRow.holds Try.pinned (OpenSpec.upto ringSamesSpec)

/-- 'apportionlaw09.RingLong', WHERE WHAT IT READS IS OF BULK AT MOST 1048576: true; the input reads as it did. -/
def ringLongUptoRow : OpenClaim := { program := "ytmofejcafbjlnaa", sum := "09c029751126b60e0ebd8a38180237b1e690c601d4a7f6a29b0af604f25464a4", func := "apportion/apportionlaw09.RingLong", spec := "ringLong", unfollowed := true, recurses := true, apart := false, narrowed := true }
def RingLongUptoSaid : Prop := ringLongUptoRow.holds Try.pinned (OpenSpec.upto ringLongSpec)

/-- 'apportionlaw09.RingTurns', WHERE WHAT IT READS IS OF BULK AT MOST 1048576: true; the input reads as it did. -/
def ringTurnsUptoRow : OpenClaim := { program := "ytmofejcafbjlnaa", sum := "09c029751126b60e0ebd8a38180237b1e690c601d4a7f6a29b0af604f25464a4", func := "apportion/apportionlaw09.RingTurns", spec := "ringTurns", unfollowed := true, recurses := true, apart := false, narrowed := true }
def RingTurnsUptoSaid : Prop := ringTurnsUptoRow.holds Try.pinned (OpenSpec.upto ringTurnsSpec)

/-- 'apportionlaw09.RingEdges', WHERE WHAT IT READS IS OF BULK AT MOST 1048576: true; the input reads as it did. -/
def ringEdgesUptoRow : OpenClaim := { program := "ytmofejcafbjlnaa", sum := "09c029751126b60e0ebd8a38180237b1e690c601d4a7f6a29b0af604f25464a4", func := "apportion/apportionlaw09.RingEdges", spec := "ringEdges", unfollowed := true, recurses := true, apart := false, narrowed := true }
def RingEdgesUptoSaid : Prop := ringEdgesUptoRow.holds Try.pinned (OpenSpec.upto ringEdgesSpec)

/-- 'apportionlaw09.RingNormals', WHERE WHAT IT READS IS OF BULK AT MOST 1048576: true; the input reads as it did. -/
def ringNormalsUptoRow : OpenClaim := { program := "ytmofejcafbjlnaa", sum := "09c029751126b60e0ebd8a38180237b1e690c601d4a7f6a29b0af604f25464a4", func := "apportion/apportionlaw09.RingNormals", spec := "ringNormals", unfollowed := true, recurses := true, apart := false, narrowed := true }
def RingNormalsUptoSaid : Prop := ringNormalsUptoRow.holds Try.pinned (OpenSpec.upto ringNormalsSpec)

/-- 'apportionlaw09.RingBoxes', WHERE WHAT IT READS IS OF BULK AT MOST 1048576: true; the input reads as it did. -/
def ringBoxesUptoRow : OpenClaim := { program := "ytmofejcafbjlnaa", sum := "09c029751126b60e0ebd8a38180237b1e690c601d4a7f6a29b0af604f25464a4", func := "apportion/apportionlaw09.RingBoxes", spec := "ringBoxes", unfollowed := true, recurses := true, apart := false, narrowed := true }
def RingBoxesUptoSaid : Prop := ringBoxesUptoRow.holds Try.pinned (OpenSpec.upto ringBoxesSpec)

/-- 'apportionlaw09.RingKnown', WHERE WHAT IT READS IS OF BULK AT MOST 1048576: true; the input reads as it did. -/
def ringKnownUptoRow : OpenClaim := { program := "ytmofejcafbjlnaa", sum := "09c029751126b60e0ebd8a38180237b1e690c601d4a7f6a29b0af604f25464a4", func := "apportion/apportionlaw09.RingKnown", spec := "ringKnown", unfollowed := true, recurses := true, apart := false, narrowed := true }
def RingKnownUptoSaid : Prop := ringKnownUptoRow.holds Try.pinned (OpenSpec.upto ringKnownSpec)

end Rows
end Go.Proofs.Ytmofejcafbjlnaa

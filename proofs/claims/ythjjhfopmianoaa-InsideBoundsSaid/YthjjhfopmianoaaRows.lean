/-
  No cell of these rows narrows 'for every input' (looked for: loops, veiled, ifaces, maps, wideKeys, modest, calm, conditions, laid).
  DERIVED. THE GIVEN ROWS OF THIS SEAT. 7 by the template 'for every input the law returns true; each argument reads behind the call as it read before'; 0 by the template 'total and deterministic' (their statements: YthjjhfopmianoaaTotals.lean).
  GIVEN WITH THE SEED: the statements are not yours to turn. If you find one false, say at which input.
  Laid BY PROGRAM, IN A SANDBOX (cutbox-rows.mjs): the forced cells as the released guide's own fill.sh prints them over the translation 8df121754185f99d… (all of the seat's roots in one cut). By AI agents, Wed Nov 11 2026. No macro, syntax, notation, axiom, sorry.
-/
import Derived.Test.YthjjhfopmianoaaChecked
import GoSem.Claim
import GoSem.ClaimJoined
import GoSem.ClaimMapViews
import Derived.JoinedTies
import Derived.KernelRfl
namespace Go.Proofs.Ythjjhfopmianoaa
/- THE CELL 'sum', in the pinned program and in every row, IS THE sha256 OF THE DUMP (.gsa) THAT YthjjhfopmianoaaProg.lean LOADS. Nothing in Lean hashes anything: it is a label: what it is worth is what the hold of that sum in a sandbox is worth. -/
noncomputable def Try.pinned : Pinned := { name := "ythjjhfopmianoaa", sum := "8df121754185f99d6a12cfc4b86fa471458553a79ccfb9f16ba8d6c55e520b19", checked := Try.checked }
namespace Rows
def none {H : Type} : Left H := { results := [], args := [] }

/-- 'apportionlaw10.InsideTells': WHATEVER THE INPUT: true; the input reads as it did. -/
def insideTellsSpec : ChangeSpec := { name := "insideTells", fn := fun _ => fun
  | [d1, d2, d3, d4] => { results := [.lit (.bool true)], args := [d1, d2, d3, d4] }
  | _ => none }
def insideTellsRow : OpenClaim := { program := "ythjjhfopmianoaa", sum := "8df121754185f99d6a12cfc4b86fa471458553a79ccfb9f16ba8d6c55e520b19", func := "apportion/apportionlaw10.InsideTells", spec := "insideTells", unfollowed := true, recurses := true, apart := false }
def InsideTellsSaid : Prop := insideTellsRow.holds Try.pinned (OpenSpec.ofChange insideTellsSpec)

/-- ITS FALSE NEIGHBOUR: 'it returns false'. Refute it at one input. -/
def insideTellsWrong : ChangeSpec := { name := "insideTells", fn := fun _ => fun
  | [d1, d2, d3, d4] => { results := [.lit (.bool false)], args := [d1, d2, d3, d4] }
  | _ => none }
def InsideTellsWrongFalsely : Prop := insideTellsRow.holds Try.pinned (OpenSpec.ofChange insideTellsWrong)

/-- 'apportionlaw10.InsideSame': WHATEVER THE INPUT: true; the input reads as it did. -/
def insideSameSpec : ChangeSpec := { name := "insideSame", fn := fun _ => fun
  | [d1, d2, d3, d4] => { results := [.lit (.bool true)], args := [d1, d2, d3, d4] }
  | _ => none }
def insideSameRow : OpenClaim := { program := "ythjjhfopmianoaa", sum := "8df121754185f99d6a12cfc4b86fa471458553a79ccfb9f16ba8d6c55e520b19", func := "apportion/apportionlaw10.InsideSame", spec := "insideSame", unfollowed := true, recurses := true, apart := false }
def InsideSameSaid : Prop := insideSameRow.holds Try.pinned (OpenSpec.ofChange insideSameSpec)

/-- ITS FALSE NEIGHBOUR: 'it returns false'. Refute it at one input. -/
def insideSameWrong : ChangeSpec := { name := "insideSame", fn := fun _ => fun
  | [d1, d2, d3, d4] => { results := [.lit (.bool false)], args := [d1, d2, d3, d4] }
  | _ => none }
def InsideSameWrongFalsely : Prop := insideSameRow.holds Try.pinned (OpenSpec.ofChange insideSameWrong)

/-- 'apportionlaw10.InsideAdds': WHATEVER THE INPUT: true; the input reads as it did. -/
def insideAddsSpec : ChangeSpec := { name := "insideAdds", fn := fun _ => fun
  | [d1, d2, d3, d4, d5, d6] => { results := [.lit (.bool true)], args := [d1, d2, d3, d4, d5, d6] }
  | _ => none }
def insideAddsRow : OpenClaim := { program := "ythjjhfopmianoaa", sum := "8df121754185f99d6a12cfc4b86fa471458553a79ccfb9f16ba8d6c55e520b19", func := "apportion/apportionlaw10.InsideAdds", spec := "insideAdds", unfollowed := true, recurses := true, apart := false }
def InsideAddsSaid : Prop := insideAddsRow.holds Try.pinned (OpenSpec.ofChange insideAddsSpec)

/-- ITS FALSE NEIGHBOUR: 'it returns false'. Refute it at one input. -/
def insideAddsWrong : ChangeSpec := { name := "insideAdds", fn := fun _ => fun
  | [d1, d2, d3, d4, d5, d6] => { results := [.lit (.bool false)], args := [d1, d2, d3, d4, d5, d6] }
  | _ => none }
def InsideAddsWrongFalsely : Prop := insideAddsRow.holds Try.pinned (OpenSpec.ofChange insideAddsWrong)

/-- 'apportionlaw10.InsideBoxes': WHATEVER THE INPUT: true; the input reads as it did. -/
def insideBoxesSpec : ChangeSpec := { name := "insideBoxes", fn := fun _ => fun
  | [d1, d2, d3, d4, d5] => { results := [.lit (.bool true)], args := [d1, d2, d3, d4, d5] }
  | _ => none }
def insideBoxesRow : OpenClaim := { program := "ythjjhfopmianoaa", sum := "8df121754185f99d6a12cfc4b86fa471458553a79ccfb9f16ba8d6c55e520b19", func := "apportion/apportionlaw10.InsideBoxes", spec := "insideBoxes", unfollowed := true, recurses := true, apart := false }
def InsideBoxesSaid : Prop := insideBoxesRow.holds Try.pinned (OpenSpec.ofChange insideBoxesSpec)

/-- ITS FALSE NEIGHBOUR: 'it returns false'. Refute it at one input. -/
def insideBoxesWrong : ChangeSpec := { name := "insideBoxes", fn := fun _ => fun
  | [d1, d2, d3, d4, d5] => { results := [.lit (.bool false)], args := [d1, d2, d3, d4, d5] }
  | _ => none }
def InsideBoxesWrongFalsely : Prop := insideBoxesRow.holds Try.pinned (OpenSpec.ofChange insideBoxesWrong)

/-- 'apportionlaw10.InsideThree': WHATEVER THE INPUT: true; the input reads as it did. -/
def insideThreeSpec : ChangeSpec := { name := "insideThree", fn := fun _ => fun
  | [d1, d2, d3, d4] => { results := [.lit (.bool true)], args := [d1, d2, d3, d4] }
  | _ => none }
def insideThreeRow : OpenClaim := { program := "ythjjhfopmianoaa", sum := "8df121754185f99d6a12cfc4b86fa471458553a79ccfb9f16ba8d6c55e520b19", func := "apportion/apportionlaw10.InsideThree", spec := "insideThree", unfollowed := true, recurses := true, apart := false }
def InsideThreeSaid : Prop := insideThreeRow.holds Try.pinned (OpenSpec.ofChange insideThreeSpec)

/-- ITS FALSE NEIGHBOUR: 'it returns false'. Refute it at one input. -/
def insideThreeWrong : ChangeSpec := { name := "insideThree", fn := fun _ => fun
  | [d1, d2, d3, d4] => { results := [.lit (.bool false)], args := [d1, d2, d3, d4] }
  | _ => none }
def InsideThreeWrongFalsely : Prop := insideThreeRow.holds Try.pinned (OpenSpec.ofChange insideThreeWrong)

/-- 'apportionlaw10.InsideBounds': WHATEVER THE INPUT: true; the input reads as it did. -/
def insideBoundsSpec : ChangeSpec := { name := "insideBounds", fn := fun _ => fun
  | [d1, d2] => { results := [.lit (.bool true)], args := [d1, d2] }
  | _ => none }
def insideBoundsRow : OpenClaim := { program := "ythjjhfopmianoaa", sum := "8df121754185f99d6a12cfc4b86fa471458553a79ccfb9f16ba8d6c55e520b19", func := "apportion/apportionlaw10.InsideBounds", spec := "insideBounds", unfollowed := true, recurses := true, apart := false }
def InsideBoundsSaid : Prop := insideBoundsRow.holds Try.pinned (OpenSpec.ofChange insideBoundsSpec)

/-- ITS FALSE NEIGHBOUR: 'it returns false'. Refute it at one input. -/
def insideBoundsWrong : ChangeSpec := { name := "insideBounds", fn := fun _ => fun
  | [d1, d2] => { results := [.lit (.bool false)], args := [d1, d2] }
  | _ => none }
def InsideBoundsWrongFalsely : Prop := insideBoundsRow.holds Try.pinned (OpenSpec.ofChange insideBoundsWrong)

/-- 'apportionlaw10.InsideKnown': WHATEVER THE INPUT: true; the input reads as it did. -/
def insideKnownSpec : ChangeSpec := { name := "insideKnown", fn := fun _ => fun
  | [] => { results := [.lit (.bool true)], args := [] }
  | _ => none }
def insideKnownRow : OpenClaim := { program := "ythjjhfopmianoaa", sum := "8df121754185f99d6a12cfc4b86fa471458553a79ccfb9f16ba8d6c55e520b19", func := "apportion/apportionlaw10.InsideKnown", spec := "insideKnown", unfollowed := true, recurses := true, apart := false }
def InsideKnownSaid : Prop := insideKnownRow.holds Try.pinned (OpenSpec.ofChange insideKnownSpec)

/-- ITS FALSE NEIGHBOUR: 'it returns false'. Refute it at one input. -/
def insideKnownWrong : ChangeSpec := { name := "insideKnown", fn := fun _ => fun
  | [] => { results := [.lit (.bool false)], args := [] }
  | _ => none }
def InsideKnownWrongFalsely : Prop := insideKnownRow.holds Try.pinned (OpenSpec.ofChange insideKnownWrong)

/- THE SECOND FORM. 'bulk': how many values and letters a reading holds, each counted each time it is reached (what is shared counts as often as it is met; a slice's spare places count too). A statement '..UptoSaid' is the law's where the arguments, and the package variables that the reading takes, are together of bulk at most 1048576: NARROWER than '..Said'. Prove '..Said' where nothing that the law and all that it calls make is longer than what came in: it says more and counts as full. Else prove '..UptoSaid'. A law counts once. -/
mutual
def uptoBulk {H : Type} : DataW H → Nat
  | .lit (.string bytes) => bytes.length + 1
  | .lit _ => 1
  | .nil => 1
  | .ptr d => uptoBulk d + 1
  | .slice elems spare => uptoBulkAll elems + uptoBulkAll spare + 1
  | .agg parts => uptoBulkAll parts + 1
  | .iface _ d => uptoBulk d + 1
  | .map entries => uptoBulkEntries entries + 1
  | .held _ => 1
def uptoBulkAll {H : Type} : List (DataW H) → Nat
  | [] => 0
  | d :: r => uptoBulk d + uptoBulkAll r
def uptoBulkEntries {H : Type} : List (Lit × DataW H) → Nat
  | [] => 0
  | x :: r => uptoBulkEntry x + uptoBulkEntries r
def uptoBulkEntry {H : Type} : Lit × DataW H → Nat
  | (.string bytes, d) => bytes.length + uptoBulk d + 1
  | (_, d) => uptoBulk d + 1
 end
def uptoSmall : (H : Type) → List (DataW H) → Bool := fun _ ds => decide (uptoBulkAll ds ≤ 1048576)
def OpenSpec.upto (s : _root_.Go.ChangeSpec) : _root_.Go.OpenSpec := { _root_.Go.OpenSpec.ofChange s with cond := some uptoSmall }

/-- 'apportionlaw10.InsideTells', WHERE WHAT IT READS IS OF BULK AT MOST 1048576: true; the input reads as it did. -/
def insideTellsUptoRow : OpenClaim := { program := "ythjjhfopmianoaa", sum := "8df121754185f99d6a12cfc4b86fa471458553a79ccfb9f16ba8d6c55e520b19", func := "apportion/apportionlaw10.InsideTells", spec := "insideTells", unfollowed := true, recurses := true, apart := false, narrowed := true }
def InsideTellsUptoSaid : Prop := insideTellsUptoRow.holds Try.pinned (OpenSpec.upto insideTellsSpec)

/-- 'apportionlaw10.InsideSame', WHERE WHAT IT READS IS OF BULK AT MOST 1048576: true; the input reads as it did. -/
def insideSameUptoRow : OpenClaim := { program := "ythjjhfopmianoaa", sum := "8df121754185f99d6a12cfc4b86fa471458553a79ccfb9f16ba8d6c55e520b19", func := "apportion/apportionlaw10.InsideSame", spec := "insideSame", unfollowed := true, recurses := true, apart := false, narrowed := true }
def InsideSameUptoSaid : Prop := insideSameUptoRow.holds Try.pinned (OpenSpec.upto insideSameSpec)

/-- 'apportionlaw10.InsideAdds', WHERE WHAT IT READS IS OF BULK AT MOST 1048576: true; the input reads as it did. -/
def insideAddsUptoRow : OpenClaim := { program := "ythjjhfopmianoaa", sum := "8df121754185f99d6a12cfc4b86fa471458553a79ccfb9f16ba8d6c55e520b19", func := "apportion/apportionlaw10.InsideAdds", spec := "insideAdds", unfollowed := true, recurses := true, apart := false, narrowed := true }
def InsideAddsUptoSaid : Prop := insideAddsUptoRow.holds Try.pinned (OpenSpec.upto insideAddsSpec)

/-- 'apportionlaw10.InsideBoxes', WHERE WHAT IT READS IS OF BULK AT MOST 1048576: true; the input reads as it did. -/
def insideBoxesUptoRow : OpenClaim := { program := "ythjjhfopmianoaa", sum := "8df121754185f99d6a12cfc4b86fa471458553a79ccfb9f16ba8d6c55e520b19", func := "apportion/apportionlaw10.InsideBoxes", spec := "insideBoxes", unfollowed := true, recurses := true, apart := false, narrowed := true }
def InsideBoxesUptoSaid : Prop := insideBoxesUptoRow.holds Try.pinned (OpenSpec.upto insideBoxesSpec)

/-- 'apportionlaw10.InsideThree', WHERE WHAT IT READS IS OF BULK AT MOST 1048576: true; the input reads as it did. -/
def insideThreeUptoRow : OpenClaim := { program := "ythjjhfopmianoaa", sum := "8df121754185f99d6a12cfc4b86fa471458553a79ccfb9f16ba8d6c55e520b19", func := "apportion/apportionlaw10.InsideThree", spec := "insideThree", unfollowed := true, recurses := true, apart := false, narrowed := true }
def InsideThreeUptoSaid : Prop := insideThreeUptoRow.holds Try.pinned (OpenSpec.upto insideThreeSpec)

/-- 'apportionlaw10.InsideBounds', WHERE WHAT IT READS IS OF BULK AT MOST 1048576: true; the input reads as it did. -/
def insideBoundsUptoRow : OpenClaim := { program := "ythjjhfopmianoaa", sum := "8df121754185f99d6a12cfc4b86fa471458553a79ccfb9f16ba8d6c55e520b19", func := "apportion/apportionlaw10.InsideBounds", spec := "insideBounds", unfollowed := true, recurses := true, apart := false, narrowed := true }
def InsideBoundsUptoSaid : Prop := insideBoundsUptoRow.holds Try.pinned (OpenSpec.upto insideBoundsSpec)

/-- 'apportionlaw10.InsideKnown', WHERE WHAT IT READS IS OF BULK AT MOST 1048576: true; the input reads as it did. -/
def insideKnownUptoRow : OpenClaim := { program := "ythjjhfopmianoaa", sum := "8df121754185f99d6a12cfc4b86fa471458553a79ccfb9f16ba8d6c55e520b19", func := "apportion/apportionlaw10.InsideKnown", spec := "insideKnown", unfollowed := true, recurses := true, apart := false, narrowed := true }
def InsideKnownUptoSaid : Prop := insideKnownUptoRow.holds Try.pinned (OpenSpec.upto insideKnownSpec)

end Rows
end Go.Proofs.Ythjjhfopmianoaa

/-
  No cell of these rows narrows 'for every input' (looked for: loops, veiled, ifaces, maps, wideKeys, modest, calm, conditions, laid).
  DERIVED. THE GIVEN ROWS OF THIS SEAT. 8 by the template 'for every input the law returns true; each argument reads behind the call as it read before'; 0 by the template 'total and deterministic' (their statements: YtlfjbbelanccbaaTotals.lean).
  GIVEN WITH THE SEED: the statements are not yours to turn. If you find one false, say at which input.
  Laid BY PROGRAM, IN A SANDBOX (cutbox-rows.mjs): the forced cells as the released guide's own fill.sh prints them over the translation 735ef7463c336cbb… (all of the seat's roots in one cut). By AI agents, Wed Nov 11 2026. No macro, syntax, notation, axiom, sorry.
-/
import Derived.Test.YtlfjbbelanccbaaChecked
import GoSem.Claim
import GoSem.ClaimJoined
import GoSem.ClaimMapViews
import Derived.JoinedTies
import Derived.KernelRfl
namespace Go.Proofs.Ytlfjbbelanccbaa
/- THE CELL 'sum', in the pinned program and in every row, IS THE sha256 OF THE DUMP (.gsa) THAT YtlfjbbelanccbaaProg.lean LOADS. Nothing in Lean hashes anything: it is a label: what it is worth is what the hold of that sum in a sandbox is worth. -/
noncomputable def Try.pinned : Pinned := { name := "ytlfjbbelanccbaa", sum := "735ef7463c336cbbb4f0724ac8ac66eda6bf155489e442e75710680f980742d1", checked := Try.checked }
namespace Rows
def none {H : Type} : Left H := { results := [], args := [] }

/-- 'apportionlaw07.PointTurns': WHATEVER THE INPUT: true; the input reads as it did. -/
def pointTurnsSpec : ChangeSpec := { name := "pointTurns", fn := fun _ => fun
  | [d1, d2, d3] => { results := [.lit (.bool true)], args := [d1, d2, d3] }
  | _ => none }
def pointTurnsRow : OpenClaim := { program := "ytlfjbbelanccbaa", sum := "735ef7463c336cbbb4f0724ac8ac66eda6bf155489e442e75710680f980742d1", func := "apportion/apportionlaw07.PointTurns", spec := "pointTurns", recurses := true, apart := false }
def PointTurnsSaid : Prop := pointTurnsRow.holds Try.pinned (OpenSpec.ofChange pointTurnsSpec)

/-- ITS FALSE NEIGHBOUR: 'it returns false'. Refute it at one input. -/
def pointTurnsWrong : ChangeSpec := { name := "pointTurns", fn := fun _ => fun
  | [d1, d2, d3] => { results := [.lit (.bool false)], args := [d1, d2, d3] }
  | _ => none }
def PointTurnsWrongFalsely : Prop := pointTurnsRow.holds Try.pinned (OpenSpec.ofChange pointTurnsWrong)

/-- 'apportionlaw07.PointBoxes': WHATEVER THE INPUT: true; the input reads as it did. -/
def pointBoxesSpec : ChangeSpec := { name := "pointBoxes", fn := fun _ => fun
  | [d1, d2, d3, d4] => { results := [.lit (.bool true)], args := [d1, d2, d3, d4] }
  | _ => none }
def pointBoxesRow : OpenClaim := { program := "ytlfjbbelanccbaa", sum := "735ef7463c336cbbb4f0724ac8ac66eda6bf155489e442e75710680f980742d1", func := "apportion/apportionlaw07.PointBoxes", spec := "pointBoxes", unfollowed := true, recurses := true, apart := false }
def PointBoxesSaid : Prop := pointBoxesRow.holds Try.pinned (OpenSpec.ofChange pointBoxesSpec)

/-- ITS FALSE NEIGHBOUR: 'it returns false'. Refute it at one input. -/
def pointBoxesWrong : ChangeSpec := { name := "pointBoxes", fn := fun _ => fun
  | [d1, d2, d3, d4] => { results := [.lit (.bool false)], args := [d1, d2, d3, d4] }
  | _ => none }
def PointBoxesWrongFalsely : Prop := pointBoxesRow.holds Try.pinned (OpenSpec.ofChange pointBoxesWrong)

/-- 'apportionlaw07.PointLaws': WHATEVER THE INPUT: true; the input reads as it did. -/
def pointLawsSpec : ChangeSpec := { name := "pointLaws", fn := fun _ => fun
  | [d1, d2, d3, d4] => { results := [.lit (.bool true)], args := [d1, d2, d3, d4] }
  | _ => none }
def pointLawsRow : OpenClaim := { program := "ytlfjbbelanccbaa", sum := "735ef7463c336cbbb4f0724ac8ac66eda6bf155489e442e75710680f980742d1", func := "apportion/apportionlaw07.PointLaws", spec := "pointLaws", apart := false }
def PointLawsSaid : Prop := pointLawsRow.holds Try.pinned (OpenSpec.ofChange pointLawsSpec)

/-- ITS FALSE NEIGHBOUR: 'it returns false'. Refute it at one input. -/
def pointLawsWrong : ChangeSpec := { name := "pointLaws", fn := fun _ => fun
  | [d1, d2, d3, d4] => { results := [.lit (.bool false)], args := [d1, d2, d3, d4] }
  | _ => none }
def PointLawsWrongFalsely : Prop := pointLawsRow.holds Try.pinned (OpenSpec.ofChange pointLawsWrong)

/-- 'apportionlaw07.PointSmall': WHATEVER THE INPUT: true; the input reads as it did. -/
def pointSmallSpec : ChangeSpec := { name := "pointSmall", fn := fun _ => fun
  | [d1, d2, d3] => { results := [.lit (.bool true)], args := [d1, d2, d3] }
  | _ => none }
def pointSmallRow : OpenClaim := { program := "ytlfjbbelanccbaa", sum := "735ef7463c336cbbb4f0724ac8ac66eda6bf155489e442e75710680f980742d1", func := "apportion/apportionlaw07.PointSmall", spec := "pointSmall", apart := false }
def PointSmallSaid : Prop := pointSmallRow.holds Try.pinned (OpenSpec.ofChange pointSmallSpec)

/-- ITS FALSE NEIGHBOUR: 'it returns false'. Refute it at one input. -/
def pointSmallWrong : ChangeSpec := { name := "pointSmall", fn := fun _ => fun
  | [d1, d2, d3] => { results := [.lit (.bool false)], args := [d1, d2, d3] }
  | _ => none }
def PointSmallWrongFalsely : Prop := pointSmallRow.holds Try.pinned (OpenSpec.ofChange pointSmallWrong)

/-- 'apportionlaw07.PointFar': WHATEVER THE INPUT: true; the input reads as it did. -/
def pointFarSpec : ChangeSpec := { name := "pointFar", fn := fun _ => fun
  | [d1, d2] => { results := [.lit (.bool true)], args := [d1, d2] }
  | _ => none }
def pointFarRow : OpenClaim := { program := "ytlfjbbelanccbaa", sum := "735ef7463c336cbbb4f0724ac8ac66eda6bf155489e442e75710680f980742d1", func := "apportion/apportionlaw07.PointFar", spec := "pointFar", apart := false }
def PointFarSaid : Prop := pointFarRow.holds Try.pinned (OpenSpec.ofChange pointFarSpec)

/-- ITS FALSE NEIGHBOUR: 'it returns false'. Refute it at one input. -/
def pointFarWrong : ChangeSpec := { name := "pointFar", fn := fun _ => fun
  | [d1, d2] => { results := [.lit (.bool false)], args := [d1, d2] }
  | _ => none }
def PointFarWrongFalsely : Prop := pointFarRow.holds Try.pinned (OpenSpec.ofChange pointFarWrong)

/-- 'apportionlaw07.PointOrder': WHATEVER THE INPUT: true; the input reads as it did. -/
def pointOrderSpec : ChangeSpec := { name := "pointOrder", fn := fun _ => fun
  | [d1, d2, d3] => { results := [.lit (.bool true)], args := [d1, d2, d3] }
  | _ => none }
def pointOrderRow : OpenClaim := { program := "ytlfjbbelanccbaa", sum := "735ef7463c336cbbb4f0724ac8ac66eda6bf155489e442e75710680f980742d1", func := "apportion/apportionlaw07.PointOrder", spec := "pointOrder", apart := false }
def PointOrderSaid : Prop := pointOrderRow.holds Try.pinned (OpenSpec.ofChange pointOrderSpec)

/-- ITS FALSE NEIGHBOUR: 'it returns false'. Refute it at one input. -/
def pointOrderWrong : ChangeSpec := { name := "pointOrder", fn := fun _ => fun
  | [d1, d2, d3] => { results := [.lit (.bool false)], args := [d1, d2, d3] }
  | _ => none }
def PointOrderWrongFalsely : Prop := pointOrderRow.holds Try.pinned (OpenSpec.ofChange pointOrderWrong)

/-- 'apportionlaw07.PointBounds': WHATEVER THE INPUT: true; the input reads as it did. -/
def pointBoundsSpec : ChangeSpec := { name := "pointBounds", fn := fun _ => fun
  | [d] => { results := [.lit (.bool true)], args := [d] }
  | _ => none }
def pointBoundsRow : OpenClaim := { program := "ytlfjbbelanccbaa", sum := "735ef7463c336cbbb4f0724ac8ac66eda6bf155489e442e75710680f980742d1", func := "apportion/apportionlaw07.PointBounds", spec := "pointBounds", unfollowed := true, recurses := true, apart := false }
def PointBoundsSaid : Prop := pointBoundsRow.holds Try.pinned (OpenSpec.ofChange pointBoundsSpec)

/-- ITS FALSE NEIGHBOUR: 'it returns false'. Refute it at one input. -/
def pointBoundsWrong : ChangeSpec := { name := "pointBounds", fn := fun _ => fun
  | [d] => { results := [.lit (.bool false)], args := [d] }
  | _ => none }
def PointBoundsWrongFalsely : Prop := pointBoundsRow.holds Try.pinned (OpenSpec.ofChange pointBoundsWrong)

/-- 'apportionlaw07.PointKnown': WHATEVER THE INPUT: true; the input reads as it did. -/
def pointKnownSpec : ChangeSpec := { name := "pointKnown", fn := fun _ => fun
  | [] => { results := [.lit (.bool true)], args := [] }
  | _ => none }
def pointKnownRow : OpenClaim := { program := "ytlfjbbelanccbaa", sum := "735ef7463c336cbbb4f0724ac8ac66eda6bf155489e442e75710680f980742d1", func := "apportion/apportionlaw07.PointKnown", spec := "pointKnown", unfollowed := true, recurses := true, apart := false }
def PointKnownSaid : Prop := pointKnownRow.holds Try.pinned (OpenSpec.ofChange pointKnownSpec)

/-- ITS FALSE NEIGHBOUR: 'it returns false'. Refute it at one input. -/
def pointKnownWrong : ChangeSpec := { name := "pointKnown", fn := fun _ => fun
  | [] => { results := [.lit (.bool false)], args := [] }
  | _ => none }
def PointKnownWrongFalsely : Prop := pointKnownRow.holds Try.pinned (OpenSpec.ofChange pointKnownWrong)

/- THE SECOND FORM. 'bulk': how many values and letters a reading holds, each counted each time it is reached (what is shared counts as often as it is met; a slice's spare places count too). A statement '..UptoSaid' is the law's where the arguments, and the package variables that the reading takes, are together of bulk at most 1048576: NARROWER than '..Said'. Prove '..Said' where nothing that the law and all that it calls make is longer than what came in: it says more and counts as full. Else prove '..UptoSaid'. A law counts once. -/
mutual
def uptoBulk {H : Type} : DataW H → Nat
  | .lit (.string bytes) => bytes.length + 1
  | .lit _ => 1
  | .nil => 1
  | .ptr d => uptoBulk d + 1
  | .slice elems spare => uptoBulkAll elems + uptoBulkAll spare + 1
  | .agg parts => uptoBulkAll parts + 1
  | .iface _ d => uptoBulk d + 1
  | .map entries => uptoBulkEntries entries + 1
  | .held _ => 1
def uptoBulkAll {H : Type} : List (DataW H) → Nat
  | [] => 0
  | d :: r => uptoBulk d + uptoBulkAll r
def uptoBulkEntries {H : Type} : List (Lit × DataW H) → Nat
  | [] => 0
  | x :: r => uptoBulkEntry x + uptoBulkEntries r
def uptoBulkEntry {H : Type} : Lit × DataW H → Nat
  | (.string bytes, d) => bytes.length + uptoBulk d + 1
  | (_, d) => uptoBulk d + 1
 end
def uptoSmall : (H : Type) → List (DataW H) → Bool := fun _ ds => decide (uptoBulkAll ds ≤ 1048576)
def OpenSpec.upto (s : _root_.Go.ChangeSpec) : _root_.Go.OpenSpec := { _root_.Go.OpenSpec.ofChange s with cond := some uptoSmall }

/-- 'apportionlaw07.PointTurns', WHERE WHAT IT READS IS OF BULK AT MOST 1048576: true; the input reads as it did. -/
def pointTurnsUptoRow : OpenClaim := { program := "ytlfjbbelanccbaa", sum := "735ef7463c336cbbb4f0724ac8ac66eda6bf155489e442e75710680f980742d1", func := "apportion/apportionlaw07.PointTurns", spec := "pointTurns", recurses := true, apart := false, narrowed := true }
def PointTurnsUptoSaid : Prop := pointTurnsUptoRow.holds Try.pinned (OpenSpec.upto pointTurnsSpec)

/-- 'apportionlaw07.PointBoxes', WHERE WHAT IT READS IS OF BULK AT MOST 1048576: true; the input reads as it did. -/
def pointBoxesUptoRow : OpenClaim := { program := "ytlfjbbelanccbaa", sum := "735ef7463c336cbbb4f0724ac8ac66eda6bf155489e442e75710680f980742d1", func := "apportion/apportionlaw07.PointBoxes", spec := "pointBoxes", unfollowed := true, recurses := true, apart := false, narrowed := true }
def PointBoxesUptoSaid : Prop := pointBoxesUptoRow.holds Try.pinned (OpenSpec.upto pointBoxesSpec)

/-- 'apportionlaw07.PointLaws', WHERE WHAT IT READS IS OF BULK AT MOST 1048576: true; the input reads as it did. -/
def pointLawsUptoRow : OpenClaim := { program := "ytlfjbbelanccbaa", sum := "735ef7463c336cbbb4f0724ac8ac66eda6bf155489e442e75710680f980742d1", func := "apportion/apportionlaw07.PointLaws", spec := "pointLaws", apart := false, narrowed := true }
def PointLawsUptoSaid : Prop := pointLawsUptoRow.holds Try.pinned (OpenSpec.upto pointLawsSpec)

/-- 'apportionlaw07.PointSmall', WHERE WHAT IT READS IS OF BULK AT MOST 1048576: true; the input reads as it did. -/
def pointSmallUptoRow : OpenClaim := { program := "ytlfjbbelanccbaa", sum := "735ef7463c336cbbb4f0724ac8ac66eda6bf155489e442e75710680f980742d1", func := "apportion/apportionlaw07.PointSmall", spec := "pointSmall", apart := false, narrowed := true }
def PointSmallUptoSaid : Prop := pointSmallUptoRow.holds Try.pinned (OpenSpec.upto pointSmallSpec)

/-- 'apportionlaw07.PointFar', WHERE WHAT IT READS IS OF BULK AT MOST 1048576: true; the input reads as it did. -/
def pointFarUptoRow : OpenClaim := { program := "ytlfjbbelanccbaa", sum := "735ef7463c336cbbb4f0724ac8ac66eda6bf155489e442e75710680f980742d1", func := "apportion/apportionlaw07.PointFar", spec := "pointFar", apart := false, narrowed := true }
def PointFarUptoSaid : Prop := pointFarUptoRow.holds Try.pinned (OpenSpec.upto pointFarSpec)

/-- 'apportionlaw07.PointOrder', WHERE WHAT IT READS IS OF BULK AT MOST 1048576: true; the input reads as it did. -/
def pointOrderUptoRow : OpenClaim := { program := "ytlfjbbelanccbaa", sum := "735ef7463c336cbbb4f0724ac8ac66eda6bf155489e442e75710680f980742d1", func := "apportion/apportionlaw07.PointOrder", spec := "pointOrder", apart := false, narrowed := true }
def PointOrderUptoSaid : Prop := pointOrderUptoRow.holds Try.pinned (OpenSpec.upto pointOrderSpec)

/-- 'apportionlaw07.PointBounds', WHERE WHAT IT READS IS OF BULK AT MOST 1048576: true; the input reads as it did. -/
def pointBoundsUptoRow : OpenClaim := { program := "ytlfjbbelanccbaa", sum := "735ef7463c336cbbb4f0724ac8ac66eda6bf155489e442e75710680f980742d1", func := "apportion/apportionlaw07.PointBounds", spec := "pointBounds", unfollowed := true, recurses := true, apart := false, narrowed := true }
def PointBoundsUptoSaid : Prop := pointBoundsUptoRow.holds Try.pinned (OpenSpec.upto pointBoundsSpec)

/-- 'apportionlaw07.PointKnown', WHERE WHAT IT READS IS OF BULK AT MOST 1048576: true; the input reads as it did. -/
def pointKnownUptoRow : OpenClaim := { program := "ytlfjbbelanccbaa", sum := "735ef7463c336cbbb4f0724ac8ac66eda6bf155489e442e75710680f980742d1", func := "apportion/apportionlaw07.PointKnown", spec := "pointKnown", unfollowed := true, recurses := true, apart := false, narrowed := true }
def PointKnownUptoSaid : Prop := pointKnownUptoRow.holds Try.pinned (OpenSpec.upto pointKnownSpec)

end Rows
end Go.Proofs.Ytlfjbbelanccbaa

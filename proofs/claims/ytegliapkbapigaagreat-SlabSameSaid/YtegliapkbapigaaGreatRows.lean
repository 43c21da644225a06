/-
  No cell of these rows narrows 'for every input' (looked for: loops, veiled, ifaces, maps, wideKeys, modest, calm, conditions, laid).
  DERIVED. THE GIVEN ROWS OF THIS SEAT. 6 by the template 'for every input the law returns true; each argument reads behind the call as it read before'; 0 by the template 'total and deterministic' (their statements: YtegliapkbapigaaGreatTotals.lean).
  GIVEN WITH THE SEED: the statements are not yours to turn. If you find one false, say at which input.
  Laid BY PROGRAM, IN A SANDBOX (cutbox-rows.mjs): the forced cells as the released guide's own fill.sh prints them over the translation 9d99ac947c9f05e2… (all of the seat's roots in one cut). By AI agents, Wed Nov 11 2026. No macro, syntax, notation, axiom, sorry.
-/
import Derived.Test.YtegliapkbapigaaGreatChecked
import GoSem.Claim
import GoSem.ClaimJoined
import GoSem.ClaimMapViews
import Derived.JoinedTies
import Derived.KernelRfl
namespace Go.Proofs.YtegliapkbapigaaGreat
/- THE CELL 'sum', in the pinned program and in every row, IS THE sha256 OF THE DUMP (.gsa) THAT YtegliapkbapigaaGreatProg.lean LOADS. Nothing in Lean hashes anything: it is a label: what it is worth is what the hold of that sum in a sandbox is worth. -/
noncomputable def Tryz.pinned : Pinned := { name := "ytegliapkbapigaagreat", sum := "9d99ac947c9f05e24140bbd01a0b84970b0e609b323c378d6e97642258b1fbf3", checked := Tryz.checked }
namespace Rows
def none {H : Type} : Left H := { results := [], args := [] }

/-- 'apportionlaw13.SlabFinds': WHATEVER THE INPUT: true; the input reads as it did. -/
def slabFindsSpec : ChangeSpec := { name := "slabFinds", fn := fun _ => fun
  | [d1, d2] => { results := [.lit (.bool true)], args := [d1, d2] }
  | _ => none }
def slabFindsRow : OpenClaim := { program := "ytegliapkbapigaagreat", sum := "9d99ac947c9f05e24140bbd01a0b84970b0e609b323c378d6e97642258b1fbf3", func := "apportion/apportionlaw13.SlabFinds", spec := "slabFinds", unfollowed := true, recurses := true, apart := false }
def SlabFindsSaid : Prop := slabFindsRow.holds Tryz.pinned (OpenSpec.ofChange slabFindsSpec)

/-- ITS FALSE NEIGHBOUR: 'it returns false'. Refute it at one input. -/
def slabFindsWrong : ChangeSpec := { name := "slabFinds", fn := fun _ => fun
  | [d1, d2] => { results := [.lit (.bool false)], args := [d1, d2] }
  | _ => none }
def SlabFindsWrongFalsely : Prop := slabFindsRow.holds Tryz.pinned (OpenSpec.ofChange slabFindsWrong)

/-- 'apportionlaw13.SlabStands': WHATEVER THE INPUT: true; the input reads as it did. -/
def slabStandsSpec : ChangeSpec := { name := "slabStands", fn := fun _ => fun
  | [d1, d2] => { results := [.lit (.bool true)], args := [d1, d2] }
  | _ => none }
def slabStandsRow : OpenClaim := { program := "ytegliapkbapigaagreat", sum := "9d99ac947c9f05e24140bbd01a0b84970b0e609b323c378d6e97642258b1fbf3", func := "apportion/apportionlaw13.SlabStands", spec := "slabStands", unfollowed := true, recurses := true, apart := false }
def SlabStandsSaid : Prop := slabStandsRow.holds Tryz.pinned (OpenSpec.ofChange slabStandsSpec)

/-- ITS FALSE NEIGHBOUR: 'it returns false'. Refute it at one input. -/
def slabStandsWrong : ChangeSpec := { name := "slabStands", fn := fun _ => fun
  | [d1, d2] => { results := [.lit (.bool false)], args := [d1, d2] }
  | _ => none }
def SlabStandsWrongFalsely : Prop := slabStandsRow.holds Tryz.pinned (OpenSpec.ofChange slabStandsWrong)

/-- 'apportionlaw13.SlabNone': WHATEVER THE INPUT: true; the input reads as it did. -/
def slabNoneSpec : ChangeSpec := { name := "slabNone", fn := fun _ => fun
  | [d1, d2] => { results := [.lit (.bool true)], args := [d1, d2] }
  | _ => none }
def slabNoneRow : OpenClaim := { program := "ytegliapkbapigaagreat", sum := "9d99ac947c9f05e24140bbd01a0b84970b0e609b323c378d6e97642258b1fbf3", func := "apportion/apportionlaw13.SlabNone", spec := "slabNone", unfollowed := true, recurses := true, apart := false }
def SlabNoneSaid : Prop := slabNoneRow.holds Tryz.pinned (OpenSpec.ofChange slabNoneSpec)

/-- ITS FALSE NEIGHBOUR: 'it returns false'. Refute it at one input. -/
def slabNoneWrong : ChangeSpec := { name := "slabNone", fn := fun _ => fun
  | [d1, d2] => { results := [.lit (.bool false)], args := [d1, d2] }
  | _ => none }
def SlabNoneWrongFalsely : Prop := slabNoneRow.holds Tryz.pinned (OpenSpec.ofChange slabNoneWrong)

/-- 'apportionlaw13.SlabKnown': WHATEVER THE INPUT: true; the input reads as it did. -/
def slabKnownSpec : ChangeSpec := { name := "slabKnown", fn := fun _ => fun
  | [] => { results := [.lit (.bool true)], args := [] }
  | _ => none }
def slabKnownRow : OpenClaim := { program := "ytegliapkbapigaagreat", sum := "9d99ac947c9f05e24140bbd01a0b84970b0e609b323c378d6e97642258b1fbf3", func := "apportion/apportionlaw13.SlabKnown", spec := "slabKnown", unfollowed := true, recurses := true, apart := false }
def SlabKnownSaid : Prop := slabKnownRow.holds Tryz.pinned (OpenSpec.ofChange slabKnownSpec)

/-- ITS FALSE NEIGHBOUR: 'it returns false'. Refute it at one input. -/
def slabKnownWrong : ChangeSpec := { name := "slabKnown", fn := fun _ => fun
  | [] => { results := [.lit (.bool false)], args := [] }
  | _ => none }
def SlabKnownWrongFalsely : Prop := slabKnownRow.holds Tryz.pinned (OpenSpec.ofChange slabKnownWrong)

/-- 'apportionlaw13.SlabStacks': WHATEVER THE INPUT: true; the input reads as it did. -/
def slabStacksSpec : ChangeSpec := { name := "slabStacks", fn := fun _ => fun
  | [d1, d2] => { results := [.lit (.bool true)], args := [d1, d2] }
  | _ => none }
def slabStacksRow : OpenClaim := { program := "ytegliapkbapigaagreat", sum := "9d99ac947c9f05e24140bbd01a0b84970b0e609b323c378d6e97642258b1fbf3", func := "apportion/apportionlaw13.SlabStacks", spec := "slabStacks", unfollowed := true, recurses := true, apart := false }
def SlabStacksSaid : Prop := slabStacksRow.holds Tryz.pinned (OpenSpec.ofChange slabStacksSpec)

/-- ITS FALSE NEIGHBOUR: 'it returns false'. Refute it at one input. -/
def slabStacksWrong : ChangeSpec := { name := "slabStacks", fn := fun _ => fun
  | [d1, d2] => { results := [.lit (.bool false)], args := [d1, d2] }
  | _ => none }
def SlabStacksWrongFalsely : Prop := slabStacksRow.holds Tryz.pinned (OpenSpec.ofChange slabStacksWrong)

/-- 'apportionlaw13.SlabSame': WHATEVER THE INPUT: true; the input reads as it did. -/
def slabSameSpec : ChangeSpec := { name := "slabSame", fn := fun _ => fun
  | [d1, d2, d3] => { results := [.lit (.bool true)], args := [d1, d2, d3] }
  | _ => none }
def slabSameRow : OpenClaim := { program := "ytegliapkbapigaagreat", sum := "9d99ac947c9f05e24140bbd01a0b84970b0e609b323c378d6e97642258b1fbf3", func := "apportion/apportionlaw13.SlabSame", spec := "slabSame", unfollowed := true, recurses := true, apart := false }
def SlabSameSaid : Prop := slabSameRow.holds Tryz.pinned (OpenSpec.ofChange slabSameSpec)

/-- ITS FALSE NEIGHBOUR: 'it returns false'. Refute it at one input. -/
def slabSameWrong : ChangeSpec := { name := "slabSame", fn := fun _ => fun
  | [d1, d2, d3] => { results := [.lit (.bool false)], args := [d1, d2, d3] }
  | _ => none }
def SlabSameWrongFalsely : Prop := slabSameRow.holds Tryz.pinned (OpenSpec.ofChange slabSameWrong)

/- THE SECOND FORM. 'bulk': how many values and letters a reading holds, each counted each time it is reached (what is shared counts as often as it is met; a slice's spare places count too). A statement '..UptoSaid' is the law's where the arguments, and the package variables that the reading takes, are together of bulk at most 1048576: NARROWER than '..Said'. Prove '..Said' where nothing that the law and all that it calls make is longer than what came in: it says more and counts as full. Else prove '..UptoSaid'. A law counts once. -/
mutual
def uptoBulk {H : Type} : DataW H → Nat
  | .lit (.string bytes) => bytes.length + 1
  | .lit _ => 1
  | .nil => 1
  | .ptr d => uptoBulk d + 1
  | .slice elems spare => uptoBulkAll elems + uptoBulkAll spare + 1
  | .agg parts => uptoBulkAll parts + 1
  | .iface _ d => uptoBulk d + 1
  | .map entries => uptoBulkEntries entries + 1
  | .held _ => 1
def uptoBulkAll {H : Type} : List (DataW H) → Nat
  | [] => 0
  | d :: r => uptoBulk d + uptoBulkAll r
def uptoBulkEntries {H : Type} : List (Lit × DataW H) → Nat
  | [] => 0
  | x :: r => uptoBulkEntry x + uptoBulkEntries r
def uptoBulkEntry {H : Type} : Lit × DataW H → Nat
  | (.string bytes, d) => bytes.length + uptoBulk d + 1
  | (_, d) => uptoBulk d + 1
 end
def uptoSmall : (H : Type) → List (DataW H) → Bool := fun _ ds => decide (uptoBulkAll ds ≤ 1048576)
def OpenSpec.upto (s : _root_.Go.ChangeSpec) : _root_.Go.OpenSpec := { _root_.Go.OpenSpec.ofChange s with cond := some uptoSmall }

/-- 'apportionlaw13.SlabFinds', WHERE WHAT IT READS IS OF BULK AT MOST 1048576: true; the input reads as it did. -/
def slabFindsUptoRow : OpenClaim := { program := "ytegliapkbapigaagreat", sum := "9d99ac947c9f05e24140bbd01a0b84970b0e609b323c378d6e97642258b1fbf3", func := "apportion/apportionlaw13.SlabFinds", spec := "slabFinds", unfollowed := true, recurses := true, apart := false, narrowed := true }
def SlabFindsUptoSaid : Prop := slabFindsUptoRow.holds Tryz.pinned (OpenSpec.upto slabFindsSpec)

/-- 'apportionlaw13.SlabStands', WHERE WHAT IT READS IS OF BULK AT MOST 1048576: true; the input reads as it did. -/
def slabStandsUptoRow : OpenClaim := { program := "ytegliapkbapigaagreat", sum := "9d99ac947c9f05e24140bbd01a0b84970b0e609b323c378d6e97642258b1fbf3", func := "apportion/apportionlaw13.SlabStands", spec := "slabStands", unfollowed := true, recurses := true, apart := false, narrowed := true }
def SlabStandsUptoSaid : Prop := slabStandsUptoRow.holds Tryz.pinned (OpenSpec.upto slabStandsSpec)

/-- 'apportionlaw13.SlabNone', WHERE WHAT IT READS IS OF BULK AT MOST 1048576: true; the input reads as it did. -/
def slabNoneUptoRow : OpenClaim := { program := "ytegliapkbapigaagreat", sum := "9d99ac947c9f05e24140bbd01a0b84970b0e609b323c378d6e97642258b1fbf3", func := "apportion/apportionlaw13.SlabNone", spec := "slabNone", unfollowed := true, recurses := true, apart := false, narrowed := true }
def SlabNoneUptoSaid : Prop := slabNoneUptoRow.holds Tryz.pinned (OpenSpec.upto slabNoneSpec)

/-- 'apportionlaw13.SlabKnown', WHERE WHAT IT READS IS OF BULK AT MOST 1048576: true; the input reads as it did. -/
def slabKnownUptoRow : OpenClaim := { program := "ytegliapkbapigaagreat", sum := "9d99ac947c9f05e24140bbd01a0b84970b0e609b323c378d6e97642258b1fbf3", func := "apportion/apportionlaw13.SlabKnown", spec := "slabKnown", unfollowed := true, recurses := true, apart := false, narrowed := true }
def SlabKnownUptoSaid : Prop := slabKnownUptoRow.holds Tryz.pinned (OpenSpec.upto slabKnownSpec)

/-- 'apportionlaw13.SlabStacks', WHERE WHAT IT READS IS OF BULK AT MOST 1048576: true; the input reads as it did. -/
def slabStacksUptoRow : OpenClaim := { program := "ytegliapkbapigaagreat", sum := "9d99ac947c9f05e24140bbd01a0b84970b0e609b323c378d6e97642258b1fbf3", func := "apportion/apportionlaw13.SlabStacks", spec := "slabStacks", unfollowed := true, recurses := true, apart := false, narrowed := true }
def SlabStacksUptoSaid : Prop := slabStacksUptoRow.holds Tryz.pinned (OpenSpec.upto slabStacksSpec)

/-- 'apportionlaw13.SlabSame', WHERE WHAT IT READS IS OF BULK AT MOST 1048576: true; the input reads as it did. -/
def slabSameUptoRow : OpenClaim := { program := "ytegliapkbapigaagreat", sum := "9d99ac947c9f05e24140bbd01a0b84970b0e609b323c378d6e97642258b1fbf3", func := "apportion/apportionlaw13.SlabSame", spec := "slabSame", unfollowed := true, recurses := true, apart := false, narrowed := true }
def SlabSameUptoSaid : Prop := slabSameUptoRow.holds Tryz.pinned (OpenSpec.upto slabSameSpec)

end Rows
end Go.Proofs.YtegliapkbapigaaGreat

/-
  No cell of these rows narrows 'for every input' (looked for: loops, veiled, ifaces, maps, wideKeys, modest, calm, conditions, laid).
  DERIVED. THE GIVEN ROWS OF THIS SEAT. 6 by the template 'for every input the law returns true; each argument reads behind the call as it read before'; 0 by the template 'total and deterministic' (their statements: YtlhknnjnccjgfaaTotals.lean).
  GIVEN WITH THE SEED: the statements are not yours to turn. If you find one false, say at which input.
  Laid BY PROGRAM, IN A SANDBOX (cutbox-rows.mjs): the forced cells as the released guide's own fill.sh prints them over the translation bae47b93e4f92e0d… (all of the seat's roots in one cut). By AI agents, Wed Nov 11 2026. No macro, syntax, notation, axiom, sorry.
-/
import Derived.Test.YtlhknnjnccjgfaaChecked
import GoSem.Claim
import GoSem.ClaimJoined
import GoSem.ClaimMapViews
import Derived.JoinedTies
import Derived.KernelRfl
namespace Go.Proofs.Ytlhknnjnccjgfaa
/- THE CELL 'sum', in the pinned program and in every row, IS THE sha256 OF THE DUMP (.gsa) THAT YtlhknnjnccjgfaaProg.lean LOADS. Nothing in Lean hashes anything: it is a label: what it is worth is what the hold of that sum in a sandbox is worth. -/
noncomputable def Try.pinned : Pinned := { name := "ytlhknnjnccjgfaa", sum := "bae47b93e4f92e0d90417f6193ed358995bd535e643d15473758be920f013866", checked := Try.checked }
namespace Rows
def none {H : Type} : Left H := { results := [], args := [] }

/-- 'apportionlaw08.CrossMeets': WHATEVER THE INPUT: true; the input reads as it did. -/
def crossMeetsSpec : ChangeSpec := { name := "crossMeets", fn := fun _ => fun
  | [d1, d2, d3, d4] => { results := [.lit (.bool true)], args := [d1, d2, d3, d4] }
  | _ => none }
def crossMeetsRow : OpenClaim := { program := "ytlhknnjnccjgfaa", sum := "bae47b93e4f92e0d90417f6193ed358995bd535e643d15473758be920f013866", func := "apportion/apportionlaw08.CrossMeets", spec := "crossMeets", recurses := true, apart := false }
def CrossMeetsSaid : Prop := crossMeetsRow.holds Try.pinned (OpenSpec.ofChange crossMeetsSpec)

/-- ITS FALSE NEIGHBOUR: 'it returns false'. Refute it at one input. -/
def crossMeetsWrong : ChangeSpec := { name := "crossMeets", fn := fun _ => fun
  | [d1, d2, d3, d4] => { results := [.lit (.bool false)], args := [d1, d2, d3, d4] }
  | _ => none }
def CrossMeetsWrongFalsely : Prop := crossMeetsRow.holds Try.pinned (OpenSpec.ofChange crossMeetsWrong)

/-- 'apportionlaw08.CrossSame': WHATEVER THE INPUT: true; the input reads as it did. -/
def crossSameSpec : ChangeSpec := { name := "crossSame", fn := fun _ => fun
  | [d1, d2, d3, d4, d5] => { results := [.lit (.bool true)], args := [d1, d2, d3, d4, d5] }
  | _ => none }
def crossSameRow : OpenClaim := { program := "ytlhknnjnccjgfaa", sum := "bae47b93e4f92e0d90417f6193ed358995bd535e643d15473758be920f013866", func := "apportion/apportionlaw08.CrossSame", spec := "crossSame", apart := false }
def CrossSameSaid : Prop := crossSameRow.holds Try.pinned (OpenSpec.ofChange crossSameSpec)

/-- ITS FALSE NEIGHBOUR: 'it returns false'. Refute it at one input. -/
def crossSameWrong : ChangeSpec := { name := "crossSame", fn := fun _ => fun
  | [d1, d2, d3, d4, d5] => { results := [.lit (.bool false)], args := [d1, d2, d3, d4, d5] }
  | _ => none }
def CrossSameWrongFalsely : Prop := crossSameRow.holds Try.pinned (OpenSpec.ofChange crossSameWrong)

/-- 'apportionlaw08.CrossEnds': WHATEVER THE INPUT: true; the input reads as it did. -/
def crossEndsSpec : ChangeSpec := { name := "crossEnds", fn := fun _ => fun
  | [d1, d2, d3, d4] => { results := [.lit (.bool true)], args := [d1, d2, d3, d4] }
  | _ => none }
def crossEndsRow : OpenClaim := { program := "ytlhknnjnccjgfaa", sum := "bae47b93e4f92e0d90417f6193ed358995bd535e643d15473758be920f013866", func := "apportion/apportionlaw08.CrossEnds", spec := "crossEnds", apart := false }
def CrossEndsSaid : Prop := crossEndsRow.holds Try.pinned (OpenSpec.ofChange crossEndsSpec)

/-- ITS FALSE NEIGHBOUR: 'it returns false'. Refute it at one input. -/
def crossEndsWrong : ChangeSpec := { name := "crossEnds", fn := fun _ => fun
  | [d1, d2, d3, d4] => { results := [.lit (.bool false)], args := [d1, d2, d3, d4] }
  | _ => none }
def CrossEndsWrongFalsely : Prop := crossEndsRow.holds Try.pinned (OpenSpec.ofChange crossEndsWrong)

/-- 'apportionlaw08.CrossSplit': WHATEVER THE INPUT: true; the input reads as it did. -/
def crossSplitSpec : ChangeSpec := { name := "crossSplit", fn := fun _ => fun
  | [d1, d2, d3, d4, d5] => { results := [.lit (.bool true)], args := [d1, d2, d3, d4, d5] }
  | _ => none }
def crossSplitRow : OpenClaim := { program := "ytlhknnjnccjgfaa", sum := "bae47b93e4f92e0d90417f6193ed358995bd535e643d15473758be920f013866", func := "apportion/apportionlaw08.CrossSplit", spec := "crossSplit", apart := false }
def CrossSplitSaid : Prop := crossSplitRow.holds Try.pinned (OpenSpec.ofChange crossSplitSpec)

/-- ITS FALSE NEIGHBOUR: 'it returns false'. Refute it at one input. -/
def crossSplitWrong : ChangeSpec := { name := "crossSplit", fn := fun _ => fun
  | [d1, d2, d3, d4, d5] => { results := [.lit (.bool false)], args := [d1, d2, d3, d4, d5] }
  | _ => none }
def CrossSplitWrongFalsely : Prop := crossSplitRow.holds Try.pinned (OpenSpec.ofChange crossSplitWrong)

/-- 'apportionlaw08.CrossApart': WHATEVER THE INPUT: true; the input reads as it did. -/
def crossApartSpec : ChangeSpec := { name := "crossApart", fn := fun _ => fun
  | [d1, d2, d3, d4] => { results := [.lit (.bool true)], args := [d1, d2, d3, d4] }
  | _ => none }
def crossApartRow : OpenClaim := { program := "ytlhknnjnccjgfaa", sum := "bae47b93e4f92e0d90417f6193ed358995bd535e643d15473758be920f013866", func := "apportion/apportionlaw08.CrossApart", spec := "crossApart", unfollowed := true, recurses := true, apart := false }
def CrossApartSaid : Prop := crossApartRow.holds Try.pinned (OpenSpec.ofChange crossApartSpec)

/-- ITS FALSE NEIGHBOUR: 'it returns false'. Refute it at one input. -/
def crossApartWrong : ChangeSpec := { name := "crossApart", fn := fun _ => fun
  | [d1, d2, d3, d4] => { results := [.lit (.bool false)], args := [d1, d2, d3, d4] }
  | _ => none }
def CrossApartWrongFalsely : Prop := crossApartRow.holds Try.pinned (OpenSpec.ofChange crossApartWrong)

/-- 'apportionlaw08.CrossKnown': WHATEVER THE INPUT: true; the input reads as it did. -/
def crossKnownSpec : ChangeSpec := { name := "crossKnown", fn := fun _ => fun
  | [] => { results := [.lit (.bool true)], args := [] }
  | _ => none }
def crossKnownRow : OpenClaim := { program := "ytlhknnjnccjgfaa", sum := "bae47b93e4f92e0d90417f6193ed358995bd535e643d15473758be920f013866", func := "apportion/apportionlaw08.CrossKnown", spec := "crossKnown", apart := false }
def CrossKnownSaid : Prop := crossKnownRow.holds Try.pinned (OpenSpec.ofChange crossKnownSpec)

/-- ITS FALSE NEIGHBOUR: 'it returns false'. Refute it at one input. -/
def crossKnownWrong : ChangeSpec := { name := "crossKnown", fn := fun _ => fun
  | [] => { results := [.lit (.bool false)], args := [] }
  | _ => none }
def CrossKnownWrongFalsely : Prop := crossKnownRow.holds Try.pinned (OpenSpec.ofChange crossKnownWrong)

/- THE SECOND FORM. 'bulk': how many values and letters a reading holds, each counted each time it is reached (what is shared counts as often as it is met; a slice's spare places count too). A statement '..UptoSaid' is the law's where the arguments, and the package variables that the reading takes, are together of bulk at most 1048576: NARROWER than '..Said'. Prove '..Said' where nothing that the law and all that it calls make is longer than what came in: it says more and counts as full. Else prove '..UptoSaid'. A law counts once. -/
mutual
def uptoBulk {H : Type} : DataW H → Nat
  | .lit (.string bytes) => bytes.length + 1
  | .lit _ => 1
  | .nil => 1
  | .ptr d => uptoBulk d + 1
  | .slice elems spare => uptoBulkAll elems + uptoBulkAll spare + 1
  | .agg parts => uptoBulkAll parts + 1
  | .iface _ d => uptoBulk d + 1
  | .map entries => uptoBulkEntries entries + 1
  | .held _ => 1
def uptoBulkAll {H : Type} : List (DataW H) → Nat
  | [] => 0
  | d :: r => uptoBulk d + uptoBulkAll r
def uptoBulkEntries {H : Type} : List (Lit × DataW H) → Nat
  | [] => 0
  | x :: r => uptoBulkEntry x + uptoBulkEntries r
def uptoBulkEntry {H : Type} : Lit × DataW H → Nat
  | (.string bytes, d) => bytes.length + uptoBulk d + 1
  | (_, d) => uptoBulk d + 1
 end
def uptoSmall : (H : Type) → List (DataW H) → Bool := fun _ ds => decide (uptoBulkAll ds ≤ 1048576)
def OpenSpec.upto (s : _root_.Go.ChangeSpec) : _root_.Go.OpenSpec := { _root_.Go.OpenSpec.ofChange s with cond := some uptoSmall }

/-- 'apportionlaw08.CrossMeets', WHERE WHAT IT READS IS OF BULK AT MOST 1048576: true; the input reads as it did. -/
def crossMeetsUptoRow : OpenClaim := { program := "ytlhknnjnccjgfaa", sum := "bae47b93e4f92e0d90417f6193ed358995bd535e643d15473758be920f013866", func := "apportion/apportionlaw08.CrossMeets", spec := "crossMeets", recurses := true, apart := false, narrowed := true }
def CrossMeetsUptoSaid : Prop := crossMeetsUptoRow.holds Try.pinned (OpenSpec.upto crossMeetsSpec)

/-- 'apportionlaw08.CrossSame', WHERE WHAT IT READS IS OF BULK AT MOST 1048576: true; the input reads as it did. -/
def crossSameUptoRow : OpenClaim := { program := "ytlhknnjnccjgfaa", sum := "bae47b93e4f92e0d90417f6193ed358995bd535e643d15473758be920f013866", func := "apportion/apportionlaw08.CrossSame", spec := "crossSame", apart := false, narrowed := true }
def CrossSameUptoSaid : Prop := crossSameUptoRow.holds Try.pinned (OpenSpec.upto crossSameSpec)

/-- 'apportionlaw08.CrossEnds', WHERE WHAT IT READS IS OF BULK AT MOST 1048576: true; the input reads as it did. -/
def crossEndsUptoRow : OpenClaim := { program := "ytlhknnjnccjgfaa", sum := "bae47b93e4f92e0d90417f6193ed358995bd535e643d15473758be920f013866", func := "apportion/apportionlaw08.CrossEnds", spec := "crossEnds", apart := false, narrowed := true }
def CrossEndsUptoSaid : Prop := crossEndsUptoRow.holds Try.pinned (OpenSpec.upto crossEndsSpec)

/-- 'apportionlaw08.CrossSplit', WHERE WHAT IT READS IS OF BULK AT MOST 1048576: true; the input reads as it did. -/
def crossSplitUptoRow : OpenClaim := { program := "ytlhknnjnccjgfaa", sum := "bae47b93e4f92e0d90417f6193ed358995bd535e643d15473758be920f013866", func := "apportion/apportionlaw08.CrossSplit", spec := "crossSplit", apart := false, narrowed := true }
def CrossSplitUptoSaid : Prop := crossSplitUptoRow.holds Try.pinned (OpenSpec.upto crossSplitSpec)

/-- 'apportionlaw08.CrossApart', WHERE WHAT IT READS IS OF BULK AT MOST 1048576: true; the input reads as it did. -/
def crossApartUptoRow : OpenClaim := { program := "ytlhknnjnccjgfaa", sum := "bae47b93e4f92e0d90417f6193ed358995bd535e643d15473758be920f013866", func := "apportion/apportionlaw08.CrossApart", spec := "crossApart", unfollowed := true, recurses := true, apart := false, narrowed := true }
def CrossApartUptoSaid : Prop := crossApartUptoRow.holds Try.pinned (OpenSpec.upto crossApartSpec)

/-- 'apportionlaw08.CrossKnown', WHERE WHAT IT READS IS OF BULK AT MOST 1048576: true; the input reads as it did. -/
def crossKnownUptoRow : OpenClaim := { program := "ytlhknnjnccjgfaa", sum := "bae47b93e4f92e0d90417f6193ed358995bd535e643d15473758be920f013866", func := "apportion/apportionlaw08.CrossKnown", spec := "crossKnown", apart := false, narrowed := true }
def CrossKnownUptoSaid : Prop := crossKnownUptoRow.holds Try.pinned (OpenSpec.upto crossKnownSpec)

end Rows
end Go.Proofs.Ytlhknnjnccjgfaa

/- Contract of apportionref07.Bounds. -/
import Derived.Test.YtlhknnjnccjgfaaPtThree
import Derived.Test.YtlhknnjnccjgfaaPlus2
namespace Go.Proofs.Ytlhknnjnccjgfaa
set_option linter.unusedVariables false
set_option linter.unusedSimpArgs false
open Go.RowKit

/-- Between two rounds: the box's block is the last of a world, and others lie behind. -/
def RefW (w2 : World) (K : List (Int × Int)) (k : Nat) (wr : World) : Prop := Junk (w2.alloc (.cells (xcells (lxF K k) (lyF K k) (hxF K k) (hyF K k)) 38)) wr
def RefAt (w2 : World) (K : List (Int × Int)) (i : Value) (wr : World) : Prop := ∃ k : Nat, i = .int .i64 (k : Int) ∧ k ≤ K.length ∧ allOk (K.take k) = true ∧ RefW w2 K k wr
theorem ref_next {w2 : World} {K : List (Int × Int)} {k : Nat} {a b c d : Int} {wr : World} (h : Junk (w2.alloc (.cells #[.int .i64 a, .int .i64 b, .int .i64 c, .int .i64 d] 38)) wr)
    (h1 : lxF K k = a) (h2 : lyF K k = b) (h3 : hxF K k = c) (h4 : hyF K k = d) : RefW w2 K k wr := by
  unfold RefW
  rw [h1, h2, h3, h4]
  exact h

end Go.Proofs.Ytlhknnjnccjgfaa

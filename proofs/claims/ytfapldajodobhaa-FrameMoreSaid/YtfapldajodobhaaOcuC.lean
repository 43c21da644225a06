/- Contracts of octet's checkWithin, getChecked, getCount, getByte. -/
import Derived.Test.YtfapldajodobhaaOcuG
import Derived.Test.YtfapldajodobhaaPlus2
import Derived.Shelf.Abstract
namespace Go.Proofs.Ytfapldajodobhaa
set_option linter.unusedVariables false
set_option linter.unusedSimpArgs false
open Go.RowKit

/-- What a check says of a number within bounds. -/
def within (lo hi n : Int) : Int := if n < lo ∨ hi < n then 5 else 0
/-- What is wrong with a count. -/
def countE (most n : Int) : Int := if most < n then 3 else within 0 most n

/-- getChecked: number, place behind, fault, its place. -/
def chkP (chk : Int → Int) (L : List UInt8) (p : Int) : Int × Int × Int × Int :=
  if (getP L p).2.2.1 ≠ 0 then (0, 0, (getP L p).2.2.1, (getP L p).2.2.2)
  else if chk (getP L p).1 ≠ 0 then (0, 0, chk (getP L p).1, p)
  else ((getP L p).1, (getP L p).2.1, 0, 0)

theorem count_len {L : List UInt8} {p most : Int} (h : 0 ≤ most) : chkP (countE most) L p = lenP L p most := by
  unfold chkP lenP countE within
  generalize getP L p = G
  obtain ⟨n, q, e, a⟩ := G
  simp only
  rw [if_neg (show ¬ most < 0 by omega)]
  by_cases c1 : e ≠ 0
  · rw [if_pos c1, if_pos c1]
  rw [if_neg c1, if_neg c1]
  by_cases c2 : most < n
  · rw [if_pos c2, if_neg (show ¬ n < 0 by omega), if_pos c2]; rfl
  · rw [if_neg c2, if_neg c2]
    by_cases c3 : n < 0
    · rw [if_pos c3, if_pos (Or.inl c3)]; rfl
    · rw [if_neg c3, if_neg (show ¬ (n < 0 ∨ most < n) by omega)]; rfl

/-- getByte: byte, place behind, fault, its place. -/
def byteP (L : List UInt8) (p : Nat) : Nat × Int × Int × Int := if p = L.length then (0, 0, 4, p) else (byteAt L p, p + 1, 0, 0)

end Go.Proofs.Ytfapldajodobhaa

/- Contracts of octet's appendNumber, Put, PutText, PutList. -/
import Derived.Test.YtfapldajodobhaaOcuA
import Derived.Test.YtfapldajodobhaaOctH
namespace Go.Proofs.Ytfapldajodobhaa
set_option linter.unusedVariables false
set_option linter.unusedSimpArgs false
open Go.RowKit

/-- A call hands on a row of bytes of its caller's own, with more behind. -/
def AppRes (w : World) (base : Nat) (D : List UInt8) (e : Ending) (w' : World) : Prop := ∃ v, e = .returned v ∧ BOwns w' base v D ∧ Below base w w'

/-- appendNumber's loop. -/
def AppAt (w : World) (base N : Nat) (E : List UInt8) (X : Nat) (o x : Value) (wr : World) : Prop := ∃ (D : List UInt8) (r : Nat), x = .int .u64 (r : Int) ∧ BOwns wr base o D ∧ D ++ encR r = E ∧ r ≤ X ∧ Below base w wr ∧ base ≤ wr.heap.size

theorem bits_or8 (c : Nat) (h : c < 256) : bits .or .u8 (c : Int) 128 = ((c % 128 + 128 : Nat) : Int) := by
  show IntKind.u8.wrap (((BitVec.ofInt 8 (c : Int)) ||| (BitVec.ofInt 8 128)).toNat : Int) = _
  rw [BitVec.toNat_or, show (BitVec.ofInt 8 (c : Int)).toNat = c by simp [BitVec.toNat_ofInt]; omega, show (BitVec.ofInt 8 128).toNat = 128 by decide]
  obtain ⟨d, hd⟩ : ∃ d, c % 128 = d := ⟨_, rfl⟩
  have e := Nat.shiftLeft_add_eq_or_of_lt (show d < 2 ^ 7 by omega) 1
  have e1 : 1 <<< 7 = 128 := by decide
  rw [e1] at e
  have e2 : c ||| 128 = d + 128 := by
    rw [Nat.or_comm]
    by_cases hc : c < 128
    · rw [show c = d by omega, ← e]; omega
    · rw [show c = 128 + d by omega, e, ← Nat.or_assoc, Nat.or_self, ← e]; omega
  rw [e2, hd]
  simp [IntKind.wrap, IntKind.signed, IntKind.bits]
  omega

/-- PutList's loop. -/
def PListAt (w : World) (zs : List Int) (o i : Value) (wr : World) : Prop := ∃ (k : Nat) (D : List UInt8), i = .int .i64 (k : Int) ∧ k ≤ zs.length ∧ BOwns wr w.heap.size o D ∧ D = encN (zs.length : Int) ++ (zs.take k).flatMap encN ∧ D.length ≤ 10 + 10 * k ∧ Below w.heap.size w wr ∧ w.heap.size ≤ wr.heap.size

end Go.Proofs.Ytfapldajodobhaa

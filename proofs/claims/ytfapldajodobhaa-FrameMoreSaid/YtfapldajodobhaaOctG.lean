/- Contract of apportionref05's Get. -/
import Derived.Test.YtfapldajodobhaaOctA
namespace Go.Proofs.Ytfapldajodobhaa
set_option linter.unusedVariables false
set_option linter.unusedSimpArgs false
open Go.RowKit

theorem ret_pf5 {a b c d a' b' c' d' : Int} (h1 : a = a') (h2 : b = b') (h3 : c = c') (h4 : d = d') : Ending.returned (.tuple #[.int .i64 a, .int .i64 b, .agg #[.int .i64 c, .int .i64 d]]) = .returned (.tuple #[.int .i64 a', .int .i64 b', .agg #[.int .i64 c', .int .i64 d']]) := by rw [h1, h2, h3, h4]

theorem bits_not64 (h : Nat) (hh : h < 9223372036854775808) : bits .xor .i64 (-1) (h : Int) = -(h : Int) - 1 := by
  show IntKind.i64.wrap (((BitVec.ofInt 64 (-1)) ^^^ (BitVec.ofInt 64 (h : Int))).toNat : Int) = _
  have e : BitVec.ofInt 64 (-1) = BitVec.allOnes 64 := by decide
  rw [e, BitVec.allOnes_xor, BitVec.toNat_not, ofInt_nat h (by omega)]
  simp [IntKind.wrap, IntKind.signed, IntKind.bits]
  omega

/-- One group more. -/
theorem group_facts {k R d : Nat} (hk : k ≤ 9) (hR : R < 128 ^ k) (hd : d < 128) (h9 : k = 9 → d ≤ 1) :
    d * 128 ^ k < 18446744073709551616 ∧ R + d * 128 ^ k < 18446744073709551616 ∧ R + d * 128 ^ k < 128 ^ (k + 1) := by
  have hp : 128 ^ k ≤ 128 ^ 9 := Nat.pow_le_pow_right (by omega) hk
  rw [pow9] at hp
  have h1 : d * 128 ^ k ≤ 127 * 128 ^ k := Nat.mul_le_mul_right _ (by omega)
  have h3 : 128 ^ (k + 1) = 128 ^ k * 128 := Nat.pow_succ ..
  by_cases e : k = 9
  · have h2 := h9 e
    have h4 : d * 128 ^ k ≤ 1 * 128 ^ k := Nat.mul_le_mul_right _ h2
    omega
  · have hp8 : 128 ^ k ≤ 128 ^ 8 := Nat.pow_le_pow_right (by omega) (by omega)
    have e8 : (128 : Nat) ^ 8 = 72057594037927936 := by decide
    omega

theorem pow7 (k : Nat) : 2 ^ (7 * k) = 128 ^ k := by rw [Nat.pow_mul]

/-- Get's loop: how many groups are read, and what they say. -/
def GetAt (L : List UInt8) (p : Nat) (w0 : World) (i x : Value) (wr : World) : Prop := ∃ k R : Nat, i = .int .i64 (k : Int) ∧ x = .int .u64 (R : Int) ∧ k ≤ 9 ∧ R < 128 ^ k ∧ p + k ≤ L.length ∧ getS 0 0 (L.drop p) = getS k R (L.drop (p + k)) ∧ wr = w0

theorem drop_at {L : List UInt8} {i : Nat} (h : i < L.length) : ∃ c : UInt8, L.drop i = c :: L.drop (i + 1) ∧ c.toNat = byteAt L i := by
  refine ⟨L[i], List.drop_eq_getElem_cons h, ?_⟩
  unfold byteAt
  simp [List.getD_eq_getElem?_getD, h]

end Go.Proofs.Ytfapldajodobhaa

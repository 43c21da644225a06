/- Contracts of octet's rankOf, numberOf. -/
import Derived.Test.YtfapldajodobhaaOctA
import Derived.Test.YtfapldajodobhaaOctG
namespace Go.Proofs.Ytfapldajodobhaa
set_option linter.unusedVariables false
set_option linter.unusedSimpArgs false
open Go.RowKit

theorem xor_zero64 (x : Int) : bits .xor .i64 x 0 = IntKind.i64.wrap ((BitVec.ofInt 64 x).toNat : Int) := by
  show IntKind.i64.wrap (((BitVec.ofInt 64 x) ^^^ (BitVec.ofInt 64 0)).toNat : Int) = _
  rw [show BitVec.ofInt 64 0 = 0#64 by decide, BitVec.xor_zero]
theorem xor_ones64 (x : Int) : bits .xor .i64 x (-1) = IntKind.i64.wrap ((18446744073709551615 - (BitVec.ofInt 64 x).toNat : Nat) : Int) := by
  show IntKind.i64.wrap (((BitVec.ofInt 64 x) ^^^ (BitVec.ofInt 64 (-1))).toNat : Int) = _
  rw [show BitVec.ofInt 64 (-1) = BitVec.allOnes 64 by decide, BitVec.xor_allOnes, BitVec.toNat_not]

theorem rank_bits {n : Int} (h : I64 n) : IntKind.u64.wrap (bits .xor .i64 (wrap64 (n * 2)) (n / 9223372036854775808)) = (rank n : Int) := by
  obtain ⟨h0, h1⟩ := h
  unfold rank
  by_cases hn : 0 ≤ n
  · rw [show n / 9223372036854775808 = 0 by omega, xor_zero64, if_pos hn]
    simp [IntKind.wrap, IntKind.signed, IntKind.bits, wrap64, BitVec.toNat_ofInt]
    omega
  · rw [show n / 9223372036854775808 = -1 by omega, xor_ones64, if_neg hn]
    simp [IntKind.wrap, IntKind.signed, IntKind.bits, wrap64, BitVec.toNat_ofInt]
    omega

theorem num_bits {r : Nat} (h : r < 18446744073709551616) : bits .xor .i64 ((r : Int) / 2) (wrap64 (IntKind.u64.wrap ((r : Int) * 9223372036854775808)) / 9223372036854775808) = numOf r := by
  unfold numOf
  by_cases hn : r % 2 = 1
  · rw [show wrap64 (IntKind.u64.wrap ((r : Int) * 9223372036854775808)) / 9223372036854775808 = -1 by
      simp [IntKind.wrap, IntKind.signed, IntKind.bits, wrap64]; omega, xor_ones64, if_pos hn]
    simp [IntKind.wrap, IntKind.signed, IntKind.bits, BitVec.toNat_ofInt]
    omega
  · rw [show wrap64 (IntKind.u64.wrap ((r : Int) * 9223372036854775808)) / 9223372036854775808 = 0 by
      simp [IntKind.wrap, IntKind.signed, IntKind.bits, wrap64]; omega, xor_zero64, if_neg hn]
    simp [IntKind.wrap, IntKind.signed, IntKind.bits, BitVec.toNat_ofInt]
    omega

end Go.Proofs.Ytfapldajodobhaa

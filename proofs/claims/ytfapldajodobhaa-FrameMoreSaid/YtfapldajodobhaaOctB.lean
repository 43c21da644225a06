/- Bits of whole numbers of 64 bits. -/
import Derived.Test.YtfapldajodobhaaOctO
import Derived.OwnWalk
namespace Go.Proofs.Ytfapldajodobhaa
set_option linter.unusedVariables false
set_option linter.unusedSimpArgs false
open Go.RowKit

theorem ofInt_nat (z : Nat) (h : z < 18446744073709551616) : (BitVec.ofInt 64 (z : Int)).toNat = z := by
  simp [BitVec.toNat_ofInt]
  omega
theorem wrap_nat (z : Nat) (h : z < 18446744073709551616) : IntKind.u64.wrap (z : Int) = z := by
  simp [IntKind.wrap, IntKind.signed, IntKind.bits]
  omega

theorem bits_not (z : Nat) (h : z < 18446744073709551616) : bits .xor .u64 IntKind.u64.max (z : Int) = 18446744073709551615 - z := by
  show IntKind.u64.wrap (((BitVec.ofInt 64 IntKind.u64.max) ^^^ (BitVec.ofInt 64 (z : Int))).toNat : Int) = _
  have e : BitVec.ofInt 64 IntKind.u64.max = BitVec.allOnes 64 := by decide
  rw [e, BitVec.allOnes_xor, BitVec.toNat_not, ofInt_nat z h]
  rw [wrap_nat _ (by omega)]
  omega

theorem bits_or (r c k : Nat) (hr : r < 2 ^ k) (h : r + c * 2 ^ k < 18446744073709551616) : bits .or .u64 (r : Int) ((c * 2 ^ k : Nat) : Int) = ((r + c * 2 ^ k : Nat) : Int) := by
  show IntKind.u64.wrap (((BitVec.ofInt 64 (r : Int)) ||| (BitVec.ofInt 64 ((c * 2 ^ k : Nat) : Int))).toNat : Int) = _
  rw [BitVec.toNat_or, ofInt_nat r (by omega), ofInt_nat (c * 2 ^ k) (by omega)]
  have e := Nat.shiftLeft_add_eq_or_of_lt hr c
  rw [Nat.shiftLeft_eq] at e
  rw [Nat.or_comm, ← e, Nat.add_comm, wrap_nat _ h]
end Go.Proofs.Ytfapldajodobhaa

/- Contract of math/bits.Div64: for hi < y the quotient and the rest of hi * 2^64 + lo by y. -/
import Derived.Test.YtegliapkbapigaaGreatDivA
import Derived.Laws.BitsAllLaws
import Derived.Lib.BitFns
import Derived.Deep.QuietTactic
namespace Go.Proofs.YtegliapkbapigaaGreat
set_option linter.unusedVariables false
set_option linter.unusedSimpArgs false
open Go.RowKit

theorem bitLen_log (y : Nat) (h : 0 < y) (h2 : y < 18446744073709551616) : Lib.bitLen y = y.log2 + 1 ∧ 2 ^ y.log2 ≤ y ∧ y < 2 ^ (y.log2 + 1) ∧ y.log2 ≤ 63 := by
  have a := Nat.log2_self_le (n := y) (by omega)
  have b := Nat.lt_log2_self (n := y)
  have c : y.log2 ≤ 63 := by
    rcases Nat.lt_or_ge 63 y.log2 with g | g
    · have := Nat.pow_le_pow_right (n := 2) (by omega) (show 64 ≤ y.log2 by omega)
      have e : (2:Nat) ^ 64 = 18446744073709551616 := by decide
      omega
    · exact g
  refine ⟨?_, a, b, c⟩
  rw [Lib.bitLen_shift y.log2 y a h2]
  have e : y / 2 ^ y.log2 = 1 := by
    have p := Nat.two_pow_pos y.log2
    have e1 : 1 ≤ y / 2 ^ y.log2 := (Nat.le_div_iff_mul_le p).2 (by omega)
    have e2 : y / 2 ^ y.log2 < 2 := (Nat.div_lt_iff_lt_mul p).2 (by rw [Nat.pow_succ] at b; omega)
    omega
  rw [e]; rfl

theorem split_scale (hi lo s : Nat) (hs : s ≤ 63) : (hi * 18446744073709551616 + lo) * 2 ^ s = (hi * 2 ^ s + lo / 2 ^ (64 - s)) * 18446744073709551616 + lo * 2 ^ s % 18446744073709551616 := by
  have e : (18446744073709551616 : Nat) = 2 ^ (64 - s) * 2 ^ s := by rw [← Nat.pow_add, show 64 - s + s = 64 by omega]
  have e1 : lo * 2 ^ s / 18446744073709551616 = lo / 2 ^ (64 - s) := by
    rw [e]; exact Nat.mul_div_mul_right _ _ (Nat.two_pow_pos s)
  have e2 := Nat.div_add_mod (lo * 2 ^ s) 18446744073709551616
  rw [e1] at e2
  rw [Nat.add_mul, Nat.mul_right_comm]
  omega

theorem or_split (a b s : Nat) (hb : b < 2 ^ s) (h : a * 2 ^ s + b < 18446744073709551616) : bits .or .u64 ((a * 2 ^ s : Nat) : Int) (b : Int) = ((a * 2 ^ s + b : Nat) : Int) := by
  rw [u64_or_nat _ _ (by omega) (by omega)]
  congr 1
  rw [← Nat.shiftLeft_eq, Nat.shiftLeft_add_eq_or_of_lt hb]

theorem and_mask32 (a : Nat) (h : a < 18446744073709551616) : bits .and .u64 (a : Int) 4294967295 = ((a % 4294967296 : Nat) : Int) := by
  have := u64_and_nat a 4294967295 h (by decide)
  rw [show ((4294967295 : Nat) : Int) = 4294967295 from rfl] at this
  rw [this, show (4294967295 : Nat) = 2 ^ 32 - 1 from by decide, Nat.and_two_pow_sub_one_eq_mod]

end Go.Proofs.YtegliapkbapigaaGreat

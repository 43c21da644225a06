/- Contracts of package wide's small functions: absolute value, sign, product of two ints, sign of a difference of products. Conditions: the arguments are ints. -/
import Derived.Test.YtnpkhhchbahcpaaProg
import Derived.Test.YtnpkhhchbahcpaaShelf
import Derived.Test.YtnpkhhchbahcpaaKitOne
namespace Go.Proofs.Ytnpkhhchbahcpaa
set_option linter.unusedVariables false
set_option linter.unusedSimpArgs false
open Go.RowKit


/-- The sign of an int, closed to the walk's simp. -/
def sgn (z : Int) : Int := z.sign
theorem sgn_cases (z : Int) : (0 < z ∧ sgn z = 1) ∨ (z = 0 ∧ sgn z = 0) ∨ (z < 0 ∧ sgn z = -1) := by
  rcases Int.lt_trichotomy z 0 with h | h | h
  · exact .inr (.inr ⟨h, Int.sign_eq_neg_one_of_neg h⟩)
  · exact .inr (.inl ⟨h, by rw [h]; rfl⟩)
  · exact .inl ⟨h, Int.sign_eq_one_of_pos h⟩
theorem sgn_mul (a b : Int) : sgn (a * b) = sgn a * sgn b := Int.sign_mul a b
theorem sgn_pos {z : Int} (h : 0 < z) : sgn z = 1 := Int.sign_eq_one_of_pos h
theorem sgn_neg {z : Int} (h : z < 0) : sgn z = -1 := Int.sign_eq_neg_one_of_neg h
theorem sgn_zero {z : Int} (h : z = 0) : sgn z = 0 := by subst h; rfl

theorem cmp_sign (a b : Int) : Lib.compareInt a b = sgn (a - b) := by
  unfold Lib.compareInt sgn
  split
  · rw [Int.sign_eq_neg_one_of_neg (by omega)]
  · split
    · rw [Int.sign_eq_one_of_pos (by omega)]
    · rw [show a - b = 0 by omega]; rfl

set_option maxHeartbeats 400000 in
theorem w_cmp (a b : Int) (w : World) :
    Calls Try.prog 57 #[.int .i64 a, .int .i64 b] w fun e w' => e = .returned (.int .i64 (sgn (a - b))) ∧ w = w' :=
  (Try.cmp_Compare_int a b w).mono fun e w' ⟨h1, h2⟩ => ⟨by rw [h1, cmp_sign], h2.symm⟩

theorem sign_bd (a : Int) : -1 ≤ sgn a ∧ sgn a ≤ 1 := by
  rcases sgn_cases a with h | h | h <;> omega

def mulHi (a b : Int) : Int := ((a * b).natAbs / 18446744073709551616 : Nat)
def mulLo (a b : Int) : Int := ((a * b).natAbs % 18446744073709551616 : Nat)

theorem sign_mul_bd (a b : Int) : -1 ≤ sgn a * sgn b ∧ sgn a * sgn b ≤ 1 := by
  rw [← sgn_mul]; exact sign_bd _

end Go.Proofs.Ytnpkhhchbahcpaa

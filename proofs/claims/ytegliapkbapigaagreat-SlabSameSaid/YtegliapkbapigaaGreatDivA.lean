/- Contract of math/bits.Div64 for a high part from 1 on, below the divisor: the quotient and the rest of hi * 2^64 + lo by y. The scaled numbers come in by name. -/
import Derived.Test.YtegliapkbapigaaGreatWideA
import Derived.Test.YtegliapkbapigaaGreatDivM
import Derived.Lib.Hide
import Derived.BigQuiet
import Derived.Deep.CutBlock
import Derived.Deep.Cut
namespace Go.Proofs.YtegliapkbapigaaGreat
set_option linter.unusedVariables false
set_option linter.unusedSimpArgs false
open Go.RowKit

/-- What the loop that corrects a digit keeps. -/
def DInv (U P R n q r : Int) : Prop := q * P + r = U ∧ (U * 4294967296 + n) / (P * 4294967296 + R) ≤ q ∧ q ≤ 4294967297 ∧ 0 ≤ q ∧ 0 ≤ r ∧ r < 4294967296

theorem u64w (a : Int) (h0 : 0 ≤ a) (h1 : a < 18446744073709551616) : IntKind.u64.wrap a = a := by
  rw [IntKind.wrap_u64]; omega
theorem u64w' (a b : Int) (h : ∃ k, a = b + k * 18446744073709551616) (h0 : 0 ≤ b) (h1 : b < 18446744073709551616) : IntKind.u64.wrap a = b := by
  obtain ⟨k, rfl⟩ := h; rw [IntKind.wrap_u64]; omega

theorem dinv_start (U P R n : Int) (p0 : 2147483648 ≤ P) (r0 : 0 ≤ R) (r1 : R ≤ 4294967295) (u0 : 0 ≤ U) (u1 : U < P * 4294967296 + R) (n1 : n < 4294967296) (p1 : P ≤ 4294967295) :
    0 ≤ U / P * P ∧ U / P * P ≤ U ∧ 0 ≤ U / P ∧ U / P ≤ 4294967297 ∧ DInv U P R n (U / P) (U - U / P * P) := by
  obtain ⟨a, b, c, d, e, f⟩ := dm_init P R U n p0 r0 r1 u0 u1 n1
  refine ⟨Int.mul_nonneg b (by omega), by omega, b, c, ?_⟩
  unfold DInv
  refine ⟨by omega, a, c, b, by omega, by omega⟩

theorem dinv_dec1 (U P R n q r : Int) (p0 : 0 < P) (u1 : U < P * 4294967296 + R) (n1 : n < 4294967296) (r0 : 0 ≤ R) (h : 4294967296 ≤ q) (inv : DInv U P R n q r) :
    (q - 1) * P + (r + P) = U ∧ (U * 4294967296 + n) / (P * 4294967296 + R) ≤ q - 1 ∧ q - 1 ≤ 4294967296 := by
  obtain ⟨a, b, c, d, e, f⟩ := inv
  exact ⟨by rw [Int.sub_mul]; omega, dm_dec1 _ U n q (by omega) u1 n1 h, by omega⟩

theorem dinv_dec2 (U P R n q r : Int) (p0 : 0 < P) (r0 : 0 ≤ R) (hq : q < 4294967296) (h : 4294967296 * r + n < q * R) (inv : DInv U P R n q r) :
    (q - 1) * P + (r + P) = U ∧ (U * 4294967296 + n) / (P * 4294967296 + R) ≤ q - 1 ∧ q - 1 ≤ 4294967296 := by
  obtain ⟨a, b, c, d, e, f⟩ := inv
  exact ⟨by rw [Int.sub_mul]; omega, dm_dec2 P R U n q r (by omega) a h, by omega⟩

/-- Going on: the invariant again. -/
theorem dinv_next (U P R n q r : Int) (p0 : 0 < P) (q0 : 1 ≤ q) (inv : DInv U P R n q r) (g : (q - 1) * P + (r + P) = U ∧ (U * 4294967296 + n) / (P * 4294967296 + R) ≤ q - 1 ∧ q - 1 ≤ 4294967296) (h : ¬ 4294967296 ≤ r + P) : DInv U P R n (q - 1) (r + P) := by
  obtain ⟨a, b, c, d, e, f⟩ := inv
  exact ⟨g.1, g.2.1, by omega, by omega, by omega, by omega⟩

/-- Leaving by the break. -/
theorem dinv_break (U P R n q r Q : Int) (p0 : 0 < P) (r0 : 0 ≤ R) (r1 : R ≤ 4294967295) (n0 : 0 ≤ n) (q0 : 1 ≤ q) (g : (q - 1) * P + (r + P) = U ∧ (U * 4294967296 + n) / (P * 4294967296 + R) ≤ q - 1 ∧ q - 1 ≤ 4294967296) (h : 4294967296 ≤ r + P)
    (hQ : (U * 4294967296 + n) / (P * 4294967296 + R) = Q) : q - 1 = Q := by
  have := dm_brk P R U n (q - 1) (r + P) (by omega) g.1 (by omega) g.2.2 r0 r1 n0 h
  omega

theorem dinv_leave (U P R n q r Q : Int) (p0 : 0 < P) (r0 : 0 ≤ R) (inv : DInv U P R n q r) (h : ¬ 4294967296 * r + n < q * R)
    (hQ : (U * 4294967296 + n) / (P * 4294967296 + R) = Q) : q = Q := by
  have := dm_exit P R U n q r (by omega) inv.1 (by omega)
  have := inv.2.1
  omega

def Div64Fin (Y U n1 n0 : Int) (s : Nat) (e : Ending) : Prop :=
  e = .returned (.tuple #[.int .u64 ((U * 18446744073709551616 + n1 * 4294967296 + n0) / Y), .int .u64 ((U * 18446744073709551616 + n1 * 4294967296 + n0) % Y / 2 ^ s)])

end Go.Proofs.YtegliapkbapigaaGreat

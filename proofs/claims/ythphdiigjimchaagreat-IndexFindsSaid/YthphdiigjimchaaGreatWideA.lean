/- Contracts of package wide's small functions: absolute value, sign, product of two ints, sign of a difference of products. Conditions: the arguments are ints. -/
import Derived.Test.YthphdiigjimchaaGreatProg
import Derived.Test.YthphdiigjimchaaGreatShelf
import Derived.Test.YthphdiigjimchaaGreatKitOne
namespace Go.Proofs.YthphdiigjimchaaGreat
set_option linter.unusedVariables false
set_option linter.unusedSimpArgs false
open Go.RowKit
set_option maxHeartbeats 400000 in
theorem w_size (a : Int) (h0 : -9223372036854775808 ≤ a) (h1 : a ≤ 9223372036854775807) (w : World) :
    Calls Tryz.prog 188 #[.int .i64 a] w fun e w' => e = .returned (.int .u64 (a.natAbs : Int)) ∧ w = w' := by
  by_cases h : a < 0
  · go_enter Tryz.func188, Tryz.ntmps188
    go_wp2
    go_ret
    exact ⟨ret1 (by simp only [IntKind.wrap_u64]; omega), rfl⟩
  · go_enter Tryz.func188, Tryz.ntmps188
    go_wp2
    go_ret
    exact ⟨ret1 (by omega), rfl⟩
def sgn (z : Int) : Int := z.sign
theorem sgn_cases (z : Int) : (0 < z ∧ sgn z = 1) ∨ (z = 0 ∧ sgn z = 0) ∨ (z < 0 ∧ sgn z = -1) := by
  rcases Int.lt_trichotomy z 0 with h | h | h
  · exact .inr (.inr ⟨h, Int.sign_eq_neg_one_of_neg h⟩)
  · exact .inr (.inl ⟨h, by rw [h]; rfl⟩)
  · exact .inl ⟨h, Int.sign_eq_one_of_pos h⟩
theorem sgn_mul (a b : Int) : sgn (a * b) = sgn a * sgn b := Int.sign_mul a b
theorem sgn_pos {z : Int} (h : 0 < z) : sgn z = 1 := Int.sign_eq_one_of_pos h
theorem sgn_neg {z : Int} (h : z < 0) : sgn z = -1 := Int.sign_eq_neg_one_of_neg h
theorem sgn_zero {z : Int} (h : z = 0) : sgn z = 0 := by subst h; rfl
theorem cmp_sign (a b : Int) : Lib.compareInt a b = sgn (a - b) := by
  unfold Lib.compareInt sgn
  split
  · rw [Int.sign_eq_neg_one_of_neg (by omega)]
  · split
    · rw [Int.sign_eq_one_of_pos (by omega)]
    · rw [show a - b = 0 by omega]; rfl
set_option maxHeartbeats 400000 in
theorem w_cmp (a b : Int) (w : World) :
    Calls Tryz.prog 106 #[.int .i64 a, .int .i64 b] w fun e w' => e = .returned (.int .i64 (sgn (a - b))) ∧ w = w' :=
  (Tryz.cmp_Compare_int a b w).mono fun e w' ⟨h1, h2⟩ => ⟨by rw [h1, cmp_sign], h2.symm⟩
set_option maxHeartbeats 400000 in
theorem w_sign (a : Int) (w : World) :
    Calls Tryz.prog 189 #[.int .i64 a] w fun e w' => e = .returned (.int .i64 (sgn a)) ∧ w = w' := by
  go_enter Tryz.func189, Tryz.ntmps189
  go_wp2_with fail
  refine (w_cmp _ _ _).mono ?_
  rintro e w' ⟨rfl, rfl⟩
  go_wp2
  go_ret
  exact ⟨rfl, rfl⟩
set_option maxHeartbeats 400000 in
theorem w_isNaNu (a : Int) (w : World) :
    Calls Tryz.prog 190 #[.int .u64 a] w fun e w' => e = .returned (.bool false) ∧ w = w' := by
  go_enter Tryz.func190, Tryz.ntmps190
  go_wp2
  go_ret
  exact ⟨by simp, rfl⟩
set_option maxHeartbeats 400000 in
theorem w_cmpu (a b : Int) (w : World) :
    Calls Tryz.prog 156 #[.int .u64 a, .int .u64 b] w fun e w' => e = .returned (.int .i64 (sgn (a - b))) ∧ w = w' := by
  by_cases h1 : a < b
  · have : sgn (a - b) = -1 := sgn_neg (by omega)
    rw [this]; clear this
    go_enter Tryz.func156, Tryz.ntmps156
    go_wp2_with (go_at_call 190; refine (w_isNaNu _ _).mono ?_; rintro e w' ⟨rfl, rfl⟩)
    go_ret
    exact ⟨rfl, rfl⟩
  · by_cases h2 : b < a
    · have : sgn (a - b) = 1 := sgn_pos (by omega)
      rw [this]; clear this
      go_enter Tryz.func156, Tryz.ntmps156
      go_wp2_with (go_at_call 190; refine (w_isNaNu _ _).mono ?_; rintro e w' ⟨rfl, rfl⟩)
      go_ret
      exact ⟨rfl, rfl⟩
    · have : sgn (a - b) = 0 := sgn_zero (by omega)
      rw [this]; clear this
      go_enter Tryz.func156, Tryz.ntmps156
      go_wp2_with (go_at_call 190; refine (w_isNaNu _ _).mono ?_; rintro e w' ⟨rfl, rfl⟩)
      go_ret
      exact ⟨rfl, rfl⟩
theorem sign_bd (a : Int) : -1 ≤ sgn a ∧ sgn a ≤ 1 := by
  rcases sgn_cases a with h | h | h <;> omega
def mulHi (a b : Int) : Int := ((a * b).natAbs / 18446744073709551616 : Nat)
def mulLo (a b : Int) : Int := ((a * b).natAbs % 18446744073709551616 : Nat)
theorem sign_mul_bd (a b : Int) : -1 ≤ sgn a * sgn b ∧ sgn a * sgn b ≤ 1 := by
  rw [← sgn_mul]; exact sign_bd _
set_option maxHeartbeats 400000 in
theorem w_Mul (a b : Int) (h0 : -9223372036854775808 ≤ a) (h1 : a ≤ 9223372036854775807) (h2 : -9223372036854775808 ≤ b) (h3 : b ≤ 9223372036854775807) (w : World) :
    Calls Tryz.prog 155 #[.int .i64 a, .int .i64 b] w fun e w' => e = .returned (.tuple #[.int .u64 (mulHi a b), .int .u64 (mulLo a b), .int .i64 (sgn (a * b))]) ∧ w = w' := by
  have ha : a.natAbs < 18446744073709551616 := by omega
  have hb : b.natAbs < 18446744073709551616 := by omega
  have hs := sign_mul_bd a b
  have hsa := sign_bd a
  have hsb := sign_bd b
  go_enter Tryz.func155, Tryz.ntmps155
  go_wp2_with fail
  refine (w_size a h0 h1 _).mono ?_
  rintro e w' ⟨rfl, rfl⟩
  go_wp2_with fail
  refine (w_size b h2 h3 _).mono ?_
  rintro e w' ⟨rfl, rfl⟩
  go_wp2_with fail
  refine (Tryz.bits_Mul64 _ _ ha hb _).mono ?_
  rintro e w' ⟨rfl, rfl⟩
  go_wp2_with (go_at_call 189; refine (w_sign _ _).mono ?_; rintro e w' ⟨rfl, rfl⟩)
  go_ret3
  refine ⟨ret3 ?_ ?_ ?_, rfl⟩
  · rw [mulHi, Int.natAbs_mul]; omega
  · rw [mulLo, Int.natAbs_mul]; omega
  · rw [sgn_mul]
end Go.Proofs.YthphdiigjimchaaGreat

/- Contracts of cmp.Or (two ints) and of wide.Sign: the sign of a * b - c * d. Conditions: the arguments are ints. -/
import Derived.Test.YthphdiigjimchaaGreatWideA
import Derived.Lib.Hide
namespace Go.Proofs.YthphdiigjimchaaGreat
set_option linter.unusedVariables false
set_option linter.unusedSimpArgs false
open Go.RowKit
set_option maxHeartbeats 400000 in
theorem w_or2 (x y : Int) (b : Nat) (w : World) (h0 : w.cell? ⟨b, 0, none⟩ = some (.int .i64 x)) (h1 : w.cell? ⟨b, 1, none⟩ = some (.int .i64 y)) :
    Calls Tryz.prog 105 #[.slice (some ⟨b, 0, none⟩) 2 2] w fun e w' => e = .returned (.int .i64 (if x = 0 then y else x)) ∧ w = w' := by
  by_cases hx : x = 0
  · rw [if_pos hx]
    have e1 : (x == 0) = true := by simp [hx]
    have e2 : (x != 0) = false := by simp [hx]
    clear hx
    by_cases hy : y = 0
    · have e3 : (y != 0) = false := by simp [hy]
      have H := Lib.hid hy; clear hy
      go_enter Tryz.func105, Tryz.ntmps105
      go_wp2
      go_rounds 3
      go_ret
      exact ⟨ret1 H.out.symm, rfl⟩
    · have e3 : (y != 0) = true := by simp [hy]
      go_enter Tryz.func105, Tryz.ntmps105
      go_wp2
      go_rounds 3
      go_ret
      exact ⟨rfl, rfl⟩
  · rw [if_neg hx]
    have e2 : (x != 0) = true := by simp [hx]
    clear hx
    go_enter Tryz.func105, Tryz.ntmps105
    go_wp2
    go_rounds 3
    go_ret
    exact ⟨rfl, rfl⟩
theorem sign_of_parts (a b c d : Int) :
    sgn (a * b - c * d) = if sgn (a * b) = sgn (c * d) then sgn (a * b) * (if sgn (mulHi a b - mulHi c d) = 0 then sgn (mulLo a b - mulLo c d) else sgn (mulHi a b - mulHi c d)) else sgn (sgn (a * b) - sgn (c * d)) := by
  unfold mulHi mulLo
  generalize a * b = p
  generalize c * d = q
  have core : ∀ x y : Nat, sgn ((x : Int) - (y : Int)) = if sgn (((x / 18446744073709551616 : Nat) : Int) - ((y / 18446744073709551616 : Nat) : Int)) = 0 then sgn (((x % 18446744073709551616 : Nat) : Int) - ((y % 18446744073709551616 : Nat) : Int)) else sgn (((x / 18446744073709551616 : Nat) : Int) - ((y / 18446744073709551616 : Nat) : Int)) := by
    intro x y
    have h4 := sgn_cases (((x / 18446744073709551616 : Nat) : Int) - ((y / 18446744073709551616 : Nat) : Int))
    have h5 := sgn_cases (((x % 18446744073709551616 : Nat) : Int) - ((y % 18446744073709551616 : Nat) : Int))
    have h6 := sgn_cases ((x : Int) - (y : Int))
    split <;> omega
  have sgn_sub : ∀ x y : Int, sgn (x - y) = - sgn (y - x) := by
    intro x y
    have h4 := sgn_cases (x - y)
    have h5 := sgn_cases (y - x)
    omega
  rcases sgn_cases p with ⟨hp, ep⟩ | ⟨hp, ep⟩ | ⟨hp, ep⟩ <;> rcases sgn_cases q with ⟨hq, eq⟩ | ⟨hq, eq⟩ | ⟨hq, eq⟩
  · rw [ep, eq, if_pos rfl, ← core, Int.one_mul]; congr 1; omega
  · rw [ep, eq, if_neg (by decide), sgn_pos (by omega)]; rfl
  · rw [ep, eq, if_neg (by decide), sgn_pos (by omega)]; rfl
  · rw [ep, eq, if_neg (by decide), sgn_neg (by omega)]; rfl
  · subst hp; subst hq; rfl
  · rw [ep, eq, if_neg (by decide), sgn_pos (by omega)]; rfl
  · rw [ep, eq, if_neg (by decide), sgn_neg (by omega)]; rfl
  · rw [ep, eq, if_neg (by decide), sgn_neg (by omega)]; rfl
  · rw [ep, eq, if_pos rfl, ← core, Int.neg_mul, Int.one_mul, sgn_sub]; congr 2; omega
set_option maxHeartbeats 400000 in
theorem w_Sign (a b c d : Int) (a0 : -9223372036854775808 ≤ a) (a1 : a ≤ 9223372036854775807) (b0 : -9223372036854775808 ≤ b) (b1 : b ≤ 9223372036854775807)
    (c0 : -9223372036854775808 ≤ c) (c1 : c ≤ 9223372036854775807) (d0 : -9223372036854775808 ≤ d) (d1 : d ≤ 9223372036854775807) (w : World) :
    Calls Tryz.prog 123 #[.int .i64 a, .int .i64 b, .int .i64 c, .int .i64 d] w fun e w' => e = .returned (.int .i64 (sgn (a * b - c * d))) ∧ Below w.heap.size w w' := by
  rw [sign_of_parts a b c d]
  by_cases h : sgn (a * b) = sgn (c * d)
  · rw [if_pos h]
    have s2 := sign_bd (mulHi a b - mulHi c d)
    have s3 := sign_bd (mulLo a b - mulLo c d)
    have s4 : -1 ≤ (if sgn (mulHi a b - mulHi c d) = 0 then sgn (mulLo a b - mulLo c d) else sgn (mulHi a b - mulHi c d)) ∧ (if sgn (mulHi a b - mulHi c d) = 0 then sgn (mulLo a b - mulLo c d) else sgn (mulHi a b - mulHi c d)) ≤ 1 := by split <;> omega
    have hor := w_or2 (sgn (mulHi a b - mulHi c d)) (sgn (mulLo a b - mulLo c d))
    generalize (if sgn (mulHi a b - mulHi c d) = 0 then sgn (mulLo a b - mulLo c d) else sgn (mulHi a b - mulHi c d)) = z at *
    have s5 : -1 ≤ sgn (a * b) * z ∧ sgn (a * b) * z ≤ 1 := by
      rcases sgn_cases (a * b) with h | h | h <;> rw [h.2] <;> omega
    have Hor := Lib.hid hor; clear hor
    have e : (sgn (a * b) != sgn (c * d)) = false := by simp [h]
    clear h
    go_enter Tryz.func123, Tryz.ntmps123
    go_wp2_with fail
    refine (w_Mul a b a0 a1 b0 b1 _).mono ?_
    rintro e w' ⟨rfl, rfl⟩
    go_wp2_with fail
    refine (w_Mul c d c0 c1 d0 d1 _).mono ?_
    rintro e w' ⟨rfl, rfl⟩
    go_wp2_with fail
    refine (w_cmpu _ _ _).mono ?_
    rintro e w' ⟨rfl, rfl⟩
    go_wp2_with fail
    refine (w_cmpu _ _ _).mono ?_
    rintro e w' ⟨rfl, rfl⟩
    go_wp2_with fail
    refine (Hor.out _ _ ?_ ?_).mono ?_
    · go_cell
    · go_cell
    rintro e w' ⟨rfl, rfl⟩
    go_wp2
    go_ret
    exact ⟨ret1 rfl, by go_grown⟩
  · rw [if_neg h]
    have e : (sgn (a * b) != sgn (c * d)) = true := by simp [h]
    clear h
    go_enter Tryz.func123, Tryz.ntmps123
    go_wp2_with fail
    refine (w_Mul a b a0 a1 b0 b1 _).mono ?_
    rintro e w' ⟨rfl, rfl⟩
    go_wp2_with fail
    refine (w_Mul c d c0 c1 d0 d1 _).mono ?_
    rintro e w' ⟨rfl, rfl⟩
    go_wp2_with (go_at_call 106; refine (w_cmp _ _ _).mono ?_; rintro e w' ⟨rfl, rfl⟩)
    go_ret
    exact ⟨rfl, Below.refl _ _⟩
end Go.Proofs.YthphdiigjimchaaGreat

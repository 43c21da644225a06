/- The law WideTurns: its text returns true of any four ints. Conditions: the arguments are ints. -/
import Derived.Test.YtmhpmljkmckafaaLawA
import Derived.OpenShut
namespace Go.Proofs.Ytmhpmljkmckafaa
set_option linter.unusedVariables false
set_option linter.unusedSimpArgs false
open Go.RowKit

theorem lit_i64 {a : Int} (h : (Lit.int .i64 a).wf = true) : -9223372036854775808 ≤ a ∧ a ≤ 9223372036854775807 :=
  bounds_i64 h

theorem sgn_less (z : Int) : sgn (-z) = - sgn z := Int.sign_neg z

theorem sgn_eq_zero (z : Int) : sgn z = 0 ↔ z = 0 := by
  rcases sgn_cases z with h | h | h <;> omega

theorem mulHi_comm (a b : Int) : mulHi a b = mulHi b a := by
  unfold mulHi; rw [Int.mul_comm]

theorem mulLo_comm (a b : Int) : mulLo a b = mulLo b a := by
  unfold mulLo; rw [Int.mul_comm]

theorem mul_zero_iff (a b : Int) : a * b = 0 ↔ mulHi a b = 0 ∧ mulLo a b = 0 := by
  unfold mulHi mulLo
  generalize a * b = z
  have h1 : (z.natAbs / 18446744073709551616 : Nat) * 18446744073709551616 + z.natAbs % 18446744073709551616 = z.natAbs := Nat.div_add_mod' _ _
  omega

set_option maxRecDepth 100000 in
set_option maxHeartbeats 4000000 in
theorem l_turns_core (a b c d s t h l : Int) (w : World) (s0 : -1 ≤ s) (s1 : s ≤ 1) (a1 : a ≤ 9223372036854775807) (b1 : b ≤ 9223372036854775807) (c1 : c ≤ 9223372036854775807) (d1 : d ≤ 9223372036854775807)
    (K : Hid (∀ w, Calls Try.prog 6 #[] w fun e w' => e = .returned (.bool true) ∧ Junk w w'))
    (S1 : Hid (∀ w, Calls Try.prog 12 #[.int .i64 a, .int .i64 b, .int .i64 c, .int .i64 d] w fun e w' => e = .returned (.int .i64 s) ∧ Junk w w'))
    (S2 : Hid (∀ w, Calls Try.prog 12 #[.int .i64 c, .int .i64 d, .int .i64 a, .int .i64 b] w fun e w' => e = .returned (.int .i64 (-s)) ∧ Junk w w'))
    (S3 : Hid (∀ w, Calls Try.prog 12 #[.int .i64 b, .int .i64 a, .int .i64 d, .int .i64 c] w fun e w' => e = .returned (.int .i64 s) ∧ Junk w w'))
    (S4 : Hid (∀ w, Calls Try.prog 12 #[.int .i64 a, .int .i64 b, .int .i64 b, .int .i64 a] w fun e w' => e = .returned (.int .i64 0) ∧ Junk w w'))
    (S7 : Hid (∀ w, Calls Try.prog 12 #[.int .i64 a, .int .i64 b, .int .i64 0, .int .i64 0] w fun e w' => e = .returned (.int .i64 t) ∧ Junk w w'))
    (M1 : Hid (∀ w, Calls Try.prog 10 #[.int .i64 a, .int .i64 b] w fun e w' => e = .returned (.tuple #[.int .u64 h, .int .u64 l, .int .i64 t]) ∧ w = w'))
    (M2 : Hid (∀ w, Calls Try.prog 10 #[.int .i64 b, .int .i64 a] w fun e w' => e = .returned (.tuple #[.int .u64 h, .int .u64 l, .int .i64 t]) ∧ w = w'))
    (hz : (t = 0 ∧ h = 0 ∧ l = 0 ∧ a = 0) ∨ (t = 0 ∧ h = 0 ∧ l = 0 ∧ (a == 0) = false ∧ b = 0) ∨ ((t == 0) = false ∧ (a == 0) = false ∧ (b == 0) = false ∧ (h == 0) = false) ∨ ((t == 0) = false ∧ (a == 0) = false ∧ (b == 0) = false ∧ h = 0 ∧ (l == 0) = false))
    (hm : (-9223372036854775808 < a ∧ -9223372036854775808 < b ∧ -9223372036854775808 < c ∧ -9223372036854775808 < d ∧
        Hid (∀ w, Calls Try.prog 12 #[.int .i64 (-a), .int .i64 (-b), .int .i64 c, .int .i64 d] w fun e w' => e = .returned (.int .i64 s) ∧ Junk w w') ∧
        Hid (∀ w, Calls Try.prog 12 #[.int .i64 (-a), .int .i64 b, .int .i64 (-c), .int .i64 d] w fun e w' => e = .returned (.int .i64 (-s)) ∧ Junk w w')) ∨
      ¬ (-9223372036854775808 < a ∧ -9223372036854775808 < b ∧ -9223372036854775808 < c ∧ -9223372036854775808 < d)) :
    Calls Try.prog 7 #[.int .i64 a, .int .i64 b, .int .i64 c, .int .i64 d] w fun e w' => e = .returned (.bool true) ∧ Junk w w' := by
  have HM := Lib.hid hm; clear hm; have HZ := Lib.hid hz; clear hz
  go_enter Try.func7, Try.ntmps7
  go_wp2_with fail
  refine (K.out _).mono ?_; rintro e w' ⟨rfl, J0, d0, rfl⟩
  go_wp2_with fail
  refine (S1.out _).mono ?_; rintro e w' ⟨rfl, J1, d1, rfl⟩
  go_wp2_with fail
  refine (S2.out _).mono ?_; rintro e w' ⟨rfl, J2, d2, rfl⟩
  go_wp2_with fail
  refine (S3.out _).mono ?_; rintro e w' ⟨rfl, J3, d3, rfl⟩
  go_wp2_with fail
  refine (S4.out _).mono ?_; rintro e w' ⟨rfl, J4, d4, rfl⟩
  rcases HM.out with ⟨m1, m2, m3, m4, S5, S6⟩ | m
  · go_wp2_with fail
    refine (S5.out _).mono ?_; rintro e w' ⟨rfl, J5, d5, rfl⟩
    go_wp2_with fail
    refine (S6.out _).mono ?_; rintro e w' ⟨rfl, J6, d6, rfl⟩
    go_wp2_with fail
    refine (M1.out _).mono ?_; rintro e w' ⟨rfl, rfl⟩
    go_wp2_with fail
    refine (M2.out _).mono ?_; rintro e w' ⟨rfl, rfl⟩
    rcases HZ.out with ⟨rfl, rfl, rfl, rfl⟩ | ⟨rfl, rfl, rfl, z4, rfl⟩ | ⟨z1, z2, z3, z4⟩ | ⟨z1, z2, z3, rfl, z5⟩
    all_goals
      go_wp2_with fail
      refine (S7.out _).mono ?_; rintro e w' ⟨rfl, J7, d7, rfl⟩
      go_wp2
      go_ret
      exact ⟨by simp [*], junk_of_below (by (repeat' (first | (with_reducible exact Below.refl _ _) | (with_reducible assumption) | (with_reducible refine Below.alloc ?_ ?_ _) | (with_reducible refine Below.drew ?_) | (with_reducible refine below_drewN ?_ _) | (with_reducible refine below_plus ?_ ?_ _ _) | (with_reducible refine Below.setCell ?_ ?_ _) | (with_reducible refine Below.setRow ?_ ?_ _) | go_size)))⟩
  · go_wp2_with fail
    all_goals
      refine (M1.out _).mono ?_; rintro e w' ⟨rfl, rfl⟩
      go_wp2_with fail
      refine (M2.out _).mono ?_; rintro e w' ⟨rfl, rfl⟩
      rcases HZ.out with ⟨rfl, rfl, rfl, rfl⟩ | ⟨rfl, rfl, rfl, z4, rfl⟩ | ⟨z1, z2, z3, z4⟩ | ⟨z1, z2, z3, rfl, z5⟩
      all_goals
        go_wp2_with fail
        refine (S7.out _).mono ?_; rintro e w' ⟨rfl, J7, d7, rfl⟩
        go_wp2
        go_ret
        exact ⟨by simp [*], junk_of_below (by (repeat' (first | (with_reducible exact Below.refl _ _) | (with_reducible assumption) | (with_reducible refine Below.alloc ?_ ?_ _) | (with_reducible refine Below.drew ?_) | (with_reducible refine below_drewN ?_ _) | (with_reducible refine below_plus ?_ ?_ _ _) | (with_reducible refine Below.setCell ?_ ?_ _) | (with_reducible refine Below.setRow ?_ ?_ _) | go_size)))⟩

theorem l_turns (a b c d : Int) (w0 : (Lit.int .i64 a).wf = true) (w1 : (Lit.int .i64 b).wf = true) (w2 : (Lit.int .i64 c).wf = true) (w3 : (Lit.int .i64 d).wf = true) (w : World) :
    Calls Try.prog 7 #[.int .i64 a, .int .i64 b, .int .i64 c, .int .i64 d] w fun e w' => e = .returned (.bool true) ∧ Junk w w' := by
  obtain ⟨a0, a1⟩ := lit_i64 w0
  obtain ⟨b0, b1⟩ := lit_i64 w1
  obtain ⟨c0, c1⟩ := lit_i64 w2
  obtain ⟨d0, d1⟩ := lit_i64 w3
  clear w0 w1 w2 w3
  have hs := sgn_cases (a * b - c * d)
  have J : ∀ {p q r z : Int} {s : Int}, -9223372036854775808 ≤ p → p ≤ 9223372036854775807 → -9223372036854775808 ≤ q → q ≤ 9223372036854775807 → -9223372036854775808 ≤ r → r ≤ 9223372036854775807 → -9223372036854775808 ≤ z → z ≤ 9223372036854775807 → sgn (p * q - r * z) = s →
      Hid (∀ w, Calls Try.prog 12 #[.int .i64 p, .int .i64 q, .int .i64 r, .int .i64 z] w fun e w' => e = .returned (.int .i64 s) ∧ Junk w w') := by
    intro p q r z s h1 h2 h3 h4 h5 h6 h7 h8 h
    refine Lib.hid fun w => (w_Sign p q r z h1 h2 h3 h4 h5 h6 h7 h8 w).mono ?_
    rintro e w' ⟨he, hb⟩
    exact ⟨by rw [he, h], junk_of_below hb⟩
  have hM := w_Mul a b a0 a1 b0 b1
  have hN := w_Mul b a b0 b1 a0 a1
  rw [mulHi_comm b a, mulLo_comm b a, Int.mul_comm b a] at hN
  refine l_turns_core a b c d (sgn (a * b - c * d)) (sgn (a * b)) (mulHi a b) (mulLo a b) w (by omega) (by omega) a1 b1 c1 d1 (Lib.hid l_known)
    (J a0 a1 b0 b1 c0 c1 d0 d1 rfl) (J c0 c1 d0 d1 a0 a1 b0 b1 ?_) (J b0 b1 a0 a1 d0 d1 c0 c1 ?_) (J a0 a1 b0 b1 b0 b1 a0 a1 ?_) (J a0 a1 b0 b1 (by decide) (by decide) (by decide) (by decide) ?_) (Lib.hid hM) (Lib.hid hN) ?_ ?_
  · rw [show c * d - a * b = -(a * b - c * d) by omega, sgn_less]
  · rw [Int.mul_comm b a, Int.mul_comm d c]
  · rw [Int.mul_comm b a, Int.sub_self]; rfl
  · rw [Int.mul_zero, Int.sub_zero]
  · have h1 := sgn_eq_zero (a * b)
    have h2 := mul_zero_iff a b
    have h3 : a * b = 0 ↔ a = 0 ∨ b = 0 := Int.mul_eq_zero
    have n : ∀ {x : Int}, x ≠ 0 → (x == 0) = false := fun h => by simpa using h
    by_cases ha : a = 0
    · have := h3.2 (.inl ha); left; exact ⟨h1.2 this, (h2.1 this).1, (h2.1 this).2, ha⟩
    · by_cases hb : b = 0
      · have := h3.2 (.inr hb); right; left; exact ⟨h1.2 this, (h2.1 this).1, (h2.1 this).2, n ha, hb⟩
      · have hn : a * b ≠ 0 := fun h => by rcases h3.1 h with h | h <;> contradiction
        by_cases hh : mulHi a b = 0
        · right; right; right; exact ⟨n (fun h => hn (h1.1 h)), n ha, n hb, hh, n (fun h => hn (h2.2 ⟨hh, h⟩))⟩
        · right; right; left; exact ⟨n (fun h => hn (h1.1 h)), n ha, n hb, n hh⟩
  · by_cases hm : -9223372036854775808 < a ∧ -9223372036854775808 < b ∧ -9223372036854775808 < c ∧ -9223372036854775808 < d
    · obtain ⟨m1, m2, m3, m4⟩ := hm
      refine .inl ⟨m1, m2, m3, m4, J (by omega) (by omega) (by omega) (by omega) c0 c1 d0 d1 ?_, J (by omega) (by omega) b0 b1 (by omega) (by omega) d0 d1 ?_⟩
      · rw [Int.neg_mul_neg]
      · rw [Int.neg_mul, Int.neg_mul, show -(a * b) - -(c * d) = -(a * b - c * d) by omega, sgn_less]
    · exact .inr hm
end Go.Proofs.Ytmhpmljkmckafaa

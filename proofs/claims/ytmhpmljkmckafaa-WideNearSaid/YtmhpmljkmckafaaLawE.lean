/- What a rounded quotient is: Floor below by less than one, Even the nearest, the even one of two. Mathematics alone. And the law WideNear. -/
import Derived.Test.YtmhpmljkmckafaaLawB
import Derived.Test.YtmhpmljkmckafaaLawD
namespace Go.Proofs.Ytmhpmljkmckafaa
set_option linter.unusedVariables false
set_option linter.unusedSimpArgs false
open Go.RowKit

def qVal (a b c : Int) (up : Bool) : Int := divSgn a b c * (absQ a b c + if up then 1 else 0)

/-- The whole of it in natural numbers: Z = ±(C*Q + R), c = ±C; what is left of Z, in the sign of c. -/
theorem q_left (a b c : Int) (hc : c ≠ 0) (up : Bool) :
    ∃ (C Q R : Int), 0 < C ∧ 0 ≤ R ∧ R < C ∧ 0 ≤ Q ∧ c = sgn c * C ∧ C = c.natAbs ∧ (absQ a b c : Int) = Q ∧ (absR a b c : Int) = R ∧
      a * b - qVal a b c up * c = sgn (a * b) * (R - (if up then C else 0)) := by
  have hS : divSgn a b c = sgn (a * b) * sgn c := by unfold divSgn; rw [sgn_mul]
  unfold qVal
  rw [hS]
  unfold absQ absR
  generalize a * b = Z
  have hN : c.natAbs * (Z.natAbs / c.natAbs) + Z.natAbs % c.natAbs = Z.natAbs := Nat.div_add_mod _ _
  have hR : Z.natAbs % c.natAbs < c.natAbs := Nat.mod_lt _ (by omega)
  refine ⟨c.natAbs, (Z.natAbs / c.natAbs : Nat), (Z.natAbs % c.natAbs : Nat), by omega, Int.natCast_nonneg _, Int.ofNat_lt.2 hR, Int.natCast_nonneg _, ?_, rfl, rfl, rfl, ?_⟩
  · rcases sgn_cases c with h | h | h
    · rw [h.2]; omega
    · omega
    · rw [h.2]; omega
  · generalize Z.natAbs / c.natAbs = Q at *
    generalize Z.natAbs % c.natAbs = R at *
    have hN' : (Q : Int) * (c.natAbs : Int) + (R : Int) = (Z.natAbs : Int) := by rw [Int.mul_comm]; exact_mod_cast hN
    obtain ⟨C, hC⟩ : ∃ C : Int, C = c.natAbs := ⟨_, rfl⟩
    rw [← hC] at hN' ⊢
    clear hN hR
    rcases sgn_cases c with h | h | h
    · have e : c = C := by omega
      rw [h.2, e]
      clear hc hC h e
      rcases sgn_cases Z with g | g | g
      · rw [g.2]; cases up <;> simp [Int.add_mul] <;> omega
      · rw [g.2, g.1]; simp
      · rw [g.2]; cases up <;> simp [Int.add_mul, Int.neg_mul, Int.neg_add] <;> omega
    · omega
    · have e : c = -C := by omega
      rw [h.2, e]
      clear hc hC h e
      rcases sgn_cases Z with g | g | g
      · rw [g.2]; cases up <;> simp [Int.add_mul, Int.neg_mul, Int.mul_neg] <;> omega
      · rw [g.2, g.1]; simp
      · rw [g.2]; cases up <;> simp [Int.add_mul, Int.neg_mul, Int.neg_add, Int.mul_neg] <;> omega

theorem evenRes_val (a b c : Int) (hc : c ≠ 0) : evenRes a b c = intRes (qVal a b c (evenUp a b c)) := if_neg hc
theorem floorRes_val (a b c : Int) (hc : c ≠ 0) : floorRes a b c = intRes (qVal a b c (floorUp a b c)) := if_neg hc

theorem floor_near (a b c : Int) (hc : c ≠ 0) : 0 ≤ sgn c * (a * b - qVal a b c (floorUp a b c) * c) ∧ sgn c * (a * b - qVal a b c (floorUp a b c) * c) < c.natAbs := by
  obtain ⟨C, Q, R, C0, R0, R1, Q0, hcC, hC, hQ, hR, h⟩ := q_left a b c hc (floorUp a b c)
  rw [h, ← hC]
  have hS : divSgn a b c = sgn (a * b) * sgn c := by unfold divSgn; rw [sgn_mul]
  have hu : floorUp a b c = decide (sgn (a * b) * sgn c < 0 ∧ R ≠ 0) := by
    unfold floorUp; rw [hS]; congr 1; rw [← hR]; simp only [ne_eq, Int.natCast_eq_zero]
  rw [hu]
  rcases sgn_cases c with g | g | g
  · rw [g.2]
    rcases sgn_cases (a * b) with k | k | k <;> rw [k.2] <;> by_cases r : R = 0 <;> simp [r] <;> omega
  · omega
  · rw [g.2]
    rcases sgn_cases (a * b) with k | k | k <;> rw [k.2] <;> by_cases r : R = 0 <;> simp [r] <;> omega

theorem even_near (a b c : Int) (hc : c ≠ 0) : -(c.natAbs : Int) ≤ 2 * (a * b - qVal a b c (evenUp a b c) * c) ∧ 2 * (a * b - qVal a b c (evenUp a b c) * c) ≤ c.natAbs ∧
    ((2 * (a * b - qVal a b c (evenUp a b c) * c)).natAbs = c.natAbs → qVal a b c (evenUp a b c) % 2 = 0) := by
  obtain ⟨C, Q, R, C0, R0, R1, Q0, hcC, hC, hQ, hR, h⟩ := q_left a b c hc (evenUp a b c)
  have hS : divSgn a b c = sgn (a * b) * sgn c := by unfold divSgn; rw [sgn_mul]
  have hu : evenUp a b c = decide (C < 2 * R ∨ 2 * R = C ∧ Q % 2 = 1) := by
    unfold evenUp; congr 1; rw [eq_iff_iff]; omega
  rw [h, ← hC]
  unfold qVal
  rw [hS, hQ, hu]
  have hC' : c.natAbs = C.natAbs := by omega
  rw [hC']
  by_cases u : C < 2 * R ∨ 2 * R = C ∧ Q % 2 = 1
  · rw [decide_eq_true u]; simp only [if_true]
    refine ⟨?_, ?_, ?_⟩
    · rcases sgn_cases (a * b) with k | k | k <;> rw [k.2] <;> omega
    · rcases sgn_cases (a * b) with k | k | k <;> rw [k.2] <;> omega
    · intro e
      rcases sgn_cases c with g | g | g <;> rw [g.2] <;> rcases sgn_cases (a * b) with k | k | k <;> rw [k.2] <;> rw [k.2] at e <;> omega
  · rw [decide_eq_false u]; simp only [Bool.false_eq_true, if_false]
    refine ⟨?_, ?_, ?_⟩
    · rcases sgn_cases (a * b) with k | k | k <;> rw [k.2] <;> omega
    · rcases sgn_cases (a * b) with k | k | k <;> rw [k.2] <;> omega
    · intro e
      rcases sgn_cases c with g | g | g <;> rw [g.2] <;> rcases sgn_cases (a * b) with k | k | k <;> rw [k.2] <;> rw [k.2] at e <;> omega

theorem sgn_flip (c x : Int) (hc : c ≠ 0) : sgn c * sgn x = sgn (sgn c * x) := by
  rw [sgn_mul]
  rcases sgn_cases c with h | h | h
  · rw [h.2]; rfl
  · omega
  · rw [h.2]; rfl

theorem k_between (k C D : Int) (hC : 0 < C) (d0 : 0 ≤ D) (d1 : D < C) (h0 : -C ≤ 2 * (D - k * C)) (h1 : 2 * (D - k * C) ≤ C) : k = 0 ∨ k = 1 := by
  by_cases a : k ≤ -1
  · have := Int.mul_le_mul_of_nonneg_right a (show 0 ≤ C by omega); omega
  by_cases b : 2 ≤ k
  · have := Int.mul_le_mul_of_nonneg_right b (show 0 ≤ C by omega); omega
  omega

theorem l_near (a b c : Int) (w0 : (Lit.int .i64 a).wf = true) (w1 : (Lit.int .i64 b).wf = true) (w2 : (Lit.int .i64 c).wf = true) (w : World) :
    Calls Try.prog 8 #[.int .i64 a, .int .i64 b, .int .i64 c] w fun e w' => e = .returned (.bool true) ∧ Junk w w' := by
  obtain ⟨a0, a1⟩ := lit_i64 w0
  obtain ⟨b0, b1⟩ := lit_i64 w1
  obtain ⟨c0, c1⟩ := lit_i64 w2
  clear w0 w1 w2
  by_cases hc : c = 0
  · subst hc
    go_enter Try.func8, Try.ntmps8
    go_wp2_with fail
    refine (l_awake _).mono ?_; rintro x w' ⟨rfl, Ja, da, rfl⟩
    go_wp2
    go_ret
    exact ⟨by simp, junk_of_below (by (repeat' (first | (with_reducible exact Below.refl _ _) | (with_reducible assumption) | (with_reducible refine Below.alloc ?_ ?_ _) | (with_reducible refine Below.drew ?_) | (with_reducible refine below_drewN ?_ _) | (with_reducible refine below_plus ?_ ?_ _ _) | (with_reducible refine Below.setCell ?_ ?_ _) | (with_reducible refine Below.setRow ?_ ?_ _) | go_size)))⟩
  by_cases hm : c = -9223372036854775808
  · subst hm
    go_enter Try.func8, Try.ntmps8
    go_wp2_with fail
    refine (l_awake _).mono ?_; rintro x w' ⟨rfl, Ja, da, rfl⟩
    go_wp2
    go_ret
    exact ⟨by simp, junk_of_below (by (repeat' (first | (with_reducible exact Below.refl _ _) | (with_reducible assumption) | (with_reducible refine Below.alloc ?_ ?_ _) | (with_reducible refine Below.drew ?_) | (with_reducible refine below_drewN ?_ _) | (with_reducible refine below_plus ?_ ?_ _ _) | (with_reducible refine Below.setCell ?_ ?_ _) | (with_reducible refine Below.setRow ?_ ?_ _) | go_size)))⟩
  have J : ∀ {p q r z : Int} {s : Int}, -9223372036854775808 ≤ p → p ≤ 9223372036854775807 → -9223372036854775808 ≤ q → q ≤ 9223372036854775807 → -9223372036854775808 ≤ r → r ≤ 9223372036854775807 → -9223372036854775808 ≤ z → z ≤ 9223372036854775807 → sgn (p * q - r * z) = s →
      (∀ w, Calls Try.prog 12 #[.int .i64 p, .int .i64 q, .int .i64 r, .int .i64 z] w fun e w' => e = .returned (.int .i64 s) ∧ Junk w w') := by
    intro p q r z s h1 h2 h3 h4 h5 h6 h7 h8 h w
    refine (w_Sign p q r z h1 h2 h3 h4 h5 h6 h7 h8 w).mono ?_
    rintro e w' ⟨he, hb⟩
    exact ⟨by rw [he, h], junk_of_below hb⟩
  have hEv := w_Even a b c a0 a1 b0 b1 c0 c1
  have hFl := w_Floor a b c a0 a1 b0 b1 c0 c1
  rw [evenRes_val a b c hc] at hEv
  rw [floorRes_val a b c hc] at hFl
  obtain ⟨n1, n2⟩ := floor_near a b c hc
  obtain ⟨m1, m2, m3⟩ := even_near a b c hc
  generalize qVal a b c (floorUp a b c) = f at *
  generalize qVal a b c (evenUp a b c) = q at *
  -- Floor's answer
  obtain ⟨F, e, hFe, hF0, hF1, hFx⟩ : ∃ F e, intRes f = (F, e) ∧ -9223372036854775808 ≤ F ∧ F ≤ 9223372036854775807 ∧ ((e = 0 ∧ F = f) ∨ e = 5) := by
    by_cases h : -9223372036854775808 ≤ f ∧ f ≤ 9223372036854775807
    · exact ⟨f, 0, intRes_in f h.1 h.2, h.1, h.2, .inl ⟨rfl, rfl⟩⟩
    · exact ⟨0, 5, intRes_out f (by omega), by decide, by decide, .inr rfl⟩
  obtain ⟨Q, g, hQe, hQx⟩ : ∃ Q g, intRes q = (Q, g) ∧ ((g = 0 ∧ Q = q ∧ -9223372036854775808 ≤ q ∧ q ≤ 9223372036854775807) ∨ g = 5) := by
    by_cases h : -9223372036854775808 ≤ q ∧ q ≤ 9223372036854775807
    · exact ⟨q, 0, intRes_in q h.1 h.2, .inl ⟨rfl, rfl, h.1, h.2⟩⟩
    · exact ⟨0, 5, intRes_out q (by omega), .inr rfl⟩
  rw [hFe] at hFl; rw [hQe] at hEv
  have hc1 : (c == 0) = false := by rw [beq_eq_false_iff_ne]; exact hc
  have hc2 : (c == -9223372036854775808) = false := by rw [beq_eq_false_iff_ne]; exact hm
  refine l_near_core a b c (sgn c) c.natAbs F e Q g w hc1 hc2 (by omega) c1 hF0 hF1 ?_
    (Lib.hid fun w => (hFl w).mono fun e w' h => ⟨h.1, junk_of_below h.2⟩) (Lib.hid fun w => (hEv w).mono fun e w' h => ⟨h.1, junk_of_below h.2⟩) (Lib.hid ?_) (Lib.hid ?_)
  · rcases sgn_cases c with h | h | h
    · exact .inl ⟨h.1, h.2, by omega⟩
    · omega
    · exact .inr ⟨h.1, h.2, by omega⟩
  · rcases hFx with ⟨rfl, rfl⟩ | rfl
    · have e1 : a * b - (F + 1) * c = (a * b - F * c) - c := by rw [Int.add_mul]; omega
      by_cases hx : F = 9223372036854775807
      · refine .inr (.inl ⟨rfl, hx, sgn (a * b - F * c), J a0 a1 b0 b1 hF0 hF1 c0 c1 rfl, ?_⟩)
        generalize a * b - F * c = D at *
        rcases sgn_cases c with h | h | h
        · rw [h.2] at n1 n2; left; rcases sgn_cases D with k | k | k <;> refine ⟨h.2, ?_, ?_⟩ <;> omega
        · omega
        · rw [h.2] at n1 n2; right; rcases sgn_cases D with k | k | k <;> refine ⟨h.2, ?_, ?_⟩ <;> omega
      · refine .inl ⟨rfl, by omega, sgn (a * b - F * c), sgn (a * b - (F + 1) * c), J a0 a1 b0 b1 hF0 hF1 c0 c1 rfl, J a0 a1 b0 b1 (by omega) (by omega) c0 c1 rfl, ?_⟩
        rw [e1]
        generalize a * b - F * c = D at *
        rcases sgn_cases c with h | h | h
        · rw [h.2] at n1 n2; left; rcases sgn_cases D with k | k | k <;> rcases sgn_cases (D - c) with l | l | l <;> refine ⟨h.2, ?_, ?_, ?_⟩ <;> omega
        · omega
        · rw [h.2] at n1 n2; right; rcases sgn_cases D with k | k | k <;> rcases sgn_cases (D - c) with l | l | l <;> refine ⟨h.2, ?_, ?_, ?_⟩ <;> omega
    · exact .inr (.inr rfl)
  · rcases hQx with ⟨rfl, rfl, q0, q1⟩ | rfl
    · refine .inr ⟨rfl, ?_, ?_⟩
      · rcases hFx with ⟨rfl, rfl⟩ | rfl
        · have hq : Q = F ∨ Q = F + 1 := by
            obtain ⟨k, rfl⟩ : ∃ k, Q = F + k := ⟨Q - F, by omega⟩
            have e1 : a * b - (F + k) * c = (a * b - F * c) - k * c := by rw [Int.add_mul]; omega
            rw [e1] at m1 m2
            generalize a * b - F * c = D at *
            suffices k = 0 ∨ k = 1 by omega
            rcases sgn_cases c with h | h | h
            · rw [h.2] at n1 n2
              exact k_between k c D (by omega) (by omega) (by omega) (by omega) (by omega)
            · omega
            · rw [h.2] at n1 n2
              have e2 : k * c = -(k * -c) := by rw [Int.mul_neg]; omega
              rw [e2] at m1 m2
              exact k_between k (-c) (-D) (by omega) (by omega) (by omega) (by omega) (by omega)
          rcases hq with h | h
          · exact .inr (.inl ⟨rfl, h⟩)
          · exact .inr (.inr ⟨rfl, h, by omega⟩)
        · exact .inl rfl
      · by_cases hb : NearBig a b c.natAbs
        · exact .inl hb
        · refine .inr ?_
          have hn : ¬ (1099511627776 < a ∨ a < -1099511627776 ∨ 1048576 < b ∨ b < -1048576 ∨ 1099511627776 < (c.natAbs : Int)) := hb
          have hab : (a * b).natAbs ≤ 1099511627776 * 1048576 := by
            rw [Int.natAbs_mul]; exact Nat.mul_le_mul (by omega) (by omega)
          refine ⟨by omega, by omega, by omega, by omega, ?_⟩
          have hq : Q % 2 = 0 → Q.tmod 2 = 0 := fun h => Int.tmod_eq_zero_of_dvd (Int.dvd_of_emod_eq_zero h)
          generalize a * b - Q * c = T at *
          by_cases t1 : 2 * T = c.natAbs
          · exact .inl ⟨t1, hq (m3 (by omega))⟩
          by_cases t2 : 2 * T = -c.natAbs
          · exact .inr (.inl ⟨t2, hq (m3 (by omega))⟩)
          · exact .inr (.inr ⟨by omega, by omega⟩)
    · exact .inl rfl
end Go.Proofs.Ytmhpmljkmckafaa

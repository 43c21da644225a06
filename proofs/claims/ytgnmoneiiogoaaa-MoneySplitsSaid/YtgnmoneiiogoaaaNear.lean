/- What a rounded quotient is: Floor below by less than one, Even the nearest, the even one of two. Mathematics alone. -/
import Derived.Test.YtgnmoneiiogoaaaWideC
namespace Go.Proofs.Ytgnmoneiiogoaaa
set_option linter.unusedVariables false
set_option linter.unusedSimpArgs false
open Go.RowKit

def qVal (a b c : Int) (up : Bool) : Int := divSgn a b c * (absQ a b c + if up then 1 else 0)

/-- The whole of it in natural numbers: Z = ±(C*Q + R), c = ±C; what is left of Z, in the sign of c. -/
theorem q_left (a b c : Int) (hc : c ≠ 0) (up : Bool) :
    ∃ (C Q R : Int), 0 < C ∧ 0 ≤ R ∧ R < C ∧ 0 ≤ Q ∧ c = sgn c * C ∧ C = c.natAbs ∧ (absQ a b c : Int) = Q ∧ (absR a b c : Int) = R ∧
      a * b - qVal a b c up * c = sgn (a * b) * (R - (if up then C else 0)) := by
  have hS : divSgn a b c = sgn (a * b) * sgn c := by unfold divSgn; rw [sgn_mul]
  unfold qVal
  rw [hS]
  unfold absQ absR
  generalize a * b = Z
  have hN : c.natAbs * (Z.natAbs / c.natAbs) + Z.natAbs % c.natAbs = Z.natAbs := Nat.div_add_mod _ _
  have hR : Z.natAbs % c.natAbs < c.natAbs := Nat.mod_lt _ (by omega)
  refine ⟨c.natAbs, (Z.natAbs / c.natAbs : Nat), (Z.natAbs % c.natAbs : Nat), by omega, Int.natCast_nonneg _, Int.ofNat_lt.2 hR, Int.natCast_nonneg _, ?_, rfl, rfl, rfl, ?_⟩
  · rcases sgn_cases c with h | h | h
    · rw [h.2]; omega
    · omega
    · rw [h.2]; omega
  · generalize Z.natAbs / c.natAbs = Q at *
    generalize Z.natAbs % c.natAbs = R at *
    have hN' : (Q : Int) * (c.natAbs : Int) + (R : Int) = (Z.natAbs : Int) := by rw [Int.mul_comm]; exact_mod_cast hN
    obtain ⟨C, hC⟩ : ∃ C : Int, C = c.natAbs := ⟨_, rfl⟩
    rw [← hC] at hN' ⊢
    clear hN hR
    rcases sgn_cases c with h | h | h
    · have e : c = C := by omega
      rw [h.2, e]
      clear hc hC h e
      rcases sgn_cases Z with g | g | g
      · rw [g.2]; cases up <;> simp [Int.add_mul] <;> omega
      · rw [g.2, g.1]; simp
      · rw [g.2]; cases up <;> simp [Int.add_mul, Int.neg_mul, Int.neg_add] <;> omega
    · omega
    · have e : c = -C := by omega
      rw [h.2, e]
      clear hc hC h e
      rcases sgn_cases Z with g | g | g
      · rw [g.2]; cases up <;> simp [Int.add_mul, Int.neg_mul, Int.mul_neg] <;> omega
      · rw [g.2, g.1]; simp
      · rw [g.2]; cases up <;> simp [Int.add_mul, Int.neg_mul, Int.neg_add, Int.mul_neg] <;> omega

theorem evenRes_val (a b c : Int) (hc : c ≠ 0) : evenRes a b c = intRes (qVal a b c (evenUp a b c)) := if_neg hc
theorem floorRes_val (a b c : Int) (hc : c ≠ 0) : floorRes a b c = intRes (qVal a b c (floorUp a b c)) := if_neg hc

theorem floor_near (a b c : Int) (hc : c ≠ 0) : 0 ≤ sgn c * (a * b - qVal a b c (floorUp a b c) * c) ∧ sgn c * (a * b - qVal a b c (floorUp a b c) * c) < c.natAbs := by
  obtain ⟨C, Q, R, C0, R0, R1, Q0, hcC, hC, hQ, hR, h⟩ := q_left a b c hc (floorUp a b c)
  rw [h, ← hC]
  have hS : divSgn a b c = sgn (a * b) * sgn c := by unfold divSgn; rw [sgn_mul]
  have hu : floorUp a b c = decide (sgn (a * b) * sgn c < 0 ∧ R ≠ 0) := by
    unfold floorUp; rw [hS]; congr 1; rw [← hR]; simp only [ne_eq, Int.natCast_eq_zero]
  rw [hu]
  rcases sgn_cases c with g | g | g
  · rw [g.2]
    rcases sgn_cases (a * b) with k | k | k <;> rw [k.2] <;> by_cases r : R = 0 <;> simp [r] <;> omega
  · omega
  · rw [g.2]
    rcases sgn_cases (a * b) with k | k | k <;> rw [k.2] <;> by_cases r : R = 0 <;> simp [r] <;> omega

theorem even_near (a b c : Int) (hc : c ≠ 0) : -(c.natAbs : Int) ≤ 2 * (a * b - qVal a b c (evenUp a b c) * c) ∧ 2 * (a * b - qVal a b c (evenUp a b c) * c) ≤ c.natAbs ∧
    ((2 * (a * b - qVal a b c (evenUp a b c) * c)).natAbs = c.natAbs → qVal a b c (evenUp a b c) % 2 = 0) := by
  obtain ⟨C, Q, R, C0, R0, R1, Q0, hcC, hC, hQ, hR, h⟩ := q_left a b c hc (evenUp a b c)
  have hS : divSgn a b c = sgn (a * b) * sgn c := by unfold divSgn; rw [sgn_mul]
  have hu : evenUp a b c = decide (C < 2 * R ∨ 2 * R = C ∧ Q % 2 = 1) := by
    unfold evenUp; congr 1; rw [eq_iff_iff]; omega
  rw [h, ← hC]
  unfold qVal
  rw [hS, hQ, hu]
  have hC' : c.natAbs = C.natAbs := by omega
  rw [hC']
  by_cases u : C < 2 * R ∨ 2 * R = C ∧ Q % 2 = 1
  · rw [decide_eq_true u]; simp only [if_true]
    refine ⟨?_, ?_, ?_⟩
    · rcases sgn_cases (a * b) with k | k | k <;> rw [k.2] <;> omega
    · rcases sgn_cases (a * b) with k | k | k <;> rw [k.2] <;> omega
    · intro e
      rcases sgn_cases c with g | g | g <;> rw [g.2] <;> rcases sgn_cases (a * b) with k | k | k <;> rw [k.2] <;> rw [k.2] at e <;> omega
  · rw [decide_eq_false u]; simp only [Bool.false_eq_true, if_false]
    refine ⟨?_, ?_, ?_⟩
    · rcases sgn_cases (a * b) with k | k | k <;> rw [k.2] <;> omega
    · rcases sgn_cases (a * b) with k | k | k <;> rw [k.2] <;> omega
    · intro e
      rcases sgn_cases c with g | g | g <;> rw [g.2] <;> rcases sgn_cases (a * b) with k | k | k <;> rw [k.2] <;> rw [k.2] at e <;> omega


theorem k_near (k c : Int) (hc : 0 < c) (h0 : -c ≤ 2 * (k * c)) (h1 : 2 * (k * c) ≤ c) : k = 0 := by
  by_cases a : k ≤ -1
  · have := Int.mul_le_mul_of_nonneg_right a (show 0 ≤ c by omega); omega
  by_cases b : 1 ≤ k
  · have := Int.mul_le_mul_of_nonneg_right b (show 0 ≤ c by omega); omega
  omega

/-- Even's quotient, unbounded. -/
def evenQ (a b c : Int) : Int := qVal a b c (evenUp a b c)
theorem evenQ_prod (a b a' b' c : Int) (h : a * b = a' * b') : evenQ a b c = evenQ a' b' c := by
  have hs : divSgn a b c = divSgn a' b' c := by unfold divSgn; rw [← sgn_mul, h, sgn_mul]
  have hq : absQ a b c = absQ a' b' c := by unfold absQ; rw [h]
  have hr : absR a b c = absR a' b' c := by unfold absR; rw [h]
  unfold evenQ qVal evenUp
  rw [hs, hq, hr]

theorem evenQ_mono (a b a' b' c : Int) (hc : 0 < c) (h : a * b ≤ a' * b') : evenQ a b c ≤ evenQ a' b' c := by
  by_cases he : a * b = a' * b'
  · rw [evenQ_prod a b a' b' c he]; exact Int.le_refl _
  · obtain ⟨_, n2, _⟩ := even_near a b c (by omega)
    obtain ⟨m1, _, _⟩ := even_near a' b' c (by omega)
    obtain ⟨n1, _, _⟩ := even_near a b c (by omega)
    obtain ⟨_, m2, _⟩ := even_near a' b' c (by omega)
    show qVal a b c (evenUp a b c) ≤ qVal a' b' c (evenUp a' b' c)
    generalize qVal a b c (evenUp a b c) = x at *
    generalize qVal a' b' c (evenUp a' b' c) = y at *
    by_cases hxy : x ≤ y
    · exact hxy
    · have h1 : (y + 1) * c ≤ x * c := Int.mul_le_mul_of_nonneg_right (by omega) (by omega)
      rw [Int.add_mul, Int.one_mul] at h1
      omega

theorem evenQ_exact (a b c q : Int) (hc : 0 < c) (h : a * b = q * c) : evenQ a b c = q := by
  obtain ⟨n1, n2, n3⟩ := even_near a b c (by omega)
  show qVal a b c (evenUp a b c) = q
  generalize qVal a b c (evenUp a b c) = x at *
  have e : a * b - x * c = (q - x) * c := by rw [h, Int.sub_mul]
  rw [e] at n1 n2
  have hk := k_near (q - x) c hc (by omega) (by omega)
  omega

theorem evenQ_neg (a b c : Int) : evenQ (-a) b c = - evenQ a b c := by
  have hs : divSgn (-a) b c = - divSgn a b c := by
    unfold divSgn
    have : sgn (-a) = - sgn a := Int.sign_neg a
    rw [this, Int.neg_mul, Int.neg_mul]
  have hn : ((-a) * b).natAbs = (a * b).natAbs := by rw [Int.neg_mul, Int.natAbs_neg]
  have hq : absQ (-a) b c = absQ a b c := by unfold absQ; rw [hn]
  have hr : absR (-a) b c = absR a b c := by unfold absR; rw [hn]
  unfold evenQ qVal evenUp
  rw [hs, hq, hr, Int.neg_mul]
theorem evenRes_evenQ (a b c : Int) (hc : c ≠ 0) : evenRes a b c = intRes (evenQ a b c) := evenRes_val a b c hc
end Go.Proofs.Ytgnmoneiiogoaaa

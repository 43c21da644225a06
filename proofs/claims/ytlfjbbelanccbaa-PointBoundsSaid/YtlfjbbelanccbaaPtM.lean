/- How three points lie: mathematics. No program. -/
import Derived.Test.YtlfjbbelanccbaaPlus
namespace Go.Proofs.Ytlfjbbelanccbaa
set_option linter.unusedVariables false
set_option linter.unusedSimpArgs false

def detP (ax ay bx by_ cx cy : Int) : Int := (bx - ax) * (cy - ay) - (by_ - ay) * (cx - ax)

theorem det_round (ax ay bx by_ cx cy : Int) : detP bx by_ cx cy ax ay = detP ax ay bx by_ cx cy := by unfold detP; grind
theorem det_swap (ax ay bx by_ cx cy : Int) : detP bx by_ ax ay cx cy = - detP ax ay bx by_ cx cy := by unfold detP; grind
theorem det_last (ax ay bx by_ cx cy : Int) : detP ax ay cx cy bx by_ = - detP ax ay bx by_ cx cy := by unfold detP; grind
theorem det_aa (ax ay cx cy : Int) : detP ax ay ax ay cx cy = 0 := by unfold detP; grind
theorem det_aba (ax ay bx by_ : Int) : detP ax ay bx by_ ax ay = 0 := by unfold detP; grind
theorem det_abb (ax ay bx by_ : Int) : detP ax ay bx by_ bx by_ = 0 := by unfold detP; grind
theorem det_mirror (ax ay bx by_ cx cy : Int) : detP (-ax) ay (-bx) by_ (-cx) cy = - detP ax ay bx by_ cx cy := by unfold detP; grind
theorem det_turn (ax ay bx by_ cx cy : Int) : detP ay ax by_ bx cy cx = - detP ax ay bx by_ cx cy := by unfold detP; grind
theorem det_move (ax ay bx by_ cx cy u v : Int) : detP (ax + u) (ay + v) (bx + u) (by_ + v) (cx + u) (cy + v) = detP ax ay bx by_ cx cy := by unfold detP; grind

/-- Is a number between two? -/
def btw (n a b : Int) : Prop := min a b ≤ n ∧ n ≤ max a b
theorem btw_comm (n a b : Int) : btw n a b ↔ btw n b a := by unfold btw; omega

theorem line_pos {u v p q : Int} (hp : 0 < p) (hu : 0 ≤ u) (hup : u ≤ p) (h : u * q = v * p) : min 0 q ≤ v ∧ v ≤ max 0 q := by
  rcases Int.le_total 0 q with hq | hq
  · have h1 : 0 ≤ v := by
      apply Int.not_lt.1
      intro hv
      have h2 : v * p < 0 := Int.mul_neg_of_neg_of_pos hv hp
      have h3 : 0 ≤ u * q := Int.mul_nonneg hu hq
      omega
    have h2 : v ≤ q := by
      apply Int.not_lt.1
      intro hv
      have h2 : q * p < v * p := Int.mul_lt_mul_of_pos_right hv hp
      have h3 : u * q ≤ p * q := Int.mul_le_mul_of_nonneg_right hup hq
      rw [Int.mul_comm p q] at h3
      omega
    omega
  · have h1 : v ≤ 0 := by
      apply Int.not_lt.1
      intro hv
      have h2 : 0 < v * p := Int.mul_pos hv hp
      have h3 : u * q ≤ 0 := Int.mul_nonpos_of_nonneg_of_nonpos hu hq
      omega
    have h2 : q ≤ v := by
      apply Int.not_lt.1
      intro hv
      have h2 : v * p < q * p := Int.mul_lt_mul_of_pos_right hv hp
      have h3 : p * q ≤ u * q := Int.mul_le_mul_of_nonpos_right hup hq
      rw [Int.mul_comm p q] at h3
      omega
    omega
/-- Of two arrows on one line that point the same way, along their first numbers: the shorter ends within the longer. -/
theorem line_x {u v p q : Int} (h : u * q = v * p) (hs : (0 < u ∧ 0 < p) ∨ (u < 0 ∧ p < 0)) : (btw u 0 p ∧ btw v 0 q) ∨ (btw p 0 u ∧ btw q 0 v) := by
  unfold btw
  rcases hs with ⟨h1, h2⟩ | ⟨h1, h2⟩
  · rcases Int.le_total u p with h3 | h3
    · have := line_pos h2 (by omega) h3 h
      exact .inl ⟨by omega, by omega⟩
    · have := line_pos (u := p) (v := q) (p := u) (q := v) h1 (by omega) h3 (by rw [Int.mul_comm p v, Int.mul_comm q u]; exact h.symm)
      exact .inr ⟨by omega, by omega⟩
  · rcases Int.le_total u p with h3 | h3
    · have := line_pos (u := -p) (v := -q) (p := -u) (q := -v) (by omega) (by omega) (by omega) (by rw [Int.neg_mul_neg, Int.neg_mul_neg, Int.mul_comm p v, Int.mul_comm q u]; exact h.symm)
      exact .inr ⟨by omega, by omega⟩
    · have := line_pos (u := -u) (v := -v) (p := -p) (q := -q) (by omega) (by omega) (by omega) (by rw [Int.neg_mul_neg, Int.neg_mul_neg]; exact h)
      exact .inl ⟨by omega, by omega⟩
theorem line_any {u v p q : Int} (h : u * q = v * p) : (btw u 0 p ∧ btw v 0 q) ∨ (btw p 0 u ∧ btw q 0 v) ∨ (btw 0 u p ∧ btw 0 v q) := by
  by_cases hx : (0 < u ∧ 0 < p) ∨ (u < 0 ∧ p < 0)
  · rcases line_x h hx with h1 | h1
    · exact .inl h1
    · exact .inr (.inl h1)
  by_cases hy : (0 < v ∧ 0 < q) ∨ (v < 0 ∧ q < 0)
  · rcases line_x (u := v) (v := u) (p := q) (q := p) h.symm hy with h1 | h1
    · exact .inl ⟨h1.2, h1.1⟩
    · exact .inr (.inl ⟨h1.2, h1.1⟩)
  · refine .inr (.inr ?_)
    unfold btw
    omega
/-- Is a point on a segment? -/
def onF (px py ax ay bx by_ : Int) : Prop := detP ax ay bx by_ px py = 0 ∧ btw px ax bx ∧ btw py ay by_
/-- Of three points on a line one is on the segment between the others. -/
theorem on_any (ax ay bx by_ cx cy : Int) : detP ax ay bx by_ cx cy = 0 ↔ onF cx cy ax ay bx by_ ∨ onF ax ay bx by_ cx cy ∨ onF bx by_ ax ay cx cy := by
  constructor
  · intro h
    have h1 : (bx - ax) * (cy - ay) = (by_ - ay) * (cx - ax) := by unfold detP at h; omega
    have e1 := det_round ax ay bx by_ cx cy
    have e2 := det_last ax ay bx by_ cx cy
    rcases line_any h1 with ⟨k1, k2⟩ | ⟨k1, k2⟩ | ⟨k1, k2⟩
    · refine .inr (.inr ⟨by omega, ?_, ?_⟩) <;> unfold btw at * <;> omega
    · refine .inl ⟨h, ?_, ?_⟩ <;> unfold btw at * <;> omega
    · refine .inr (.inl ⟨by omega, ?_, ?_⟩) <;> unfold btw at * <;> omega
  · have e1 := det_round ax ay bx by_ cx cy
    have e2 := det_last ax ay bx by_ cx cy
    rintro (h | h | h) <;> have := h.1 <;> omega
theorem on_back (px py ax ay bx by_ : Int) : onF px py ax ay bx by_ ↔ onF px py bx by_ ax ay := by
  have e1 := det_swap ax ay bx by_ px py
  unfold onF
  rw [btw_comm px, btw_comm py]
  constructor <;> rintro ⟨h1, h2⟩ <;> exact ⟨by omega, h2⟩
theorem on_left (ax ay bx by_ : Int) : onF ax ay ax ay bx by_ := ⟨det_aba _ _ _ _, by unfold btw; omega, by unfold btw; omega⟩
theorem on_right (ax ay bx by_ : Int) : onF bx by_ ax ay bx by_ := ⟨det_abb _ _ _ _, by unfold btw; omega, by unfold btw; omega⟩
theorem on_move (px py ax ay bx by_ u v : Int) : onF (px + u) (py + v) (ax + u) (ay + v) (bx + u) (by_ + v) ↔ onF px py ax ay bx by_ := by
  unfold onF btw
  rw [det_move]
  constructor <;> rintro ⟨h1, h2, h3⟩ <;> refine ⟨h1, ?_, ?_⟩ <;> omega
/-- From a corner of all there is to the other. -/
theorem det_far (d k : Int) : detP (-1099511627775) (-1099511627775) 1099511627775 1099511627775 k (k + d) = 2199023255550 * d := by unfold detP; omega
theorem on_far (d k : Int) (h3 : -1099511627775 ≤ k + d) (h4 : k + d ≤ 1099511627775) : onF k (k + d) (-1099511627775) (-1099511627775) 1099511627775 1099511627775 ↔ d = 0 := by
  unfold onF
  rw [det_far]
  unfold btw
  constructor
  · rintro ⟨h, _⟩; omega
  · intro h; exact ⟨by omega, by omega, by omega⟩
theorem mul_small {a b m : Int} (h1 : -m ≤ a) (h2 : a ≤ m) (h3 : -m ≤ b) (h4 : b ≤ m) : -(m * m) ≤ a * b ∧ a * b ≤ m * m := by
  have h5 : (a * b).natAbs ≤ m.natAbs * m.natAbs := by
    rw [Int.natAbs_mul]
    exact Nat.mul_le_mul (by omega) (by omega)
  have h6 : m.natAbs * m.natAbs = (m * m).natAbs := by rw [Int.natAbs_mul]
  have h7 : 0 ≤ m * m := Int.mul_nonneg (by omega) (by omega)
  omega
end Go.Proofs.Ytlfjbbelanccbaa

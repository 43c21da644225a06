/- How turns and segments answer, from all sides: mathematics for PointLaws. No program. -/
import Derived.Test.YtlfjbbelanccbaaPtJ
import Derived.Test.YtlfjbbelanccbaaQAll
import Derived.Test.YtlfjbbelanccbaaLtx
namespace Go.Proofs.Ytlfjbbelanccbaa
set_option linter.unusedVariables false
set_option linter.unusedSimpArgs false
open Go.RowKit

theorem sgn_neg_of (z : Int) : sgn (-z) = - sgn z := Int.sign_neg z
section
variable {ax ay bx by_ cx cy : Int} (va : okP ax ay = true) (vb : okP bx by_ = true) (vc : okP cx cy = true)
include va vb vc
theorem tn : turnF ax ay bx by_ cx cy = sgn (detP ax ay bx by_ cx cy) := by unfold turnF; rw [if_pos (by simp [va, vb, vc])]
theorem tn_1 : turnF bx by_ cx cy ax ay = turnF ax ay bx by_ cx cy := by rw [tn vb vc va, tn va vb vc, det_round]
theorem tn_2 : turnF cx cy ax ay bx by_ = turnF ax ay bx by_ cx cy := by rw [tn vc va vb, tn va vb vc, ← det_round cx cy ax ay bx by_]
theorem tn_3 : turnF bx by_ ax ay cx cy = - turnF ax ay bx by_ cx cy := by rw [tn vb va vc, tn va vb vc, det_swap, sgn_neg_of]
theorem tn_4 : turnF ax ay cx cy bx by_ = - turnF ax ay bx by_ cx cy := by rw [tn va vc vb, tn va vb vc, det_last, sgn_neg_of]
omit vb in
theorem tn_5 : turnF ax ay ax ay cx cy = 0 := by rw [tn va va vc, det_aa]; rfl
omit vc in
theorem tn_6 : turnF ax ay bx by_ ax ay = 0 := by rw [tn va vb va, det_aba]; rfl
theorem tn_7 : turnF (-ax) ay (-bx) by_ (-cx) cy = - turnF ax ay bx by_ cx cy := by
  have h : ∀ {x y : Int}, okP x y = true → okP (-x) y = true := by
    intro x y h
    have := okP_iff.1 h
    exact okP_iff.2 ⟨by omega, this.2⟩
  rw [tn (h va) (h vb) (h vc), tn va vb vc, det_mirror, sgn_neg_of]
theorem tn_8 : turnF ay ax by_ bx cy cx = - turnF ax ay bx by_ cx cy := by
  have h : ∀ {x y : Int}, okP x y = true → okP y x = true := by
    intro x y h
    have := okP_iff.1 h
    exact okP_iff.2 ⟨this.2, this.1⟩
  rw [tn (h va) (h vb) (h vc), tn va vb vc, det_turn, sgn_neg_of]
theorem on_1 : onB cx cy ax ay bx by_ = decide (onF cx cy ax ay bx by_) := by unfold onB; simp [va, vb, vc]
theorem on_2 : onB cx cy bx by_ ax ay = onB cx cy ax ay bx by_ := by
  rw [on_1 va vb vc, on_1 vb va vc]
  exact decide_eq_decide.2 (on_back cx cy bx by_ ax ay)
omit vc in
theorem on_3 : onB ax ay ax ay bx by_ = true := by rw [on_1 va vb va]; exact decide_eq_true (on_left _ _ _ _)
omit vc in
theorem on_4 : onB bx by_ ax ay bx by_ = true := by rw [on_1 va vb vb]; exact decide_eq_true (on_right _ _ _ _)
/-- What hangs together. -/
theorem on_all : (turnF ax ay bx by_ cx cy ≠ 0 ∧ onB cx cy ax ay bx by_ = false ∧ onB ax ay bx by_ cx cy = false ∧ onB bx by_ ax ay cx cy = false) ∨
    (turnF ax ay bx by_ cx cy = 0 ∧ (onB cx cy ax ay bx by_ = true ∨ (onB cx cy ax ay bx by_ = false ∧ (onB ax ay bx by_ cx cy = true ∨ (onB ax ay bx by_ cx cy = false ∧ onB bx by_ ax ay cx cy = true))))) := by
  have h := on_any ax ay bx by_ cx cy
  rw [on_1 va vb vc, on_1 vb vc va, on_1 va vc vb, tn va vb vc]
  have hz : sgn (detP ax ay bx by_ cx cy) = 0 ↔ detP ax ay bx by_ cx cy = 0 := by
    rcases sgn_cases (detP ax ay bx by_ cx cy) with ⟨h1, h2⟩ | ⟨h1, h2⟩ | ⟨h1, h2⟩ <;> omega
  by_cases h1 : onF cx cy ax ay bx by_
  · exact .inr ⟨hz.2 (h.2 (.inl h1)), .inl (decide_eq_true h1)⟩
  by_cases h2 : onF ax ay bx by_ cx cy
  · exact .inr ⟨hz.2 (h.2 (.inr (.inl h2))), .inr ⟨decide_eq_false h1, .inl (decide_eq_true h2)⟩⟩
  by_cases h3 : onF bx by_ ax ay cx cy
  · exact .inr ⟨hz.2 (h.2 (.inr (.inr h3))), .inr ⟨decide_eq_false h1, .inr ⟨decide_eq_false h2, decide_eq_true h3⟩⟩⟩
  · refine .inl ⟨fun h0 => ?_, decide_eq_false h1, decide_eq_false h2, decide_eq_false h3⟩
    rcases h.1 (hz.1 h0) with h4 | h4 | h4
    · exact h1 h4
    · exact h2 h4
    · exact h3 h4
theorem tn_bd : -1 ≤ turnF ax ay bx by_ cx cy ∧ turnF ax ay bx by_ cx cy ≤ 1 := by rw [tn va vb vc]; exact sign_bd _
theorem tn_move {u v : Int} (h1 : moveE ax ay u v = 0) (h2 : moveE bx by_ u v = 0) (h3 : moveE cx cy u v = 0) :
    turnF (moveX ax ay u v) (moveY ax ay u v) (moveX bx by_ u v) (moveY bx by_ u v) (moveX cx cy u v) (moveY cx cy u v) = turnF ax ay bx by_ cx cy ∧
    onB (moveX cx cy u v) (moveY cx cy u v) (moveX ax ay u v) (moveY ax ay u v) (moveX bx by_ u v) (moveY bx by_ u v) = onB cx cy ax ay bx by_ := by
  have hk : ∀ {x y : Int}, moveE x y u v = 0 → okP (x + u) (y + v) = true := by
    intro x y h
    unfold moveE at h
    split at h
    · split at h
      · assumption
      · cases h
    · cases h
  have hx : ∀ {x y : Int}, moveE x y u v = 0 → moveX x y u v = x + u ∧ moveY x y u v = y + v := fun h => ⟨by unfold moveX; rw [if_pos h], by unfold moveY; rw [if_pos h]⟩
  rw [(hx h1).1, (hx h1).2, (hx h2).1, (hx h2).2, (hx h3).1, (hx h3).2, tn (hk h1) (hk h2) (hk h3), tn va vb vc, det_move, on_1 (hk h1) (hk h2) (hk h3), on_1 va vb vc]
  exact ⟨rfl, decide_eq_decide.2 (on_move _ _ _ _ _ _ _ _)⟩
end
end Go.Proofs.Ytlfjbbelanccbaa

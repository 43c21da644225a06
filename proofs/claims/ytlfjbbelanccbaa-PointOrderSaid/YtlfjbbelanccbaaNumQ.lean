/- Numbers digit by digit, multiplied: what the loops keep. No program. -/
import Derived.Test.YtlfjbbelanccbaaNumP
namespace Go.Proofs.Ytlfjbbelanccbaa
set_option linter.unusedVariables false
set_option linter.unusedSimpArgs false

theorem take_digs (k : Nat) : ∀ (n : Nat) (X : Int), k ≤ n → (digs n X).take k = digs k X := by
  induction k with
  | zero => intro n X _; simp [digs]
  | succ k ih =>
    intro n X h
    cases n with
    | zero => omega
    | succ n => simp only [digs, List.take_succ_cons]; rw [ih n _ (by omega)]

/-- Multiplying, behind i outer and k inner rounds. -/
def MInv (xs ys : List Int) (i k : Nat) (es : List Int) : Prop :=
  es.length = 12 ∧ horner es = horner (xs.take i) * horner (ys.take 4) + xs.getD i 0 * 65536 ^ i * horner (ys.take k) ∧ (∀ j, 0 ≤ es.getD j 0 ∧ es.getD j 0 ≤ (4 * i + k : Nat) * 4294836225)

theorem prod_bd (p q : Int) (p0 : 0 ≤ p) (p1 : p < 65536) (q0 : 0 ≤ q) (q1 : q < 65536) : 0 ≤ p * q ∧ p * q ≤ 4294836225 :=
  ⟨Int.mul_nonneg p0 q0, by have := Int.mul_le_mul (show p ≤ 65535 by omega) (show q ≤ 65535 by omega) q0 (by omega); omega⟩

theorem minv_step (xs ys : List Int) (hy : ys.length = 12) (i k : Nat) (hi : i < 4) (hk : k < 4) (hp : 0 ≤ xs.getD i 0 * ys.getD k 0 ∧ xs.getD i 0 * ys.getD k 0 ≤ 4294836225) (es : List Int) (h : MInv xs ys i k es) :
    MInv xs ys i (k + 1) (es.set (i + k) (es.getD (i + k) 0 + xs.getD i 0 * ys.getD k 0)) := by
  obtain ⟨h1, h2, h3⟩ := h
  refine ⟨by simp [h1], ?_, ?_⟩
  · rw [horner_set _ _ _ (by omega), h2, take_succ_horner ys k (by omega), show es.getD (i + k) 0 + xs.getD i 0 * ys.getD k 0 - es.getD (i + k) 0 = xs.getD i 0 * ys.getD k 0 by omega, Int.pow_add, Int.mul_add]
    have : xs.getD i 0 * ys.getD k 0 * (65536 ^ i * 65536 ^ k) = xs.getD i 0 * 65536 ^ i * (ys.getD k 0 * 65536 ^ k) := by
      rw [Int.mul_assoc, Int.mul_assoc]; congr 1; rw [← Int.mul_assoc, Int.mul_comm (ys.getD k 0), Int.mul_assoc]
    omega
  · intro j
    rw [getD_set _ _ _ _ (by omega)]
    have := h3 j
    split
    · rename_i e; subst e; omega
    · omega

theorem minv_next (xs ys : List Int) (hx : xs.length = 12) (i : Nat) (hi : i < 4) (es : List Int) (h : MInv xs ys i 4 es) : MInv xs ys (i + 1) 0 es := by
  obtain ⟨h1, h2, h3⟩ := h
  refine ⟨h1, ?_, fun j => by have := h3 j; omega⟩
  rw [h2, take_succ_horner xs i (by omega), Int.add_mul]; simp [horner]

theorem minv_start (xs ys : List Int) : MInv xs ys 0 0 (List.replicate 12 0) := by
  refine ⟨by simp, by rw [horner_replicate]; simp [horner], ?_⟩
  intro j
  have : (List.replicate 12 (0 : Int)).getD j 0 = 0 := by
    rw [List.getD_eq_getElem?_getD]
    by_cases hj : j < 12
    · rw [List.getElem?_eq_getElem (by rw [List.length_replicate]; exact hj), List.getElem_replicate]; rfl
    · rw [List.getElem?_eq_none (by rw [List.length_replicate]; omega)]; rfl
  rw [this]; simp

theorem minv_end (X Y : Int) (x0 : 0 ≤ X) (x1 : X < 65536 ^ 4) (y0 : 0 ≤ Y) (y1 : Y < 65536 ^ 4) (es : List Int) (h : MInv (digs 12 X) (digs 12 Y) 4 0 es) : CInv (X * Y) 0 es := by
  obtain ⟨h1, h2, h3⟩ := h
  rw [take_digs 4 12 X (by omega), take_digs 4 12 Y (by omega), horner_digs 4 X x0 x1, horner_digs 4 Y y0 y1] at h2
  refine ⟨h1, by rw [h2]; simp [horner], fun i => (h3 i).1, fun i hi => by omega, by have := (h3 0).2; omega, fun i _ => by have := (h3 i).2; omega⟩
end Go.Proofs.Ytlfjbbelanccbaa

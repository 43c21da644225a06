/- What a list of ints comes to. No program. -/
namespace Go.Proofs.Ytgnmoneiiogoaaa
set_option linter.unusedVariables false
set_option linter.unusedSimpArgs false

def sumL (zs : List Int) : Int := zs.foldl (· + ·) 0

theorem foldl_add (l : List Int) (a : Int) : l.foldl (· + ·) a = a + l.foldl (· + ·) 0 := by
  induction l generalizing a with
  | nil => simp
  | cons x l ih => simp only [List.foldl_cons]; rw [ih, ih (0 + x)]; omega

theorem sumL_take (zs : List Int) (k : Nat) (h : k < zs.length) : sumL (zs.take (k + 1)) = sumL (zs.take k) + zs.getD k 0 := by
  unfold sumL
  rw [List.take_succ_eq_append_getElem h, List.foldl_append]
  simp [List.getD_eq_getElem?_getD, h]

theorem sumL_bd (zs : List Int) (len : Nat) (hb : ∀ i, i < len → -9223372036854775808 ≤ zs.getD i 0 ∧ zs.getD i 0 ≤ 9223372036854775807) (hl : zs.length = len) :
    ∀ k, k ≤ len → -9223372036854775808 * (k : Int) ≤ sumL (zs.take k) ∧ sumL (zs.take k) ≤ 9223372036854775807 * (k : Int)
  | 0, _ => by simp [sumL]
  | k + 1, h => by
    have ih := sumL_bd zs len hb hl k (by omega)
    have := hb k (by omega)
    rw [sumL_take zs k (by omega)]
    omega

theorem sumL_nonneg (zs : List Int) (c : Int) (hb : ∀ i, i < zs.length → 0 ≤ zs.getD i 0 ∧ zs.getD i 0 ≤ c) : ∀ k, k ≤ zs.length → 0 ≤ sumL (zs.take k) ∧ sumL (zs.take k) ≤ c * (k : Int)
  | 0, _ => by simp [sumL]
  | k + 1, h => by
    have ih := sumL_nonneg zs c hb k (by omega)
    have := hb k (by omega)
    rw [sumL_take zs k (by omega)]
    rw [show ((k + 1 : Nat) : Int) = (k : Int) + 1 by omega, Int.mul_add, Int.mul_one]
    omega
theorem sumL_mono (zs : List Int) (hb : ∀ i, i < zs.length → 0 ≤ zs.getD i 0) : ∀ j k, j ≤ k → k ≤ zs.length → sumL (zs.take j) ≤ sumL (zs.take k) := by
  intro j k hjk
  induction k with
  | zero => intro _; rw [show j = 0 by omega]; exact Int.le_refl _
  | succ k ih =>
    intro hk
    by_cases e : j = k + 1
    · rw [e]; exact Int.le_refl _
    · have := ih (by omega) (by omega)
      have := hb k (by omega)
      rw [sumL_take zs k (by omega)]; omega
end Go.Proofs.Ytgnmoneiiogoaaa

/- More of numbers digit by digit: single digits, comparison from the highest down. No program. -/
import Derived.Test.YtlfjbbelanccbaaNumM
namespace Go.Proofs.Ytlfjbbelanccbaa
set_option linter.unusedVariables false
set_option linter.unusedSimpArgs false
theorem digs_getD (n : Nat) : ∀ (z : Int) (i : Nat), i < n → (digs n z).getD i 0 = z / 65536 ^ i % 65536 := by
  induction n with
  | zero => intro z i h; omega
  | succ n ih =>
    intro z i h
    cases i with
    | zero => simp [digs]
    | succ i =>
      rw [digs, List.getD_cons_succ, ih _ _ (by omega), Int.pow_succ, Int.mul_comm, Int.ediv_ediv_of_nonneg (by decide)]

theorem div_pow_succ (x : Int) (k : Nat) : x / 65536 ^ k = 65536 * (x / 65536 ^ (k + 1)) + x / 65536 ^ k % 65536 := by
  rw [Int.pow_succ, ← Int.ediv_ediv_of_nonneg (Int.le_of_lt (pow_pos' k))]; omega

theorem lt_of_div_lt (x y : Int) (k : Nat) (h : x / 65536 ^ k < y / 65536 ^ k) : x < y := by
  rcases Int.lt_or_le x y with g | g
  · exact g
  · have := Int.ediv_le_ediv (pow_pos' k) g
    omega

theorem cmp_step (x y : Int) (k : Nat) (h : x / 65536 ^ (k + 1) = y / 65536 ^ (k + 1)) :
    (x / 65536 ^ k % 65536 = y / 65536 ^ k % 65536 → x / 65536 ^ k = y / 65536 ^ k) ∧ (x / 65536 ^ k % 65536 < y / 65536 ^ k % 65536 → x < y) := by
  have h1 := div_pow_succ x k
  have h2 := div_pow_succ y k
  rw [h] at h1
  exact ⟨fun e => by omega, fun e => lt_of_div_lt x y k (by omega)⟩

theorem top_zero (x : Int) (h0 : 0 ≤ x) (h1 : x < 65536 ^ 12) : x / 65536 ^ 12 = 0 := Int.ediv_eq_zero_of_lt h0 h1

theorem low_zero (x : Int) (h0 : 0 ≤ x) (h1 : x < 65536 ^ 4) (i : Nat) (hi : 4 ≤ i) : x / 65536 ^ i % 65536 = 0 := by
  have : (65536 : Int) ^ 4 ≤ 65536 ^ i := by
    have := Nat.pow_le_pow_right (n := 65536) (by decide) hi
    have h2 := Int.ofNat_le.2 this
    rw [Int.natCast_pow, Int.natCast_pow] at h2
    exact h2
  rw [Int.ediv_eq_zero_of_lt h0 (by omega)]; rfl

theorem high_zero (x : Int) (h0 : 0 ≤ x) (h1 : x < 65536 ^ 12) (h : ∀ i, 4 ≤ i → i < 12 → (digs 12 x).getD i 0 = 0) :
    x = (digs 12 x).getD 0 0 + (digs 12 x).getD 1 0 * 65536 + (digs 12 x).getD 2 0 * 4294967296 + (digs 12 x).getD 3 0 * 281474976710656 := by
  have e := horner_digs 12 x h0 h1
  have l := digs_len 12 x
  generalize digs 12 x = ds at *
  match ds, l with
  | [d0, d1, d2, d3, d4, d5, d6, d7, d8, d9, d10, d11], _ =>
    have h4 := h 4 (by omega) (by omega)
    have h5 := h 5 (by omega) (by omega)
    have h6 := h 6 (by omega) (by omega)
    have h7 := h 7 (by omega) (by omega)
    have h8 := h 8 (by omega) (by omega)
    have h9 := h 9 (by omega) (by omega)
    have h10 := h 10 (by omega) (by omega)
    have h11 := h 11 (by omega) (by omega)
    simp at h4 h5 h6 h7 h8 h9 h10 h11
    subst h4 h5 h6 h7 h8 h9 h10 h11
    simp [horner] at e
    simp
    omega

theorem of_digs (u : Int) (h0 : 0 ≤ u) (h1 : u < 18446744073709551616) :
    digs 12 u = [u % 65536, u / 65536 % 65536, u / 4294967296 % 65536, u / 281474976710656 % 65536, 0, 0, 0, 0, 0, 0, 0, 0] := by
  have e : u / 65536 / 65536 / 65536 / 65536 = 0 := by omega
  simp only [digs, e]
  simp
  omega

theorem cinv_digs (Z : Int) (h0 : 0 ≤ Z) (h1 : Z < 65536 ^ 12) : CInv Z 0 (digs 12 Z) :=
  ⟨digs_len _ _, horner_digs 12 Z h0 h1, fun i => (digs_bd 12 Z i).1, fun i h => by omega, by have := (digs_bd 12 Z 0).2; omega, fun i _ => by have := (digs_bd 12 Z i).2; omega⟩
end Go.Proofs.Ytlfjbbelanccbaa

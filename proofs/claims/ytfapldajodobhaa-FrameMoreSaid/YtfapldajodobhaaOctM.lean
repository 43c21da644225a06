/- Numbers as bytes, in groups of seven bits: mathematics. -/
import Derived.Test.YtfapldajodobhaaByt
namespace Go.Proofs.Ytfapldajodobhaa
set_option linter.unusedVariables false
set_option linter.unusedSimpArgs false
open Go.RowKit

/-- The rank of a number, and the number of a rank. -/
def rank (n : Int) : Nat := if 0 ≤ n then 2 * n.toNat else 2 * (-n).toNat - 1
def numOf (r : Nat) : Int := if r % 2 = 1 then -((r / 2 : Nat) : Int) - 1 else ((r / 2 : Nat) : Int)
theorem num_rank (n : Int) : numOf (rank n) = n := by
  unfold numOf rank
  by_cases h : 0 ≤ n
  · rw [if_pos h, if_neg (by omega)]; omega
  · rw [if_neg h, if_pos (by omega)]; omega
theorem rank_num (r : Nat) : rank (numOf r) = r := by
  unfold numOf rank
  by_cases h : r % 2 = 1
  · rw [if_pos h, if_neg (by omega)]; omega
  · rw [if_neg h, if_pos (by omega)]; omega
theorem rank_lt {n : Int} (h0 : -9223372036854775808 ≤ n) (h1 : n ≤ 9223372036854775807) : rank n < 18446744073709551616 := by
  unfold rank; split <;> omega
theorem rank_inj {n m : Int} (h : rank n = rank m) : n = m := by rw [← num_rank n, h, num_rank]
theorem num_bd {r : Nat} (h : r < 18446744073709551616) : -9223372036854775808 ≤ numOf r ∧ numOf r ≤ 9223372036854775807 := by
  unfold numOf; split <;> omega

/-- A rank as bytes. -/
def encR (x : Nat) : List UInt8 := if h : x < 128 then [UInt8.ofNat x] else UInt8.ofNat (x % 128 + 128) :: encR (x / 128)
termination_by x
decreasing_by omega
theorem enc_lt {x : Nat} (h : x < 128) : encR x = [UInt8.ofNat x] := by rw [encR, dif_pos h]
theorem enc_ge {x : Nat} (h : ¬ x < 128) : encR x = UInt8.ofNat (x % 128 + 128) :: encR (x / 128) := by rw [encR, dif_neg h]
theorem byte_of {x : Nat} (h : x < 256) : (UInt8.ofNat x).toNat = x := by rw [UInt8.toNat_ofNat']; omega
theorem enc_pos (x : Nat) : 1 ≤ (encR x).length := by
  by_cases h : x < 128
  · rw [enc_lt h]; simp
  · rw [enc_ge h]; simp
theorem enc_mono : ∀ (n x y : Nat), x ≤ n → x ≤ y → (encR x).length ≤ (encR y).length := by
  intro n
  induction n with
  | zero =>
    intro x y hx _
    rw [enc_lt (show x < 128 by omega)]
    simpa using enc_pos y
  | succ n ih =>
    intro x y hx h
    by_cases h1 : x < 128
    · rw [enc_lt h1]; simpa using enc_pos y
    · rw [enc_ge h1, enc_ge (show ¬ y < 128 by omega)]
      have := ih (x / 128) (y / 128) (by omega) (Nat.div_le_div_right h)
      simpa using this
theorem enc_len {x : Nat} (k : Nat) : x < 128 ^ (k + 1) → (encR x).length ≤ k + 1 := by
  induction k generalizing x with
  | zero => intro h; rw [enc_lt (by simpa using h)]; simp
  | succ k ih =>
    intro h
    by_cases h1 : x < 128
    · rw [enc_lt h1]; simp
    · rw [enc_ge h1]
      have := ih (x := x / 128) (by rw [Nat.pow_succ] at h; exact Nat.div_lt_of_lt_mul (by rw [Nat.mul_comm]; exact h))
      simp; omega
theorem enc_len10 {x : Nat} (h : x < 18446744073709551616) : (encR x).length ≤ 10 := enc_len 9 (Nat.lt_of_lt_of_le h (by decide))

/-- Reading a rank, from group i on, behind r: (0, rank, how many) · (1, _, _): a byte is missing · (2, _, i): the tenth byte is too great · (3, _, i): a last byte of 0. -/
def getS : Nat → Nat → List UInt8 → Nat × Nat × Nat
  | _, _, [] => (1, 0, 0)
  | i, r, c :: M =>
    if i = 9 ∧ 1 < c.toNat then (2, 0, i) else if 0 < i ∧ c.toNat = 0 then (3, 0, i)
    else if c.toNat < 128 then (0, r + c.toNat % 128 * 128 ^ i, i + 1) else getS (i + 1) (r + c.toNat % 128 * 128 ^ i) M

theorem mul_mono {a b P : Nat} (h : a ≤ b) : a * P ≤ b * P := Nat.mul_le_mul_right P h
theorem split_mul (x P : Nat) : x % 128 * P + x / 128 * (P * 128) = x * P := by
  have h : x = 128 * (x / 128) + x % 128 := by omega
  have e : x / 128 * (P * 128) = 128 * (x / 128) * P := by
    rw [Nat.mul_comm P 128, ← Nat.mul_assoc, Nat.mul_comm (x / 128) 128]
  rw [e, ← Nat.add_mul, Nat.add_comm, ← h]

theorem pow9 : (128 : Nat) ^ 9 = 9223372036854775808 := by decide

/-- What was written is read, whatever stands behind it. -/
theorem get_enc : ∀ (n x i r : Nat) (B : List UInt8), x ≤ n → i ≤ 9 → x * 128 ^ i < 18446744073709551616 → (i = 0 ∨ 0 < x) → getS i r (encR x ++ B) = (0, r + x * 128 ^ i, i + (encR x).length) := by
  intro n
  induction n with
  | zero =>
    intro x i r B hx hi hb hz
    obtain rfl : x = 0 := by omega
    rcases hz with rfl | h
    · rw [enc_lt (by omega)]
      simp [getS]
    · omega
  | succ n ih =>
    intro x i r B hx hi hb hz
    by_cases h : x < 128
    · rw [enc_lt h]
      have hc : (UInt8.ofNat x).toNat = x := byte_of (by omega)
      show getS i r (UInt8.ofNat x :: B) = _
      have h9 : ¬ (i = 9 ∧ 1 < x) := by
        rintro ⟨rfl, h1⟩
        rw [pow9] at hb
        omega
      rw [getS, hc, if_neg h9, if_neg (by omega), if_pos h, show x % 128 = x by omega]
      simp
    · rw [enc_ge h]
      have hc : (UInt8.ofNat (x % 128 + 128)).toNat = x % 128 + 128 := byte_of (by omega)
      show getS i r (UInt8.ofNat (x % 128 + 128) :: (encR (x / 128) ++ B)) = _
      have h9 : i ≠ 9 := by
        rintro rfl
        rw [pow9] at hb
        omega
      rw [getS, hc, if_neg (by omega), if_neg (by omega), if_neg (by omega), show (x % 128 + 128) % 128 = x % 128 by omega]
      have e : x % 128 * 128 ^ i + x / 128 * 128 ^ (i + 1) = x * 128 ^ i := split_mul x (128 ^ i)
      rw [ih (x / 128) (i + 1) _ B (by omega) (by omega) (by omega) (by omega)]
      simp only [List.length_cons]
      rw [Nat.add_assoc, e]
      congr 2
      omega

/-- Bytes that are cut short are none. -/
theorem get_cut : ∀ (n x i r j : Nat), x ≤ n → i ≤ 9 → x * 128 ^ i < 18446744073709551616 → (i = 0 ∨ 0 < x) → j < (encR x).length → (getS i r ((encR x).take j)).1 = 1 := by
  intro n
  induction n with
  | zero =>
    intro x i r j hx hi hb hz hj
    obtain rfl : x = 0 := by omega
    rw [enc_lt (by omega)] at hj ⊢
    simp at hj
    subst hj
    simp [getS]
  | succ n ih =>
    intro x i r j hx hi hb hz hj
    by_cases h : x < 128
    · rw [enc_lt h] at hj ⊢
      simp at hj
      subst hj
      simp [getS]
    · rw [enc_ge h] at hj ⊢
      cases j with
      | zero => simp [getS]
      | succ j =>
        have hc : (UInt8.ofNat (x % 128 + 128)).toNat = x % 128 + 128 := byte_of (by omega)
        have h9 : i ≠ 9 := by
          rintro rfl
          rw [pow9] at hb
          omega
        have e : x % 128 * 128 ^ i + x / 128 * 128 ^ (i + 1) = x * 128 ^ i := split_mul x (128 ^ i)
        rw [List.take_succ_cons, getS, hc, if_neg (by omega), if_neg (by omega), if_neg (by omega)]
        exact ih (x / 128) (i + 1) _ j (by omega) (by omega) (by omega) (by omega) (by simpa using hj)

/-- What is read is written as the bytes from which it was read. -/
theorem get_ok : ∀ (M : List UInt8) (i r R k : Nat), i ≤ 9 → getS i r M = (0, R, k) → ∃ x, R = r + x * 128 ^ i ∧ M.take (k - i) = encR x ∧ i < k ∧ k - i ≤ M.length ∧ (i = 0 ∨ 0 < x) ∧ x < 2 * 128 ^ (9 - i) := by
  intro M
  induction M with
  | nil => intro i r R k _ h; simp [getS] at h
  | cons c M ih =>
    intro i r R k hi h
    rw [getS] at h
    by_cases h9 : i = 9 ∧ 1 < c.toNat
    · rw [if_pos h9] at h; simp at h
    by_cases h0 : 0 < i ∧ c.toNat = 0
    · rw [if_neg h9, if_pos h0] at h; simp at h
    rw [if_neg h9, if_neg h0] at h
    have hc8 := c.toNat_lt
    by_cases hc : c.toNat < 128
    · rw [if_pos hc] at h
      injection h with _ h; injection h with h1 h2
      subst h1; subst h2
      refine ⟨c.toNat, by rw [show c.toNat % 128 = c.toNat by omega], ?_, by omega, by simp, by omega, ?_⟩
      · rw [show i + 1 - i = 1 by omega, enc_lt hc]; simp
      · by_cases e : i = 9
        · subst e; simp; omega
        · have : 128 ≤ 128 ^ (9 - i) := Nat.pow_le_pow_right (n := 128) (i := 1) (by omega) (by omega)
          omega
    · rw [if_neg hc] at h
      have hi9 : i ≠ 9 := fun e => h9 ⟨e, by omega⟩
      obtain ⟨x, e1, e2, e3, e4, e5, e6⟩ := ih (i + 1) _ R k (by omega) h
      have hx : 0 < x := by omega
      have hm : (128 * x + c.toNat % 128) % 128 = c.toNat % 128 := by omega
      have hd : (128 * x + c.toNat % 128) / 128 = x := by omega
      refine ⟨128 * x + c.toNat % 128, ?_, ?_, by omega, ?_, by omega, ?_⟩
      · have e : (128 * x + c.toNat % 128) % 128 * 128 ^ i + (128 * x + c.toNat % 128) / 128 * 128 ^ (i + 1) = (128 * x + c.toNat % 128) * 128 ^ i := split_mul (128 * x + c.toNat % 128) (128 ^ i)
        rw [hm, hd] at e
        rw [e1, Nat.add_assoc, e]
      · rw [show k - i = (k - (i + 1)) + 1 by omega, List.take_succ_cons, e2, enc_ge (x := 128 * x + c.toNat % 128) (by omega), hm, hd, show c.toNat % 128 + 128 = c.toNat by omega]
        simp
      · simp; omega
      · have : 128 ^ (9 - i) = 128 ^ (9 - (i + 1)) * 128 := by rw [show 9 - i = 9 - (i + 1) + 1 by omega]; rfl
        omega

/-- No number's bytes begin with another one's. -/
theorem enc_apart {x y : Nat} (hx : x < 18446744073709551616) (hy : y < 18446744073709551616) {A B : List UInt8} (h : encR x ++ A = encR y ++ B) : x = y := by
  have h1 := get_enc x x 0 0 A (Nat.le_refl _) (by omega) (by simpa using hx) (.inl rfl)
  have h2 := get_enc y y 0 0 B (Nat.le_refl _) (by omega) (by simpa using hy) (.inl rfl)
  rw [h, h2] at h1
  injection h1 with _ h1; injection h1 with h1 _
  simpa using h1.symm
end Go.Proofs.Ytfapldajodobhaa

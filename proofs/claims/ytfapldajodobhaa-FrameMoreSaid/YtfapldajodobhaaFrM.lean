/- The checksum bit by bit as a map on numbers of any size: it is linear, and no burst of 32 bits vanishes. No program. -/
import Derived.Test.YtfapldajodobhaaByt
namespace Go.Proofs.Ytfapldajodobhaa
set_option linter.unusedVariables false
set_option linter.unusedSimpArgs false

theorem xor_z {x y : Nat} (h : x ^^^ y = 0) : x = y := by
  have := congrArg (fun z => z ^^^ y) h
  simpa [Nat.xor_assoc] using this
theorem xor_rc (a b c : Nat) : a ^^^ b ^^^ c = a ^^^ c ^^^ b := by rw [Nat.xor_assoc, Nat.xor_comm b, ← Nat.xor_assoc]
theorem xor_m2 (x y : Nat) : (x ^^^ y) % 2 = (x % 2 + y % 2) % 2 := by
  have h : (x ^^^ y) % 2 ^ 1 = x % 2 ^ 1 ^^^ y % 2 ^ 1 := Nat.xor_mod_two_pow
  rw [Nat.pow_one] at h
  rw [h]
  rcases Nat.mod_two_eq_zero_or_one x with hx | hx <;> rcases Nat.mod_two_eq_zero_or_one y with hy | hy <;> rw [hx, hy] <;> rfl
def poly : Nat := 3988292384
/-- One bit: the number goes down by one, and is combined if its lowest bit was set. -/
def step (x : Nat) : Nat := x / 2 ^^^ (if x % 2 = 1 then poly else 0)
def steps : Nat → Nat → Nat
  | 0, x => x
  | k + 1, x => steps k (step x)
theorem steps_add (a b x : Nat) : steps (a + b) x = steps b (steps a x) := by
  induction a generalizing x with
  | zero => simp [steps]
  | succ a ih => rw [Nat.add_right_comm]; exact ih _
theorem steps_succ (k x : Nat) : steps (k + 1) x = step (steps k x) := steps_add k 1 x
theorem step_xor (x y : Nat) : step (x ^^^ y) = step x ^^^ step y := by
  unfold step
  rw [Nat.xor_div_two]
  rw [xor_m2]
  rcases Nat.mod_two_eq_zero_or_one x with hx | hx <;> rcases Nat.mod_two_eq_zero_or_one y with hy | hy <;> simp only [hx, hy] <;> simp
  · rw [Nat.xor_assoc]
  · rw [xor_rc]
  · rw [Nat.xor_assoc, Nat.xor_comm poly, Nat.xor_assoc, Nat.xor_self, Nat.xor_zero]
theorem steps_xor (k x y : Nat) : steps k (x ^^^ y) = steps k x ^^^ steps k y := by
  induction k generalizing x y with
  | zero => rfl
  | succ k ih => show steps k (step _) = steps k (step _) ^^^ steps k (step _); rw [step_xor, ih]
theorem step_two (x : Nat) : step (2 * x) = x := by
  unfold step
  rw [if_neg (by omega), Nat.xor_zero]; omega
theorem steps_pow (k x : Nat) : steps k (2 ^ k * x) = x := by
  induction k generalizing x with
  | zero => simp [steps]
  | succ k ih =>
    show steps k (step _) = x
    rw [show 2 ^ (k + 1) * x = 2 * (2 ^ k * x) by rw [Nat.pow_succ]; simp [Nat.mul_comm, Nat.mul_left_comm], step_two, ih]
theorem step_lt {x : Nat} (h : x < 4294967296) : step x < 4294967296 := by
  have h1 : x / 2 < 2 ^ 32 := by omega
  have h2 : (if x % 2 = 1 then poly else 0) < 2 ^ 32 := by split <;> decide
  exact Nat.xor_lt_two_pow h1 h2
theorem steps_lt {k x : Nat} (h : x < 4294967296) : steps k x < 4294967296 := by
  induction k generalizing x with
  | zero => exact h
  | succ k ih => exact ih (step_lt h)
theorem step_zero {x : Nat} (h : x < 4294967296) (h0 : step x = 0) : x = 0 := by
  unfold step at h0
  have h1 := xor_z h0
  split at h1
  · unfold poly at h1; omega
  · omega
theorem steps_zero {k x : Nat} (h : x < 4294967296) (h0 : steps k x = 0) : x = 0 := by
  induction k generalizing x with
  | zero => exact h0
  | succ k ih => exact step_zero h (ih (step_lt h) h0)
theorem steps_inj {k x y : Nat} (hx : x < 4294967296) (hy : y < 4294967296) (h : steps k x = steps k y) : x = y := by
  have h1 : steps k (x ^^^ y) = 0 := by rw [steps_xor, h, Nat.xor_self]
  exact xor_z (steps_zero (Nat.xor_lt_two_pow (n := 32) hx hy) h1)

theorem add_xor (k a b : Nat) (h : b < 2 ^ k) : b + 2 ^ k * a = b ^^^ 2 ^ k * a := by
  apply Nat.eq_of_testBit_eq
  intro i
  rw [Nat.add_comm, Nat.testBit_two_pow_mul_add _ h, Nat.testBit_xor, Nat.testBit_two_pow_mul]
  by_cases hi : i < k
  · rw [if_pos hi]; simp [Nat.not_le.2 hi]
  · rw [if_neg hi]
    have : b.testBit i = false := Nat.testBit_lt_two_pow (Nat.lt_of_lt_of_le h (Nat.pow_le_pow_right (by omega) (by omega)))
    simp [this, Nat.le_of_not_lt hi]

/-- One byte. -/
def crcB (n : Nat) (b : Nat) : Nat := steps 8 (n ^^^ b)
def crcL (n : Nat) (L : List UInt8) : Nat := L.foldl (fun n b => crcB n b.toNat) n
theorem crcB_lt {n b : Nat} (h : n < 4294967296) (hb : b < 256) : crcB n b < 4294967296 := steps_lt (Nat.xor_lt_two_pow (n := 32) h (by omega))
theorem crcL_lt {n : Nat} (h : n < 4294967296) (L : List UInt8) : crcL n L < 4294967296 := by
  induction L generalizing n with
  | nil => exact h
  | cons b L ih => exact ih (crcB_lt h (UInt8.toNat_lt b))
theorem crcL_app (n : Nat) (L M : List UInt8) : crcL n (L ++ M) = crcL (crcL n L) M := List.foldl_append
/-- By the table: the byte's own eight steps, and the rest of the number. -/
theorem crcB_table (n b : Nat) (hb : b < 256) : crcB n b = steps 8 ((n ^^^ b) % 256) ^^^ n / 256 := by
  unfold crcB
  have e : n ^^^ b = (n ^^^ b) % 256 ^^^ 2 ^ 8 * ((n ^^^ b) / 256) := by rw [← add_xor 8 _ _ (by omega)]; omega
  have e2 : (n ^^^ b) / 256 = n / 256 := by
    have : (n ^^^ b) / 2 ^ 8 = n / 2 ^ 8 ^^^ b / 2 ^ 8 := Nat.xor_div_two_pow
    rw [show (256 : Nat) = 2 ^ 8 by rfl, this, show b / 2 ^ 8 = 0 by omega, Nat.xor_zero]
  rw [e2] at e
  conv => lhs; rw [e]
  rw [steps_xor, steps_pow]

/-- Bytes as one number, the lowest first. -/
def leNum : List UInt8 → Nat
  | [] => 0
  | b :: L => b.toNat + 256 * leNum L
theorem crcL_eq (n : Nat) (L : List UInt8) : crcL n L = steps (8 * L.length) (n ^^^ leNum L) := by
  induction L generalizing n with
  | nil => simp [crcL, leNum, steps]
  | cons b L ih =>
    show crcL (crcB n b.toNat) L = _
    rw [ih]
    simp only [leNum, List.length_cons]
    rw [show 8 * (L.length + 1) = 8 + 8 * L.length by omega, steps_add]
    congr 1
    rw [show (256 : Nat) = 2 ^ 8 by rfl, add_xor 8 _ _ (UInt8.toNat_lt b), ← Nat.xor_assoc, steps_xor, steps_pow]
    rfl
theorem leNum_lt (L : List UInt8) : leNum L < 2 ^ (8 * L.length) := by
  induction L with
  | nil => simp [leNum]
  | cons b L ih =>
    simp only [leNum, List.length_cons]
    have := UInt8.toNat_lt b
    rw [show 8 * (L.length + 1) = 8 * L.length + 8 by omega, Nat.pow_add]
    omega
theorem leNum_app (L M : List UInt8) : leNum (L ++ M) = leNum L + 2 ^ (8 * L.length) * leNum M := by
  induction L with
  | nil => simp [leNum]
  | cons b L ih =>
    simp only [List.cons_append, leNum, List.length_cons, ih]
    rw [show 8 * (L.length + 1) = 8 * L.length + 8 by omega, Nat.pow_add, Nat.mul_add]
    simp [Nat.mul_assoc, Nat.mul_comm, Nat.mul_left_comm]; omega
theorem leNum_inj {L M : List UInt8} (hl : L.length = M.length) (h : leNum L = leNum M) : L = M := by
  induction L generalizing M with
  | nil => cases M with
    | nil => rfl
    | cons _ _ => cases hl
  | cons b L ih => cases M with
    | nil => cases hl
    | cons c M =>
      simp only [leNum] at h
      have h1 := UInt8.toNat_lt b
      have h2 := UInt8.toNat_lt c
      have e1 : b.toNat = c.toNat := by omega
      have e2 : leNum L = leNum M := by omega
      rw [ih (by simpa using hl) e2, UInt8.toNat_inj.1 e1]
/-- One bit of bytes is turned. -/
theorem leNum_turn (L : List UInt8) (j t : Nat) (hj : j < L.length) (ht : t < 8) : leNum (L.set j (UInt8.ofNat (byteAt L j ^^^ 2 ^ t))) = leNum L ^^^ 2 ^ (8 * j + t) := by
  induction L generalizing j with
  | nil => simp at hj
  | cons b L ih =>
    have hb := UInt8.toNat_lt b
    have h2 : (2 : Nat) ^ t < 256 := by have : t = 0 ∨ t = 1 ∨ t = 2 ∨ t = 3 ∨ t = 4 ∨ t = 5 ∨ t = 6 ∨ t = 7 := by omega
                                        rcases this with rfl | rfl | rfl | rfl | rfl | rfl | rfl | rfl <;> decide
    cases j with
    | zero =>
      simp only [List.set_cons_zero, leNum, byteAt, List.getD_cons_zero, UInt8.toNat_ofNat']
      have hx : b.toNat ^^^ 2 ^ t < 2 ^ 8 := Nat.xor_lt_two_pow (n := 8) hb h2
      rw [Nat.mod_eq_of_lt hx, show (256 : Nat) = 2 ^ 8 by rfl, add_xor 8 _ _ hx, add_xor 8 _ _ hb, Nat.mul_zero, Nat.zero_add, xor_rc]
    | succ j =>
      simp only [List.set_cons_succ, leNum]
      have e : byteAt (b :: L) (j + 1) = byteAt L j := by simp [byteAt]
      rw [e, ih j (by simpa using hj), show (256 : Nat) = 2 ^ 8 by rfl, add_xor 8 _ _ hb, add_xor 8 _ _ hb, Nat.xor_assoc]
      congr 1
      rw [show 8 * (j + 1) + t = 8 + (8 * j + t) by omega]
      apply Nat.eq_of_testBit_eq
      intro i
      rw [Nat.testBit_two_pow_mul, Nat.testBit_xor, Nat.testBit_xor, Nat.testBit_two_pow_mul, Nat.testBit_two_pow, Nat.testBit_two_pow]
      by_cases hi : 8 ≤ i
      · have e1 : (8 * j + t = i - 8) = (8 + (8 * j + t) = i) := propext (by omega)
        simp [hi, e1]
      · have e1 : ¬ (8 + (8 * j + t) = i) := by omega
        simp [hi, e1]

/-- Where the checksum is that of the record, bits of both together within 32 that are turned make it another's. -/
theorem burst {n M : Nat} {X Y from_ mask : Nat} (hm : 0 < mask) (hm2 : mask < 4294967296) (hf : from_ ≤ M) (hY : Y = X ^^^ 2 ^ from_ * mask) : steps M (n ^^^ Y) ≠ steps M (n ^^^ X) := by
  rw [hY, ← Nat.xor_assoc, steps_xor]
  intro h
  have h1 : steps M (2 ^ from_ * mask) = 0 := by
    have := congrArg (fun z => steps M (n ^^^ X) ^^^ z) h
    simp only [← Nat.xor_assoc, Nat.xor_self, Nat.zero_xor] at this
    exact this
  rw [show M = from_ + (M - from_) by omega, steps_add, steps_pow] at h1
  have := steps_zero hm2 h1
  omega
end Go.Proofs.Ytfapldajodobhaa

/- Numbers digit by digit to the base 2^16, as lists: their value, changed in one place; which digits a value has. No program. -/
namespace Go.Proofs.Ytlfjbbelanccbaa
set_option linter.unusedVariables false
set_option linter.unusedSimpArgs false
/-- The value of digits, the lowest first. -/
def horner : List Int → Int
  | [] => 0
  | d :: ds => d + 65536 * horner ds
/-- The digits of a value, so many. -/
def digs : Nat → Int → List Int
  | 0, _ => []
  | k + 1, n => n % 65536 :: digs k (n / 65536)

theorem digs_len (k : Nat) : ∀ n, (digs k n).length = k := by
  induction k with
  | zero => intro n; rfl
  | succ k ih => intro n; simp [digs, ih]

theorem digs_bd (k : Nat) : ∀ (n : Int) (i : Nat), 0 ≤ (digs k n).getD i 0 ∧ (digs k n).getD i 0 < 65536 := by
  induction k with
  | zero => intro n i; simp [digs]
  | succ k ih =>
    intro n i
    cases i with
    | zero => simp [digs]; omega
    | succ i => simpa [digs] using ih (n / 65536) i

def Canon (ds : List Int) : Prop := ∀ d ∈ ds, 0 ≤ d ∧ d < 65536

theorem canon_digs : ∀ ds : List Int, Canon ds → ds = digs ds.length (horner ds)
  | [], _ => rfl
  | d :: ds, h => by
    have hd := h d (by simp)
    have ih := canon_digs ds (fun x hx => h x (by simp [hx]))
    have e1 : (d + 65536 * horner ds) % 65536 = d := by omega
    have e2 : (d + 65536 * horner ds) / 65536 = horner ds := by omega
    simp only [horner, List.length_cons, digs, e1, e2]
    rw [← ih]

theorem canon_of_digs (k : Nat) : ∀ n : Int, Canon (digs k n) := by
  induction k with
  | zero => intro n d h; simp [digs] at h
  | succ k ih =>
    intro n d h
    simp only [digs, List.mem_cons] at h
    rcases h with rfl | h
    · omega
    · exact ih _ d h

theorem pow_pos' (k : Nat) : (0 : Int) < 65536 ^ k := Int.pow_pos (by decide)

theorem horner_digs (k : Nat) : ∀ n : Int, 0 ≤ n → n < 65536 ^ k → horner (digs k n) = n := by
  induction k with
  | zero => intro n h0 h1; simp [digs, horner] at *; omega
  | succ k ih =>
    intro n h0 h1
    rw [Int.pow_succ] at h1
    simp only [digs, horner]
    rw [ih (n / 65536) (Int.ediv_nonneg h0 (by decide)) (Int.ediv_lt_of_lt_mul (by decide) h1)]
    omega

theorem horner_set : ∀ (ds : List Int) (i : Nat) (v : Int), i < ds.length → horner (ds.set i v) = horner ds + (v - ds.getD i 0) * 65536 ^ i
  | [], i, v, h => by simp at h
  | d :: ds, 0, v, _ => by simp [horner]; omega
  | d :: ds, i + 1, v, h => by
    have ih := horner_set ds i v (by simpa using h)
    simp only [List.set_cons_succ, horner, ih, List.getD_cons_succ, Int.pow_succ]
    rw [Int.mul_add, ← Int.mul_assoc, Int.mul_comm 65536 (v - _), Int.mul_assoc (v - _), Int.mul_comm 65536 ((65536 : Int) ^ i)]
    omega

theorem getD_set (ds : List Int) (i j : Nat) (v : Int) (h : i < ds.length) : (ds.set i v).getD j 0 = if i = j then v else ds.getD j 0 := by
  simp only [List.getD_eq_getElem?_getD, List.getElem?_set]
  split
  · simp_all
  · rfl

theorem horner_nonneg : ∀ ds : List Int, (∀ d ∈ ds, 0 ≤ d) → 0 ≤ horner ds
  | [], _ => by simp [horner]
  | d :: ds, h => by
    have := horner_nonneg ds (fun x hx => h x (by simp [hx]))
    have := h d (by simp)
    simp only [horner]; omega

theorem getD_of_mem {ds : List Int} {d : Int} (h : d ∈ ds) : ∃ i, i < ds.length ∧ ds.getD i 0 = d := by
  obtain ⟨i, hi, e⟩ := List.getElem_of_mem h
  exact ⟨i, hi, by simp [List.getD_eq_getElem?_getD, hi, e]⟩

/-- Nonnegative digits: the last one times its weight is at most the value. -/
theorem horner_ge : ∀ (ds : List Int) (i : Nat), (∀ d ∈ ds, 0 ≤ d) → ds.getD i 0 * 65536 ^ i ≤ horner ds
  | [], i, _ => by simp [horner]
  | d :: ds, 0, h => by
    have := horner_nonneg ds (fun x hx => h x (by simp [hx]))
    simp [horner]; omega
  | d :: ds, i + 1, h => by
    have ih := horner_ge ds i (fun x hx => h x (by simp [hx]))
    have := h d (by simp)
    simp only [horner, List.getD_cons_succ, Int.pow_succ]
    rw [← Int.mul_assoc]
    omega

theorem horner_replicate (k : Nat) : horner (List.replicate k 0) = 0 := by
  induction k with
  | zero => rfl
  | succ k ih => simp [List.replicate_succ, horner, ih]

theorem take_succ_horner (ds : List Int) (k : Nat) (h : k < ds.length) : horner (ds.take (k + 1)) = horner (ds.take k) + ds.getD k 0 * 65536 ^ k := by
  induction ds generalizing k with
  | nil => simp at h
  | cons d ds ih =>
    cases k with
    | zero => simp [horner]
    | succ k =>
      have := ih k (by simpa using h)
      simp only [List.take_succ_cons, horner, this, List.getD_cons_succ, Int.pow_succ]
      rw [Int.mul_add, ← Int.mul_assoc, ← Int.mul_assoc, Int.mul_comm 65536 (ds.getD k 0), Int.mul_assoc (ds.getD k 0), Int.mul_assoc (ds.getD k 0), Int.mul_comm 65536 ((65536 : Int) ^ k)]
      omega

/-- One step of carrying: the value stays. -/
def carryStep (ds : List Int) (k : Nat) : List Int := (ds.set (k + 1) (ds.getD (k + 1) 0 + ds.getD k 0 / 65536)).set k (ds.getD k 0 % 65536)
theorem horner_carry (ds : List Int) (k : Nat) (h : k + 1 < ds.length) : horner (carryStep ds k) = horner ds := by
  unfold carryStep
  rw [horner_set _ _ _ (by simp; omega), horner_set _ _ _ h, getD_set _ _ _ _ h, if_neg (by omega), Int.pow_succ]
  generalize ds.getD k 0 = a
  generalize (65536 : Int) ^ k = p
  rw [show ds.getD (k + 1) 0 + a / 65536 - ds.getD (k + 1) 0 = a / 65536 by omega]
  have : a % 65536 - a = - (65536 * (a / 65536)) := by omega
  rw [this, Int.neg_mul, Int.mul_comm 65536 (a / 65536), Int.mul_assoc, Int.mul_comm 65536 p]
  omega
theorem carry_len (ds : List Int) (k : Nat) : (carryStep ds k).length = ds.length := by simp [carryStep]

/-- What the loop of carrying keeps, behind k rounds. -/
def CInv (Z : Int) (k : Nat) (ds : List Int) : Prop :=
  ds.length = 12 ∧ horner ds = Z ∧ (∀ i, 0 ≤ ds.getD i 0) ∧ (∀ i, i < k → ds.getD i 0 < 65536) ∧ ds.getD k 0 ≤ 2199023255552 ∧ (∀ i, k < i → ds.getD i 0 ≤ 1099511627776)

theorem cinv_step (Z : Int) (k : Nat) (ds : List Int) (hk : k < 11) (h : CInv Z k ds) : CInv Z (k + 1) (carryStep ds k) := by
  obtain ⟨h1, h2, h3, h4, h5, h6⟩ := h
  have hg : ∀ i, (carryStep ds k).getD i 0 = if k = i then ds.getD k 0 % 65536 else if k + 1 = i then ds.getD (k + 1) 0 + ds.getD k 0 / 65536 else ds.getD i 0 := by
    intro i
    unfold carryStep
    rw [getD_set _ _ _ _ (by simp; omega), getD_set _ _ _ _ (by omega)]
  have h30 := h3 k
  have h31 := h3 (k + 1)
  have h60 := h6 (k + 1) (by omega)
  refine ⟨by rw [carry_len]; exact h1, by rw [horner_carry _ _ (by omega)]; exact h2, ?_, ?_, ?_, ?_⟩
  · intro i; rw [hg]; have := h3 i; split
    · omega
    · split <;> omega
  · intro i hi; rw [hg]; split
    · omega
    · split
      · omega
      · exact h4 i (by omega)
  · rw [hg, if_neg (by omega), if_pos rfl]; omega
  · intro i hi; rw [hg, if_neg (by omega), if_neg (by omega)]; exact h6 i (by omega)

theorem cinv_end (Z : Int) (ds : List Int) (hZ : Z < 65536 ^ 12) (h : CInv Z 11 ds) : ds = digs 12 Z := by
  obtain ⟨h1, h2, h3, h4, h5, h6⟩ := h
  have hnn : ∀ d ∈ ds, 0 ≤ d := by
    intro d hd; obtain ⟨i, _, e⟩ := getD_of_mem hd; rw [← e]; exact h3 i
  have hge := horner_ge ds 11 hnn
  have hlast : ds.getD 11 0 < 65536 := by
    rw [h2] at hge
    have p := pow_pos' 11
    have : ds.getD 11 0 * 65536 ^ 11 < 65536 * 65536 ^ 11 := by
      rw [show (65536 : Int) * 65536 ^ 11 = 65536 ^ 12 from by decide]; omega
    exact Int.lt_of_mul_lt_mul_right this (by omega)
  have := canon_digs ds (by
    intro d hd
    obtain ⟨i, hi, e⟩ := getD_of_mem hd
    rw [← e]
    refine ⟨h3 i, ?_⟩
    by_cases g : i = 11
    · subst g; exact hlast
    · exact h4 i (by omega))
  rw [h1, h2] at this
  exact this

/-- All digits nought: just for the value 0. -/
theorem digs_zero (k : Nat) : digs k 0 = List.replicate k 0 := by
  induction k with
  | zero => rfl
  | succ k ih => simp [digs, List.replicate_succ, ih]
theorem digs_zero_iff (k : Nat) (n : Int) (h0 : 0 ≤ n) (h1 : n < 65536 ^ k) : digs k n = List.replicate k 0 ↔ n = 0 := by
  constructor
  · intro h
    rw [← horner_digs k n h0 h1, h, horner_replicate]
  · rintro rfl; exact digs_zero k
end Go.Proofs.Ytlfjbbelanccbaa

/- Numbers digit by digit to the base 2^16, as lists: their value, changed in one place; which digits a value has. No program. More of numbers digit by digit: single digits, comparison from the highest down. No program. Numbers digit by digit, added and taken off: what the loops keep. No program. Numbers digit by digit, multiplied: what the loops keep. No program. -/

namespace Go.Proofs.YthphdiigjimchaaGreat
section
set_option linter.unusedVariables false
set_option linter.unusedSimpArgs false
def horner : List Int → Int
  | [] => 0
  | d :: ds => d + 65536 * horner ds
def digs : Nat → Int → List Int
  | 0, _ => []
  | k + 1, n => n % 65536 :: digs k (n / 65536)
theorem digs_len (k : Nat) : ∀ n, (digs k n).length = k := by
  induction k with
  | zero => intro n; rfl
  | succ k ih => intro n; simp [digs, ih]
theorem digs_bd (k : Nat) : ∀ (n : Int) (i : Nat), 0 ≤ (digs k n).getD i 0 ∧ (digs k n).getD i 0 < 65536 := by
  induction k with
  | zero => intro n i; simp [digs]
  | succ k ih =>
    intro n i
    cases i with
    | zero => simp [digs]; omega
    | succ i => simpa [digs] using ih (n / 65536) i
def Canon (ds : List Int) : Prop := ∀ d ∈ ds, 0 ≤ d ∧ d < 65536
theorem canon_digs : ∀ ds : List Int, Canon ds → ds = digs ds.length (horner ds)
  | [], _ => rfl
  | d :: ds, h => by
    have hd := h d (by simp)
    have ih := canon_digs ds (fun x hx => h x (by simp [hx]))
    have e1 : (d + 65536 * horner ds) % 65536 = d := by omega
    have e2 : (d + 65536 * horner ds) / 65536 = horner ds := by omega
    simp only [horner, List.length_cons, digs, e1, e2]
    rw [← ih]
theorem pow_pos' (k : Nat) : (0 : Int) < 65536 ^ k := Int.pow_pos (by decide)
theorem horner_digs (k : Nat) : ∀ n : Int, 0 ≤ n → n < 65536 ^ k → horner (digs k n) = n := by
  induction k with
  | zero => intro n h0 h1; simp [digs, horner] at *; omega
  | succ k ih =>
    intro n h0 h1
    rw [Int.pow_succ] at h1
    simp only [digs, horner]
    rw [ih (n / 65536) (Int.ediv_nonneg h0 (by decide)) (Int.ediv_lt_of_lt_mul (by decide) h1)]
    omega
theorem horner_set : ∀ (ds : List Int) (i : Nat) (v : Int), i < ds.length → horner (ds.set i v) = horner ds + (v - ds.getD i 0) * 65536 ^ i
  | [], i, v, h => by simp at h
  | d :: ds, 0, v, _ => by simp [horner]; omega
  | d :: ds, i + 1, v, h => by
    have ih := horner_set ds i v (by simpa using h)
    simp only [List.set_cons_succ, horner, ih, List.getD_cons_succ, Int.pow_succ]
    rw [Int.mul_add, ← Int.mul_assoc, Int.mul_comm 65536 (v - _), Int.mul_assoc (v - _), Int.mul_comm 65536 ((65536 : Int) ^ i)]
    omega
theorem getD_set (ds : List Int) (i j : Nat) (v : Int) (h : i < ds.length) : (ds.set i v).getD j 0 = if i = j then v else ds.getD j 0 := by
  simp only [List.getD_eq_getElem?_getD, List.getElem?_set]
  split
  · simp_all
  · rfl
theorem horner_nonneg : ∀ ds : List Int, (∀ d ∈ ds, 0 ≤ d) → 0 ≤ horner ds
  | [], _ => by simp [horner]
  | d :: ds, h => by
    have := horner_nonneg ds (fun x hx => h x (by simp [hx]))
    have := h d (by simp)
    simp only [horner]; omega
theorem getD_of_mem {ds : List Int} {d : Int} (h : d ∈ ds) : ∃ i, i < ds.length ∧ ds.getD i 0 = d := by
  obtain ⟨i, hi, e⟩ := List.getElem_of_mem h
  exact ⟨i, hi, by simp [List.getD_eq_getElem?_getD, hi, e]⟩
theorem horner_ge : ∀ (ds : List Int) (i : Nat), (∀ d ∈ ds, 0 ≤ d) → ds.getD i 0 * 65536 ^ i ≤ horner ds
  | [], i, _ => by simp [horner]
  | d :: ds, 0, h => by
    have := horner_nonneg ds (fun x hx => h x (by simp [hx]))
    simp [horner]; omega
  | d :: ds, i + 1, h => by
    have ih := horner_ge ds i (fun x hx => h x (by simp [hx]))
    have := h d (by simp)
    simp only [horner, List.getD_cons_succ, Int.pow_succ]
    rw [← Int.mul_assoc]
    omega
theorem horner_replicate (k : Nat) : horner (List.replicate k 0) = 0 := by
  induction k with
  | zero => rfl
  | succ k ih => simp [List.replicate_succ, horner, ih]
theorem take_succ_horner (ds : List Int) (k : Nat) (h : k < ds.length) : horner (ds.take (k + 1)) = horner (ds.take k) + ds.getD k 0 * 65536 ^ k := by
  induction ds generalizing k with
  | nil => simp at h
  | cons d ds ih =>
    cases k with
    | zero => simp [horner]
    | succ k =>
      have := ih k (by simpa using h)
      simp only [List.take_succ_cons, horner, this, List.getD_cons_succ, Int.pow_succ]
      rw [Int.mul_add, ← Int.mul_assoc, ← Int.mul_assoc, Int.mul_comm 65536 (ds.getD k 0), Int.mul_assoc (ds.getD k 0), Int.mul_assoc (ds.getD k 0), Int.mul_comm 65536 ((65536 : Int) ^ k)]
      omega
def carryStep (ds : List Int) (k : Nat) : List Int := (ds.set (k + 1) (ds.getD (k + 1) 0 + ds.getD k 0 / 65536)).set k (ds.getD k 0 % 65536)
theorem horner_carry (ds : List Int) (k : Nat) (h : k + 1 < ds.length) : horner (carryStep ds k) = horner ds := by
  unfold carryStep
  rw [horner_set _ _ _ (by simp; omega), horner_set _ _ _ h, getD_set _ _ _ _ h, if_neg (by omega), Int.pow_succ]
  generalize ds.getD k 0 = a
  generalize (65536 : Int) ^ k = p
  rw [show ds.getD (k + 1) 0 + a / 65536 - ds.getD (k + 1) 0 = a / 65536 by omega]
  have : a % 65536 - a = - (65536 * (a / 65536)) := by omega
  rw [this, Int.neg_mul, Int.mul_comm 65536 (a / 65536), Int.mul_assoc, Int.mul_comm 65536 p]
  omega
theorem carry_len (ds : List Int) (k : Nat) : (carryStep ds k).length = ds.length := by simp [carryStep]
def CInv (Z : Int) (k : Nat) (ds : List Int) : Prop :=
  ds.length = 12 ∧ horner ds = Z ∧ (∀ i, 0 ≤ ds.getD i 0) ∧ (∀ i, i < k → ds.getD i 0 < 65536) ∧ ds.getD k 0 ≤ 2199023255552 ∧ (∀ i, k < i → ds.getD i 0 ≤ 1099511627776)
theorem cinv_step (Z : Int) (k : Nat) (ds : List Int) (hk : k < 11) (h : CInv Z k ds) : CInv Z (k + 1) (carryStep ds k) := by
  obtain ⟨h1, h2, h3, h4, h5, h6⟩ := h
  have hg : ∀ i, (carryStep ds k).getD i 0 = if k = i then ds.getD k 0 % 65536 else if k + 1 = i then ds.getD (k + 1) 0 + ds.getD k 0 / 65536 else ds.getD i 0 := by
    intro i
    unfold carryStep
    rw [getD_set _ _ _ _ (by simp; omega), getD_set _ _ _ _ (by omega)]
  have h30 := h3 k
  have h31 := h3 (k + 1)
  have h60 := h6 (k + 1) (by omega)
  refine ⟨by rw [carry_len]; exact h1, by rw [horner_carry _ _ (by omega)]; exact h2, ?_, ?_, ?_, ?_⟩
  · intro i; rw [hg]; have := h3 i; split
    · omega
    · split <;> omega
  · intro i hi; rw [hg]; split
    · omega
    · split
      · omega
      · exact h4 i (by omega)
  · rw [hg, if_neg (by omega), if_pos rfl]; omega
  · intro i hi; rw [hg, if_neg (by omega), if_neg (by omega)]; exact h6 i (by omega)
theorem cinv_end (Z : Int) (ds : List Int) (hZ : Z < 65536 ^ 12) (h : CInv Z 11 ds) : ds = digs 12 Z := by
  obtain ⟨h1, h2, h3, h4, h5, h6⟩ := h
  have hnn : ∀ d ∈ ds, 0 ≤ d := by
    intro d hd; obtain ⟨i, _, e⟩ := getD_of_mem hd; rw [← e]; exact h3 i
  have hge := horner_ge ds 11 hnn
  have hlast : ds.getD 11 0 < 65536 := by
    rw [h2] at hge
    have p := pow_pos' 11
    have : ds.getD 11 0 * 65536 ^ 11 < 65536 * 65536 ^ 11 := by
      rw [show (65536 : Int) * 65536 ^ 11 = 65536 ^ 12 from by decide]; omega
    exact Int.lt_of_mul_lt_mul_right this (by omega)
  have := canon_digs ds (by
    intro d hd
    obtain ⟨i, hi, e⟩ := getD_of_mem hd
    rw [← e]
    refine ⟨h3 i, ?_⟩
    by_cases g : i = 11
    · subst g; exact hlast
    · exact h4 i (by omega))
  rw [h1, h2] at this
  exact this
theorem digs_zero (k : Nat) : digs k 0 = List.replicate k 0 := by
  induction k with
  | zero => rfl
  | succ k ih => simp [digs, List.replicate_succ, ih]
theorem digs_zero_iff (k : Nat) (n : Int) (h0 : 0 ≤ n) (h1 : n < 65536 ^ k) : digs k n = List.replicate k 0 ↔ n = 0 := by
  constructor
  · intro h
    rw [← horner_digs k n h0 h1, h, horner_replicate]
  · rintro rfl; exact digs_zero k
end

section
set_option linter.unusedVariables false
set_option linter.unusedSimpArgs false
theorem digs_getD (n : Nat) : ∀ (z : Int) (i : Nat), i < n → (digs n z).getD i 0 = z / 65536 ^ i % 65536 := by
  induction n with
  | zero => intro z i h; omega
  | succ n ih =>
    intro z i h
    cases i with
    | zero => simp [digs]
    | succ i =>
      rw [digs, List.getD_cons_succ, ih _ _ (by omega), Int.pow_succ, Int.mul_comm, Int.ediv_ediv_of_nonneg (by decide)]
theorem div_pow_succ (x : Int) (k : Nat) : x / 65536 ^ k = 65536 * (x / 65536 ^ (k + 1)) + x / 65536 ^ k % 65536 := by
  rw [Int.pow_succ, ← Int.ediv_ediv_of_nonneg (Int.le_of_lt (pow_pos' k))]; omega
theorem lt_of_div_lt (x y : Int) (k : Nat) (h : x / 65536 ^ k < y / 65536 ^ k) : x < y := by
  rcases Int.lt_or_le x y with g | g
  · exact g
  · have := Int.ediv_le_ediv (pow_pos' k) g
    omega
theorem cmp_step (x y : Int) (k : Nat) (h : x / 65536 ^ (k + 1) = y / 65536 ^ (k + 1)) :
    (x / 65536 ^ k % 65536 = y / 65536 ^ k % 65536 → x / 65536 ^ k = y / 65536 ^ k) ∧ (x / 65536 ^ k % 65536 < y / 65536 ^ k % 65536 → x < y) := by
  have h1 := div_pow_succ x k
  have h2 := div_pow_succ y k
  rw [h] at h1
  exact ⟨fun e => by omega, fun e => lt_of_div_lt x y k (by omega)⟩
theorem top_zero (x : Int) (h0 : 0 ≤ x) (h1 : x < 65536 ^ 12) : x / 65536 ^ 12 = 0 := Int.ediv_eq_zero_of_lt h0 h1
theorem of_digs (u : Int) (h0 : 0 ≤ u) (h1 : u < 18446744073709551616) :
    digs 12 u = [u % 65536, u / 65536 % 65536, u / 4294967296 % 65536, u / 281474976710656 % 65536, 0, 0, 0, 0, 0, 0, 0, 0] := by
  have e : u / 65536 / 65536 / 65536 / 65536 = 0 := by omega
  simp only [digs, e]
  simp
  omega
theorem cinv_digs (Z : Int) (h0 : 0 ≤ Z) (h1 : Z < 65536 ^ 12) : CInv Z 0 (digs 12 Z) :=
  ⟨digs_len _ _, horner_digs 12 Z h0 h1, fun i => (digs_bd 12 Z i).1, fun i h => by omega, by have := (digs_bd 12 Z 0).2; omega, fun i _ => by have := (digs_bd 12 Z i).2; omega⟩
end

section
set_option linter.unusedVariables false
set_option linter.unusedSimpArgs false
theorem take_len_horner (ds : List Int) (n : Nat) (h : ds.length = n) : horner (ds.take n) = horner ds := by
  rw [List.take_of_length_le (by omega)]
def PInv (X : Int) (ys : List Int) (k : Nat) (es : List Int) : Prop :=
  es.length = 12 ∧ horner es = X + horner (ys.take k) ∧ (∀ i, 0 ≤ es.getD i 0 ∧ es.getD i 0 < 131072) ∧ (∀ i, k ≤ i → es.getD i 0 < 65536)
theorem pinv_step (X : Int) (ys : List Int) (hy : ys.length = 12) (hc : ∀ i, 0 ≤ ys.getD i 0 ∧ ys.getD i 0 < 65536) (k : Nat) (hk : k < 12) (es : List Int) (h : PInv X ys k es) :
    PInv X ys (k + 1) (es.set k (es.getD k 0 + ys.getD k 0)) := by
  obtain ⟨h1, h2, h3, h4⟩ := h
  have g3 := h3 k; have g4 := h4 k (by omega); have gc := hc k
  refine ⟨by simp [h1], ?_, ?_, ?_⟩
  · rw [horner_set _ _ _ (by omega), take_succ_horner _ _ (by omega), h2, show es.getD k 0 + ys.getD k 0 - es.getD k 0 = ys.getD k 0 by omega]; omega
  · intro i; rw [getD_set _ _ _ _ (by omega)]; split
    · omega
    · exact h3 i
  · intro i hi; rw [getD_set _ _ _ _ (by omega), if_neg (by omega)]; exact h4 i (by omega)
theorem pinv_start (X : Int) (ys : List Int) (x0 : 0 ≤ X) (x1 : X < 65536 ^ 12) : PInv X ys 0 (digs 12 X) :=
  ⟨digs_len _ _, by rw [horner_digs 12 X x0 x1]; simp [horner], fun i => by have := digs_bd 12 X i; omega, fun i _ => (digs_bd 12 X i).2⟩
theorem pinv_end (X : Int) (ys : List Int) (hy : ys.length = 12) (es : List Int) (h : PInv X ys 12 es) : CInv (X + horner ys) 0 es := by
  obtain ⟨h1, h2, h3, h4⟩ := h
  rw [take_len_horner _ _ hy] at h2
  exact ⟨h1, h2, fun i => (h3 i).1, fun i hi => by omega, by have := (h3 0).2; omega, fun i _ => by have := (h3 i).2; omega⟩
theorem horner_lt : ∀ ds : List Int, (∀ i, i < ds.length → ds.getD i 0 < 65536) → horner ds < 65536 ^ ds.length
  | [], _ => by simp [horner]
  | d :: ds, h => by
    have ih := horner_lt ds (fun i hi => by simpa using h (i + 1) (by simpa using hi))
    have := h 0 (by simp)
    simp at this
    simp only [horner, List.length_cons, Int.pow_succ]
    omega
theorem getD_take (ds : List Int) (n i : Nat) (h : i < n) : (ds.take n).getD i 0 = ds.getD i 0 := by
  simp [List.getD_eq_getElem?_getD, List.getElem?_take, h]
theorem horner_top (ds : List Int) (hl : ds.length = 12) (h : ∀ i, i < 11 → ds.getD i 0 < 65536) (h0 : 0 ≤ horner ds) : 0 ≤ ds.getD 11 0 := by
  have e := take_succ_horner ds 11 (by omega)
  rw [take_len_horner _ 12 hl] at e
  have l := horner_lt (ds.take 11) (fun i hi => by
    have hi' : i < 11 := by simp at hi; omega
    rw [getD_take _ _ _ hi']; exact h i hi')
  rw [show (ds.take 11).length = 11 by simp [hl]] at l
  have p := pow_pos' 11
  rcases Int.lt_or_le (ds.getD 11 0) 0 with g | g
  · have : ds.getD 11 0 * 65536 ^ 11 ≤ -1 * 65536 ^ 11 := Int.mul_le_mul_of_nonneg_right (by omega) (Int.le_of_lt p)
    omega
  · exact g
def SInv (X : Int) (ys : List Int) (k : Nat) (es : List Int) : Prop :=
  es.length = 12 ∧ horner es = X - horner (ys.take k) ∧ (∀ i, i < k → 0 ≤ es.getD i 0 ∧ es.getD i 0 < 65536) ∧ (-1 ≤ es.getD k 0 ∧ es.getD k 0 < 65536) ∧ (∀ i, k < i → 0 ≤ es.getD i 0 ∧ es.getD i 0 < 65536)
theorem sinv_start (X : Int) (ys : List Int) (x0 : 0 ≤ X) (x1 : X < 65536 ^ 12) : SInv X ys 0 (digs 12 X) :=
  ⟨digs_len _ _, by rw [horner_digs 12 X x0 x1]; simp [horner], fun i hi => by omega, by have := digs_bd 12 X 0; omega, fun i _ => digs_bd 12 X i⟩
theorem sinv_borrow (X : Int) (ys : List Int) (hy : ys.length = 12) (hc : ∀ i, 0 ≤ ys.getD i 0 ∧ ys.getD i 0 < 65536) (k : Nat) (hk : k < 11) (es : List Int) (h : SInv X ys k es) (hneg : es.getD k 0 - ys.getD k 0 < 0) :
    SInv X ys (k + 1) ((es.set k (es.getD k 0 - ys.getD k 0 + 65536)).set (k + 1) (es.getD (k + 1) 0 - 1)) := by
  obtain ⟨h1, h2, h3, h4, h5⟩ := h
  have g5 := h5 (k + 1) (by omega); have gc := hc k
  have hg : ∀ i, ((es.set k (es.getD k 0 - ys.getD k 0 + 65536)).set (k + 1) (es.getD (k + 1) 0 - 1)).getD i 0 = if k + 1 = i then es.getD (k + 1) 0 - 1 else if k = i then es.getD k 0 - ys.getD k 0 + 65536 else es.getD i 0 := by
    intro i; rw [getD_set _ _ _ _ (by simp; omega), getD_set _ _ _ _ (by omega)]
  refine ⟨by simp [h1], ?_, ?_, ?_, ?_⟩
  · rw [horner_set _ _ _ (by simp; omega), horner_set _ _ _ (by omega), getD_set _ _ _ _ (by omega), if_neg (by omega), take_succ_horner _ _ (by omega), h2, Int.pow_succ]
    generalize (65536 : Int) ^ k = p
    rw [show es.getD k 0 - ys.getD k 0 + 65536 - es.getD k 0 = 65536 - ys.getD k 0 by omega, show es.getD (k + 1) 0 - 1 - es.getD (k + 1) 0 = -1 by omega, Int.sub_mul]
    omega
  · intro i hi; rw [hg]; split
    · omega
    · split
      · omega
      · exact h3 i (by omega)
  · rw [hg, if_pos rfl]; omega
  · intro i hi; rw [hg, if_neg (by omega), if_neg (by omega)]; exact h5 i (by omega)
theorem sinv_plain (X : Int) (ys : List Int) (hy : ys.length = 12) (hc : ∀ i, 0 ≤ ys.getD i 0 ∧ ys.getD i 0 < 65536) (k : Nat) (hk : k < 12) (es : List Int) (h : SInv X ys k es) (hge : horner ys ≤ X) (hp : 0 ≤ es.getD k 0 - ys.getD k 0 ∨ k = 11) :
    SInv X ys (k + 1) (es.set k (es.getD k 0 - ys.getD k 0)) := by
  obtain ⟨h1, h2, h3, h4, h5⟩ := h
  have gc := hc k
  have hlen : (es.set k (es.getD k 0 - ys.getD k 0)).length = 12 := by simp [h1]
  have hh : horner (es.set k (es.getD k 0 - ys.getD k 0)) = X - horner (ys.take (k + 1)) := by
    rw [horner_set _ _ _ (by omega), take_succ_horner _ _ (by omega), h2, show es.getD k 0 - ys.getD k 0 - es.getD k 0 = - ys.getD k 0 by omega, Int.neg_mul]; omega
  have hg : ∀ i, (es.set k (es.getD k 0 - ys.getD k 0)).getD i 0 = if k = i then es.getD k 0 - ys.getD k 0 else es.getD i 0 := fun i => getD_set _ _ _ _ (by omega)
  have hpos : 0 ≤ es.getD k 0 - ys.getD k 0 := by
    rcases hp with hp | rfl
    · exact hp
    · have := horner_top _ hlen (fun i hi => by rw [hg, if_neg (by omega)]; exact (h3 i hi).2) (by rw [hh, take_len_horner _ _ hy]; omega)
      rw [hg, if_pos rfl] at this
      exact this
  refine ⟨hlen, hh, ?_, ?_, ?_⟩
  · intro i hi; rw [hg]; split
    · omega
    · exact h3 i (by omega)
  · rw [hg, if_neg (by omega)]; have := h5 (k + 1) (by omega); omega
  · intro i hi; rw [hg, if_neg (by omega)]; exact h5 i (by omega)
theorem sinv_end (X : Int) (ys : List Int) (hy : ys.length = 12) (es : List Int) (h : SInv X ys 12 es) : CInv (X - horner ys) 0 es := by
  obtain ⟨h1, h2, h3, h4, h5⟩ := h
  rw [take_len_horner _ _ hy] at h2
  have hall : ∀ i, 0 ≤ es.getD i 0 ∧ es.getD i 0 < 65536 := by
    intro i
    by_cases hi : i < 12
    · exact h3 i hi
    · have : es.getD i 0 = 0 := by simp [List.getD_eq_getElem?_getD, List.getElem?_eq_none (show es.length ≤ i by omega)]
      omega
  exact ⟨h1, h2, fun i => (hall i).1, fun i hi => by omega, by have := (hall 0).2; omega, fun i _ => by have := (hall i).2; omega⟩
end

section
set_option linter.unusedVariables false
set_option linter.unusedSimpArgs false
theorem take_digs (k : Nat) : ∀ (n : Nat) (X : Int), k ≤ n → (digs n X).take k = digs k X := by
  induction k with
  | zero => intro n X _; simp [digs]
  | succ k ih =>
    intro n X h
    cases n with
    | zero => omega
    | succ n => simp only [digs, List.take_succ_cons]; rw [ih n _ (by omega)]
def MInv (xs ys : List Int) (i k : Nat) (es : List Int) : Prop :=
  es.length = 12 ∧ horner es = horner (xs.take i) * horner (ys.take 4) + xs.getD i 0 * 65536 ^ i * horner (ys.take k) ∧ (∀ j, 0 ≤ es.getD j 0 ∧ es.getD j 0 ≤ (4 * i + k : Nat) * 4294836225)
theorem prod_bd (p q : Int) (p0 : 0 ≤ p) (p1 : p < 65536) (q0 : 0 ≤ q) (q1 : q < 65536) : 0 ≤ p * q ∧ p * q ≤ 4294836225 :=
  ⟨Int.mul_nonneg p0 q0, by have := Int.mul_le_mul (show p ≤ 65535 by omega) (show q ≤ 65535 by omega) q0 (by omega); omega⟩
theorem minv_step (xs ys : List Int) (hy : ys.length = 12) (i k : Nat) (hi : i < 4) (hk : k < 4) (hp : 0 ≤ xs.getD i 0 * ys.getD k 0 ∧ xs.getD i 0 * ys.getD k 0 ≤ 4294836225) (es : List Int) (h : MInv xs ys i k es) :
    MInv xs ys i (k + 1) (es.set (i + k) (es.getD (i + k) 0 + xs.getD i 0 * ys.getD k 0)) := by
  obtain ⟨h1, h2, h3⟩ := h
  refine ⟨by simp [h1], ?_, ?_⟩
  · rw [horner_set _ _ _ (by omega), h2, take_succ_horner ys k (by omega), show es.getD (i + k) 0 + xs.getD i 0 * ys.getD k 0 - es.getD (i + k) 0 = xs.getD i 0 * ys.getD k 0 by omega, Int.pow_add, Int.mul_add]
    have : xs.getD i 0 * ys.getD k 0 * (65536 ^ i * 65536 ^ k) = xs.getD i 0 * 65536 ^ i * (ys.getD k 0 * 65536 ^ k) := by
      rw [Int.mul_assoc, Int.mul_assoc]; congr 1; rw [← Int.mul_assoc, Int.mul_comm (ys.getD k 0), Int.mul_assoc]
    omega
  · intro j
    rw [getD_set _ _ _ _ (by omega)]
    have := h3 j
    split
    · rename_i e; subst e; omega
    · omega
theorem minv_next (xs ys : List Int) (hx : xs.length = 12) (i : Nat) (hi : i < 4) (es : List Int) (h : MInv xs ys i 4 es) : MInv xs ys (i + 1) 0 es := by
  obtain ⟨h1, h2, h3⟩ := h
  refine ⟨h1, ?_, fun j => by have := h3 j; omega⟩
  rw [h2, take_succ_horner xs i (by omega), Int.add_mul]; simp [horner]
theorem minv_start (xs ys : List Int) : MInv xs ys 0 0 (List.replicate 12 0) := by
  refine ⟨by simp, by rw [horner_replicate]; simp [horner], ?_⟩
  intro j
  have : (List.replicate 12 (0 : Int)).getD j 0 = 0 := by
    rw [List.getD_eq_getElem?_getD]
    by_cases hj : j < 12
    · rw [List.getElem?_eq_getElem (by rw [List.length_replicate]; exact hj), List.getElem_replicate]; rfl
    · rw [List.getElem?_eq_none (by rw [List.length_replicate]; omega)]; rfl
  rw [this]; simp
theorem minv_end (X Y : Int) (x0 : 0 ≤ X) (x1 : X < 65536 ^ 4) (y0 : 0 ≤ Y) (y1 : Y < 65536 ^ 4) (es : List Int) (h : MInv (digs 12 X) (digs 12 Y) 4 0 es) : CInv (X * Y) 0 es := by
  obtain ⟨h1, h2, h3⟩ := h
  rw [take_digs 4 12 X (by omega), take_digs 4 12 Y (by omega), horner_digs 4 X x0 x1, horner_digs 4 Y y0 y1] at h2
  refine ⟨h1, by rw [h2]; simp [horner], fun i => (h3 i).1, fun i hi => by omega, by have := (h3 0).2; omega, fun i _ => by have := (h3 i).2; omega⟩
end
end Go.Proofs.YthphdiigjimchaaGreat

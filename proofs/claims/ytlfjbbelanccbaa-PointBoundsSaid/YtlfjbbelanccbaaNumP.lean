/- Numbers digit by digit, added and taken off: what the loops keep. No program. -/
import Derived.Test.YtlfjbbelanccbaaNumN
namespace Go.Proofs.Ytlfjbbelanccbaa
set_option linter.unusedVariables false
set_option linter.unusedSimpArgs false

theorem take_len_horner (ds : List Int) (n : Nat) (h : ds.length = n) : horner (ds.take n) = horner ds := by
  rw [List.take_of_length_le (by omega)]

/-- Adding, behind k digits. -/
def PInv (X : Int) (ys : List Int) (k : Nat) (es : List Int) : Prop :=
  es.length = 12 ∧ horner es = X + horner (ys.take k) ∧ (∀ i, 0 ≤ es.getD i 0 ∧ es.getD i 0 < 131072) ∧ (∀ i, k ≤ i → es.getD i 0 < 65536)

theorem pinv_step (X : Int) (ys : List Int) (hy : ys.length = 12) (hc : ∀ i, 0 ≤ ys.getD i 0 ∧ ys.getD i 0 < 65536) (k : Nat) (hk : k < 12) (es : List Int) (h : PInv X ys k es) :
    PInv X ys (k + 1) (es.set k (es.getD k 0 + ys.getD k 0)) := by
  obtain ⟨h1, h2, h3, h4⟩ := h
  have g3 := h3 k; have g4 := h4 k (by omega); have gc := hc k
  refine ⟨by simp [h1], ?_, ?_, ?_⟩
  · rw [horner_set _ _ _ (by omega), take_succ_horner _ _ (by omega), h2, show es.getD k 0 + ys.getD k 0 - es.getD k 0 = ys.getD k 0 by omega]; omega
  · intro i; rw [getD_set _ _ _ _ (by omega)]; split
    · omega
    · exact h3 i
  · intro i hi; rw [getD_set _ _ _ _ (by omega), if_neg (by omega)]; exact h4 i (by omega)

theorem pinv_start (X : Int) (ys : List Int) (x0 : 0 ≤ X) (x1 : X < 65536 ^ 12) : PInv X ys 0 (digs 12 X) :=
  ⟨digs_len _ _, by rw [horner_digs 12 X x0 x1]; simp [horner], fun i => by have := digs_bd 12 X i; omega, fun i _ => (digs_bd 12 X i).2⟩

theorem pinv_end (X : Int) (ys : List Int) (hy : ys.length = 12) (es : List Int) (h : PInv X ys 12 es) : CInv (X + horner ys) 0 es := by
  obtain ⟨h1, h2, h3, h4⟩ := h
  rw [take_len_horner _ _ hy] at h2
  exact ⟨h1, h2, fun i => (h3 i).1, fun i hi => by omega, by have := (h3 0).2; omega, fun i _ => by have := (h3 i).2; omega⟩

theorem horner_lt : ∀ ds : List Int, (∀ i, i < ds.length → ds.getD i 0 < 65536) → horner ds < 65536 ^ ds.length
  | [], _ => by simp [horner]
  | d :: ds, h => by
    have ih := horner_lt ds (fun i hi => by simpa using h (i + 1) (by simpa using hi))
    have := h 0 (by simp)
    simp at this
    simp only [horner, List.length_cons, Int.pow_succ]
    omega

theorem getD_take (ds : List Int) (n i : Nat) (h : i < n) : (ds.take n).getD i 0 = ds.getD i 0 := by
  simp [List.getD_eq_getElem?_getD, List.getElem?_take, h]

/-- The highest digit of what is not negative is none below nought. -/
theorem horner_top (ds : List Int) (hl : ds.length = 12) (h : ∀ i, i < 11 → ds.getD i 0 < 65536) (h0 : 0 ≤ horner ds) : 0 ≤ ds.getD 11 0 := by
  have e := take_succ_horner ds 11 (by omega)
  rw [take_len_horner _ 12 hl] at e
  have l := horner_lt (ds.take 11) (fun i hi => by
    have hi' : i < 11 := by simp at hi; omega
    rw [getD_take _ _ _ hi']; exact h i hi')
  rw [show (ds.take 11).length = 11 by simp [hl]] at l
  have p := pow_pos' 11
  rcases Int.lt_or_le (ds.getD 11 0) 0 with g | g
  · have : ds.getD 11 0 * 65536 ^ 11 ≤ -1 * 65536 ^ 11 := Int.mul_le_mul_of_nonneg_right (by omega) (Int.le_of_lt p)
    omega
  · exact g

/-- Taking off, behind k digits. -/
def SInv (X : Int) (ys : List Int) (k : Nat) (es : List Int) : Prop :=
  es.length = 12 ∧ horner es = X - horner (ys.take k) ∧ (∀ i, i < k → 0 ≤ es.getD i 0 ∧ es.getD i 0 < 65536) ∧ (-1 ≤ es.getD k 0 ∧ es.getD k 0 < 65536) ∧ (∀ i, k < i → 0 ≤ es.getD i 0 ∧ es.getD i 0 < 65536)

theorem sinv_start (X : Int) (ys : List Int) (x0 : 0 ≤ X) (x1 : X < 65536 ^ 12) : SInv X ys 0 (digs 12 X) :=
  ⟨digs_len _ _, by rw [horner_digs 12 X x0 x1]; simp [horner], fun i hi => by omega, by have := digs_bd 12 X 0; omega, fun i _ => digs_bd 12 X i⟩

theorem sinv_borrow (X : Int) (ys : List Int) (hy : ys.length = 12) (hc : ∀ i, 0 ≤ ys.getD i 0 ∧ ys.getD i 0 < 65536) (k : Nat) (hk : k < 11) (es : List Int) (h : SInv X ys k es) (hneg : es.getD k 0 - ys.getD k 0 < 0) :
    SInv X ys (k + 1) ((es.set k (es.getD k 0 - ys.getD k 0 + 65536)).set (k + 1) (es.getD (k + 1) 0 - 1)) := by
  obtain ⟨h1, h2, h3, h4, h5⟩ := h
  have g5 := h5 (k + 1) (by omega); have gc := hc k
  have hg : ∀ i, ((es.set k (es.getD k 0 - ys.getD k 0 + 65536)).set (k + 1) (es.getD (k + 1) 0 - 1)).getD i 0 = if k + 1 = i then es.getD (k + 1) 0 - 1 else if k = i then es.getD k 0 - ys.getD k 0 + 65536 else es.getD i 0 := by
    intro i; rw [getD_set _ _ _ _ (by simp; omega), getD_set _ _ _ _ (by omega)]
  refine ⟨by simp [h1], ?_, ?_, ?_, ?_⟩
  · rw [horner_set _ _ _ (by simp; omega), horner_set _ _ _ (by omega), getD_set _ _ _ _ (by omega), if_neg (by omega), take_succ_horner _ _ (by omega), h2, Int.pow_succ]
    generalize (65536 : Int) ^ k = p
    rw [show es.getD k 0 - ys.getD k 0 + 65536 - es.getD k 0 = 65536 - ys.getD k 0 by omega, show es.getD (k + 1) 0 - 1 - es.getD (k + 1) 0 = -1 by omega, Int.sub_mul]
    omega
  · intro i hi; rw [hg]; split
    · omega
    · split
      · omega
      · exact h3 i (by omega)
  · rw [hg, if_pos rfl]; omega
  · intro i hi; rw [hg, if_neg (by omega), if_neg (by omega)]; exact h5 i (by omega)

theorem sinv_plain (X : Int) (ys : List Int) (hy : ys.length = 12) (hc : ∀ i, 0 ≤ ys.getD i 0 ∧ ys.getD i 0 < 65536) (k : Nat) (hk : k < 12) (es : List Int) (h : SInv X ys k es) (hge : horner ys ≤ X) (hp : 0 ≤ es.getD k 0 - ys.getD k 0 ∨ k = 11) :
    SInv X ys (k + 1) (es.set k (es.getD k 0 - ys.getD k 0)) := by
  obtain ⟨h1, h2, h3, h4, h5⟩ := h
  have gc := hc k
  have hlen : (es.set k (es.getD k 0 - ys.getD k 0)).length = 12 := by simp [h1]
  have hh : horner (es.set k (es.getD k 0 - ys.getD k 0)) = X - horner (ys.take (k + 1)) := by
    rw [horner_set _ _ _ (by omega), take_succ_horner _ _ (by omega), h2, show es.getD k 0 - ys.getD k 0 - es.getD k 0 = - ys.getD k 0 by omega, Int.neg_mul]; omega
  have hg : ∀ i, (es.set k (es.getD k 0 - ys.getD k 0)).getD i 0 = if k = i then es.getD k 0 - ys.getD k 0 else es.getD i 0 := fun i => getD_set _ _ _ _ (by omega)
  have hpos : 0 ≤ es.getD k 0 - ys.getD k 0 := by
    rcases hp with hp | rfl
    · exact hp
    · have := horner_top _ hlen (fun i hi => by rw [hg, if_neg (by omega)]; exact (h3 i hi).2) (by rw [hh, take_len_horner _ _ hy]; omega)
      rw [hg, if_pos rfl] at this
      exact this
  refine ⟨hlen, hh, ?_, ?_, ?_⟩
  · intro i hi; rw [hg]; split
    · omega
    · exact h3 i (by omega)
  · rw [hg, if_neg (by omega)]; have := h5 (k + 1) (by omega); omega
  · intro i hi; rw [hg, if_neg (by omega)]; exact h5 i (by omega)

theorem sinv_end (X : Int) (ys : List Int) (hy : ys.length = 12) (es : List Int) (h : SInv X ys 12 es) : CInv (X - horner ys) 0 es := by
  obtain ⟨h1, h2, h3, h4, h5⟩ := h
  rw [take_len_horner _ _ hy] at h2
  have hall : ∀ i, 0 ≤ es.getD i 0 ∧ es.getD i 0 < 65536 := by
    intro i
    by_cases hi : i < 12
    · exact h3 i hi
    · have : es.getD i 0 = 0 := by simp [List.getD_eq_getElem?_getD, List.getElem?_eq_none (show es.length ≤ i by omega)]
      omega
  exact ⟨h1, h2, fun i => (hall i).1, fun i hi => by omega, by have := (hall 0).2; omega, fun i _ => by have := (hall i).2; omega⟩
end Go.Proofs.Ytlfjbbelanccbaa

/- Texts and lists as bytes: what is read is written so; bytes that are cut short: mathematics. -/
import Derived.Test.YtfapldajodobhaaOctN
namespace Go.Proofs.Ytfapldajodobhaa
set_option linter.unusedVariables false
set_option linter.unusedSimpArgs false
open Go.RowKit

theorem len_err {L : List UInt8} {p most : Int} (h : (lenP L p most).2.2.1 ≠ 0) : (lenP L p most).1 = 0 ∧ (lenP L p most).2.1 = 0 := by
  unfold lenP at h ⊢
  by_cases c1 : most < 0
  · rw [if_pos c1]; exact ⟨rfl, rfl⟩
  rw [if_neg c1] at h ⊢
  by_cases c2 : (getP L p).2.2.1 ≠ 0
  · rw [if_pos c2]; exact ⟨rfl, rfl⟩
  rw [if_neg c2] at h ⊢
  by_cases c3 : (getP L p).1 < 0
  · rw [if_pos c3]; exact ⟨rfl, rfl⟩
  rw [if_neg c3] at h ⊢
  by_cases c4 : most < (getP L p).1
  · rw [if_pos c4]; exact ⟨rfl, rfl⟩
  rw [if_neg c4] at h
  exact absurd rfl h

theorem len_canon {L : List UInt8} {p most n q a : Int} (h : lenP L p most = (n, q, 0, a)) : a = 0 ∧ 0 ≤ n ∧ n ≤ most ∧ ∃ i k : Nat, p = i ∧ q = i + k ∧ i + k ≤ L.length ∧ (L.drop i).take k = encN n := by
  unfold lenP at h
  by_cases c1 : most < 0
  · rw [if_pos c1] at h; simp at h
  rw [if_neg c1] at h
  by_cases c2 : (getP L p).2.2.1 ≠ 0
  · rw [if_pos c2] at h; simp at h; exact absurd h.2.2.1 c2
  rw [if_neg c2] at h
  by_cases c3 : (getP L p).1 < 0
  · rw [if_pos c3] at h; simp at h
  rw [if_neg c3] at h
  by_cases c4 : most < (getP L p).1
  · rw [if_pos c4] at h; simp at h
  rw [if_neg c4] at h
  generalize hg : getP L p = g at *
  obtain ⟨n', q', e', a'⟩ := g
  simp at c2 c3 c4 h
  subst c2
  obtain ⟨_, ha, i, k, e1, e2, e3, e4⟩ := get_canon hg
  obtain ⟨rfl, rfl, rfl⟩ := h
  exact ⟨rfl, c3, c4, i, k, e1, e2, e3, e4⟩

theorem take_add_drop (L : List UInt8) (i k m : Nat) : (L.drop i).take (k + m) = (L.drop i).take k ++ (L.drop (i + k)).take m := by
  rw [List.take_add, List.drop_drop]

/-- What text is got is put as the bytes from which it was got. -/
theorem text_canon {L : List UInt8} {p most q a : Int} {s : List UInt8} (h : textP L p most = (s, q, 0, a)) : a = 0 ∧ (s.length : Int) ≤ most ∧ ∃ i k : Nat, p = i ∧ q = i + k ∧ i + k ≤ L.length ∧ (L.drop i).take k = encT s := by
  unfold textP at h
  by_cases c1 : (lenP L p most).2.2.1 ≠ 0
  · rw [if_pos c1] at h; simp at h; exact absurd h.2.2.1 c1
  rw [if_neg c1] at h
  by_cases c2 : (L.length : Int) - (lenP L p most).2.1 < (lenP L p most).1
  · rw [if_pos c2] at h; simp at h
  rw [if_neg c2] at h
  generalize hg : lenP L p most = g at *
  obtain ⟨n, q', e', a'⟩ := g
  simp at c1
  subst c1
  obtain ⟨_, n0, n1, i, k, rfl, e2, e3, e4⟩ := len_canon hg
  simp only at h c2
  injection h with h1 h; injection h with h2 h; injection h with _ h3
  subst e2
  rw [show ((i : Int) + (k : Int)).toNat = i + k by omega] at h1
  have hsl : s.length = n.toNat := by rw [← h1]; simp; omega
  refine ⟨h3.symm, by omega, i, k + n.toNat, rfl, by omega, by omega, ?_⟩
  rw [take_add_drop, e4, h1]
  unfold encT
  rw [show ((s.length : Nat) : Int) = n by omega]

theorem listS_canon (L : List UInt8) : ∀ (m : Nat) (i : Nat) (acc l : List Int) (q a : Int), i ≤ L.length → listS L m (i : Int) acc = (l, q, 0, a) → a = 0 ∧ ∃ (l' : List Int) (k : Nat), l = acc ++ l' ∧ l'.length = m ∧ (∀ x ∈ l', I64 x) ∧ q = i + k ∧ i + k ≤ L.length ∧ (L.drop i).take k = l'.flatMap encN := by
  intro m
  induction m with
  | zero =>
    intro i acc l q a hi h
    rw [listS] at h
    injection h with h1 h; injection h with h2 h; injection h with _ h3
    exact ⟨h3.symm, [], 0, by simp [h1], rfl, by simp, by omega, by omega, by simp⟩
  | succ m ih =>
    intro i acc l q a hi h
    rw [listS] at h
    by_cases c1 : (getP L (i : Int)).2.2.1 ≠ 0
    · rw [if_pos c1] at h; simp at h; exact absurd h.2.2.1 c1
    rw [if_neg c1] at h
    generalize hg : getP L (i : Int) = g at *
    obtain ⟨x, nx, e', a'⟩ := g
    simp at c1
    subst c1
    obtain ⟨hx, _, i', k, e1, e2, e3, e4⟩ := get_canon hg
    obtain rfl : i = i' := by omega
    simp only at h
    rw [show nx = ((i + k : Nat) : Int) by omega] at h
    obtain ⟨ha, l', k', f1, f2, f3, f4, f5, f6⟩ := ih (i + k) _ l q a e3 h
    refine ⟨ha, x :: l', k + k', by rw [f1]; simp, by simp [f2], fun y hy => ?_, by omega, by omega, ?_⟩
    · rcases List.mem_cons.1 hy with rfl | hy
      · exact hx
      · exact f3 y hy
    · rw [take_add_drop, e4, f6]; simp

/-- What list is got is put as the bytes from which it was got. -/
theorem list_canon {L : List UInt8} {p most q a : Int} {l : List Int} (h : listP L p most = (l, q, 0, a)) : a = 0 ∧ (l.length : Int) ≤ most ∧ (∀ x ∈ l, I64 x) ∧ ∃ i k : Nat, p = i ∧ q = i + k ∧ i + k ≤ L.length ∧ (L.drop i).take k = encL l := by
  unfold listP at h
  by_cases c1 : (lenP L p most).2.2.1 ≠ 0
  · rw [if_pos c1] at h; simp at h; exact absurd h.2.2.1 c1
  rw [if_neg c1] at h
  generalize hg : lenP L p most = g at *
  obtain ⟨n, q', e', a'⟩ := g
  simp at c1
  subst c1
  obtain ⟨_, n0, n1, i, k, rfl, e2, e3, e4⟩ := len_canon hg
  simp only at h
  rw [show q' = ((i + k : Nat) : Int) by omega] at h
  obtain ⟨ha, l', k', f1, f2, f3, f4, f5, f6⟩ := listS_canon L n.toNat (i + k) [] l q a e3 h
  rw [List.nil_append] at f1
  subst f1
  refine ⟨ha, by omega, f3, i, k + k', rfl, by omega, by omega, ?_⟩
  rw [take_add_drop, e4, f6]
  unfold encL
  rw [show ((l.length : Nat) : Int) = n by omega]

/-- Behind any bytes: a number that is cut short is none. -/
theorem get_short_at (A : List UInt8) {n : Int} (h : I64 n) {j : Nat} (hj : j < (encN n).length) : (getP (A ++ (encN n).take j) A.length).2.2.1 = 4 := by
  unfold getP
  rw [if_neg (by simp; omega), show ((A.length : Nat) : Int).toNat = A.length by omega, List.drop_left]
  have := get_cut (rank n) (rank n) 0 0 j (Nat.le_refl _) (by omega) (by simpa using rank_lt h.1 h.2) (.inl rfl) hj
  unfold encN
  generalize getS 0 0 ((encR (rank n)).take j) = g at this ⊢
  obtain ⟨c, r, k⟩ := g
  simp at this
  subst this
  rfl

theorem len_short {L : List UInt8} {most : Int} (hm : 0 ≤ most) (h : (getP L 0).2.2.1 = 4) : (lenP L 0 most).2.2.1 = 4 := by
  unfold lenP
  rw [if_neg (by omega), if_pos (by omega)]
  exact h

theorem text_short {s : List UInt8} {most : Int} (hs : (s.length : Int) ≤ most) (hm : most ≤ 9223372036854775807) {j : Nat} (hj : j < (encT s).length) : (textP ((encT s).take j) 0 most).2.2.1 = 4 := by
  have h6 : I64 (s.length : Int) := ⟨by omega, by omega⟩
  by_cases c : j < (encN (s.length : Int)).length
  · have e : (encT s).take j = (encN (s.length : Int)).take j := by
      unfold encT
      rw [List.take_append_of_le_length (by omega)]
    rw [e]
    have h4 := len_short (most := most) (by omega) (get_short h6 c)
    unfold textP
    rw [if_pos (by omega)]
    exact h4
  · have e : (encT s).take j = [] ++ (encN (s.length : Int) ++ s.take (j - (encN (s.length : Int)).length)) := by
      unfold encT
      rw [List.take_append, List.take_of_length_le (by omega)]
      rfl
    have hb := len_back [] (s.take (j - (encN (s.length : Int)).length)) hs hm (p := 0) rfl
    unfold encT at hj
    rw [List.length_append] at hj
    rw [e]
    unfold textP
    rw [hb, if_neg (by simp), if_pos (by simp; omega)]

theorem listS_short : ∀ (l acc : List Int) (C : List UInt8) (j : Nat), (∀ x ∈ l, I64 x) → j < (l.flatMap encN).length → (listS (C ++ (l.flatMap encN).take j) l.length C.length acc).2.2.1 = 4 := by
  intro l
  induction l with
  | nil => intro acc C j _ hj; simp at hj
  | cons x l ih =>
    intro acc C j hx hj
    have h6 := hx x (by simp)
    rw [List.flatMap_cons] at hj ⊢
    rw [List.length_append] at hj
    show (listS _ (l.length + 1) _ acc).2.2.1 = 4
    rw [listS]
    by_cases c : j < (encN x).length
    · rw [List.take_append_of_le_length (by omega)]
      have h4 := get_short_at C h6 c
      rw [if_pos (by omega)]
      exact h4
    · rw [List.take_append, List.take_of_length_le (by omega)]
      have hb := get_back C ((l.flatMap encN).take (j - (encN x).length)) h6 (p := C.length) rfl
      rw [hb, if_neg (by simp)]
      have := ih (acc ++ [x]) (C ++ encN x) (j - (encN x).length) (fun y hy => hx y (by simp [hy])) (by omega)
      rw [List.append_assoc] at this
      simpa using this

theorem list_short {l : List Int} {most : Int} (hx : ∀ x ∈ l, I64 x) (hs : (l.length : Int) ≤ most) (hm : most ≤ 9223372036854775807) {j : Nat} (hj : j < (encL l).length) : (listP ((encL l).take j) 0 most).2.2.1 = 4 := by
  have h6 : I64 (l.length : Int) := ⟨by omega, by omega⟩
  by_cases c : j < (encN (l.length : Int)).length
  · have e : (encL l).take j = (encN (l.length : Int)).take j := by
      unfold encL
      rw [List.take_append_of_le_length (by omega)]
    rw [e]
    have h4 := len_short (most := most) (by omega) (get_short h6 c)
    unfold listP
    rw [if_pos (by omega)]
    exact h4
  · have e : (encL l).take j = [] ++ (encN (l.length : Int) ++ (l.flatMap encN).take (j - (encN (l.length : Int)).length)) := by
      unfold encL
      rw [List.take_append, List.take_of_length_le (by omega)]
      rfl
    have hb := len_back [] ((l.flatMap encN).take (j - (encN (l.length : Int)).length)) hs hm (p := 0) rfl
    unfold encL at hj
    rw [List.length_append] at hj
    rw [e]
    unfold listP
    rw [hb, if_neg (by simp)]
    have := listS_short l [] (encN (l.length : Int)) (j - (encN (l.length : Int)).length) hx (by omega)
    simp only [List.nil_append]
    simpa using this
end Go.Proofs.Ytfapldajodobhaa

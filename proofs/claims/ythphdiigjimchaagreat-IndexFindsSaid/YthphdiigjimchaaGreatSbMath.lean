/- Slabs: mathematics: which edges go through a slab, that they are even in number; the heights. Slabs: mathematics of a region: its heights, its lowest and highest slab, what counts. Slabs: mathematics: an edge after another; a region whose rings are turned about. Slabs: mathematics: a region's edges as they lie, those of a slab, where a point counts, which slab has a height. Slabs: mathematics of a region whose rings are turned about, and begin with another. -/
import Derived.Test.YthphdiigjimchaaGreatRiMath
import Derived.Test.YthphdiigjimchaaGreatPtTwo
import Derived.Test.YthphdiigjimchaaGreatBtOne
namespace Go.Proofs.YthphdiigjimchaaGreat
section
set_option linter.unusedVariables false
set_option linter.unusedSimpArgs false
open Go.RowKit
def thruE (lo hi : Int) (a b : Pt) : Bool := decide (min a.2 b.2 ≤ lo) && decide (hi ≤ max a.2 b.2)
def clearH (lo hi : Int) (K : List Pt) : Prop := ∀ a ∈ K, a.2 ≤ lo ∨ hi ≤ a.2
def lowP (lo : Int) (a : Pt) : Bool := decide (a.2 ≤ lo)
theorem thru_comm (lo hi : Int) (a b : Pt) : thruE lo hi b a = thruE lo hi a b := by
  unfold thruE; rw [Int.min_comm, Int.max_comm]
theorem thru_low {lo hi : Int} (h : lo < hi) {a b : Pt} (ha : a.2 ≤ lo ∨ hi ≤ a.2) (hb : b.2 ≤ lo ∨ hi ≤ b.2) : thruE lo hi a b = (lowP lo a != lowP lo b) := by
  unfold thruE lowP
  by_cases h1 : a.2 ≤ lo <;> by_cases h2 : b.2 ≤ lo
  · rw [decide_eq_true h1, decide_eq_true h2, decide_eq_true (show min a.2 b.2 ≤ lo by omega), decide_eq_false (show ¬ hi ≤ max a.2 b.2 by omega)]; rfl
  · rw [decide_eq_true h1, decide_eq_false h2, decide_eq_true (show min a.2 b.2 ≤ lo by omega), decide_eq_true (show hi ≤ max a.2 b.2 by omega)]; rfl
  · rw [decide_eq_false h1, decide_eq_true h2, decide_eq_true (show min a.2 b.2 ≤ lo by omega), decide_eq_true (show hi ≤ max a.2 b.2 by omega)]; rfl
  · rw [decide_eq_false h1, decide_eq_false h2, decide_eq_false (show ¬ min a.2 b.2 ≤ lo by omega)]; rfl
def pathE (lo hi : Int) : List Pt → Nat
  | [] => 0
  | [_] => 0
  | a :: b :: L => oneN (thruE lo hi a b) + pathE lo hi (b :: L)
theorem pathE_join (lo hi : Int) (m : Pt) : ∀ (A B : List Pt), pathE lo hi (A ++ m :: B) = pathE lo hi (A ++ [m]) + pathE lo hi (m :: B)
  | [], B => by simp [pathE]
  | [a], B => by simp [pathE]
  | a :: b :: A, B => by
    have := pathE_join lo hi m (b :: A) B
    simp only [List.cons_append, pathE] at this ⊢
    omega
def edgN (lo hi : Int) : List Pt → Nat
  | [] => 0
  | a :: L => pathE lo hi (a :: L ++ [a])
def totE (lo hi : Int) (R : List (List Pt)) : Nat := (R.map (edgN lo hi)).sum
theorem edg_parts (lo hi : Int) : ∀ A B : List Pt, edgN lo hi (A ++ B) = edgN lo hi (B ++ A)
  | [], B => by simp
  | a :: A, [] => by simp
  | a :: A, b :: B => by
    show pathE lo hi (a :: A ++ b :: B ++ [a]) = pathE lo hi (b :: B ++ a :: A ++ [b])
    rw [show a :: A ++ b :: B ++ [a] = (a :: A) ++ b :: (B ++ [a]) by simp, show b :: B ++ a :: A ++ [b] = (b :: B) ++ a :: (A ++ [b]) by simp, pathE_join lo hi b (a :: A), pathE_join lo hi a (b :: B), Nat.add_comm]
    rfl
theorem pathE_odd {lo hi : Int} (h : lo < hi) : ∀ (L : List Pt) (a z : Pt), clearH lo hi (a :: L ++ [z]) → pathE lo hi (a :: L ++ [z]) % 2 = oneN (lowP lo a != lowP lo z)
  | [], a, z, hc => by
    show (oneN (thruE lo hi a z) + 0) % 2 = _
    rw [thru_low h (hc a (by simp)) (hc z (by simp))]
    cases lowP lo a <;> cases lowP lo z <;> rfl
  | b :: L, a, z, hc => by
    have ih := pathE_odd h L b z (fun x hx => hc x (List.mem_cons_of_mem _ hx))
    show (oneN (thruE lo hi a b) + pathE lo hi (b :: L ++ [z])) % 2 = _
    rw [thru_low h (hc a (by simp)) (hc b (by simp)), Nat.add_mod, ih]
    cases lowP lo a <;> cases lowP lo b <;> cases lowP lo z <;> rfl
theorem edg_even {lo hi : Int} (h : lo < hi) {K : List Pt} (hc : clearH lo hi K) : edgN lo hi K % 2 = 0 := by
  cases K with
  | nil => rfl
  | cons a L =>
    show pathE lo hi (a :: L ++ [a]) % 2 = 0
    rw [pathE_odd h L a a (fun x hx => by
      rcases List.mem_append.1 hx with hx | hx
      · exact hc x hx
      · rw [List.mem_singleton] at hx; subst hx; exact hc x (by simp))]
    cases lowP lo a <;> rfl
theorem pathE_zero {lo hi : Int} (h : lo < hi) : ∀ (L : List Pt) (a : Pt), clearH lo hi (a :: L) → pathE lo hi (a :: L) = 0 → ∀ x ∈ L, lowP lo x = lowP lo a
  | [], a, _, _ => fun x hx => by cases hx
  | b :: L, a, hc, h0 => fun x hx => by
    have e : oneN (thruE lo hi a b) + pathE lo hi (b :: L) = 0 := h0
    have e1 : oneN (thruE lo hi a b) = 0 := by omega
    rw [thru_low h (hc a (by simp)) (hc b (by simp))] at e1
    have e2 : lowP lo b = lowP lo a := by
      revert e1
      cases lowP lo a <;> cases lowP lo b <;> decide
    rcases List.mem_cons.1 hx with rfl | hx
    · exact e2
    · rw [← e2]
      exact pathE_zero h L b (fun y hy => hc y (List.mem_cons_of_mem _ hy)) (by omega) x hx
theorem edg_two {lo hi : Int} (h : lo < hi) {K : List Pt} (hc : clearH lo hi K) {a b : Pt} (ha : a ∈ K) (hb : b ∈ K) (h1 : a.2 ≤ lo) (h2 : hi ≤ b.2) : 2 ≤ edgN lo hi K := by
  have he := edg_even h hc
  by_cases h0 : edgN lo hi K = 0
  · exfalso
    cases K with
    | nil => cases ha
    | cons z L =>
      have hc2 : clearH lo hi (z :: (L ++ [z])) := fun x hx => by
        rcases List.mem_cons.1 hx with rfl | hx
        · exact hc x (by simp)
        · rcases List.mem_append.1 hx with hx | hx
          · exact hc x (List.mem_cons_of_mem _ hx)
          · rw [List.mem_singleton] at hx; subst hx; exact hc x (by simp)
      have hz := pathE_zero h (L ++ [z]) z hc2 h0
      have all : ∀ x ∈ z :: L, lowP lo x = lowP lo z := fun x hx => by
        rcases List.mem_cons.1 hx with rfl | hx
        · rfl
        · exact hz x (List.mem_append_left _ hx)
      have e1 := all a ha
      have e2 := all b hb
      rw [← e2] at e1
      unfold lowP at e1
      rw [decide_eq_true h1, decide_eq_false (by omega)] at e1
      cases e1
  · omega
theorem tot_ge {lo hi : Int} {K : List Pt} : ∀ {R : List (List Pt)}, K ∈ R → edgN lo hi K ≤ totE lo hi R
  | M :: R, hK => by
    have e : totE lo hi (M :: R) = edgN lo hi M + totE lo hi R := by unfold totE; rw [List.map_cons, List.sum_cons]
    rcases List.mem_cons.1 hK with rfl | hK
    · omega
    · have h2 : edgN lo hi K ≤ totE lo hi R := tot_ge hK
      omega
theorem count_thru {lo hi : Int} {p a b : Pt} (hp1 : lo ≤ p.2) (hp2 : p.2 < hi) (ha : a.2 ≤ lo ∨ hi ≤ a.2) (hb : b.2 ≤ lo ∨ hi ≤ b.2) (hc : countC p a b = true) : thruE lo hi a b = true := by
  have up : ∀ {x y : Pt}, (x.2 ≤ lo ∨ hi ≤ x.2) → (y.2 ≤ lo ∨ hi ≤ y.2) → upC p x y = true → thruE lo hi x y = true := by
    intro x y hx hy h
    unfold upC at h
    rw [Bool.and_eq_true, Bool.and_eq_true, decide_eq_true_iff, decide_eq_true_iff] at h
    unfold thruE
    rw [decide_eq_true (show min x.2 y.2 ≤ lo by omega), decide_eq_true (show hi ≤ max x.2 y.2 by omega)]; rfl
  unfold countC at hc
  split at hc
  · rw [thru_comm]; exact up hb ha hc
  · exact up ha hb hc
theorem count_flat {p a b : Pt} (h : p.2 < min a.2 b.2 ∨ max a.2 b.2 ≤ p.2) : countC p a b = false := by
  have up : ∀ {x y : Pt}, (p.2 < min x.2 y.2 ∨ max x.2 y.2 ≤ p.2) → upC p x y = false := by
    intro x y h
    unfold upC
    rw [Bool.and_eq_false_iff, Bool.and_eq_false_iff, decide_eq_false_iff_not, decide_eq_false_iff_not]
    omega
  unfold countC
  split
  · exact up (by omega)
  · exact up h
def atH (l : List Int) (y : Int) : Nat := (l.takeWhile fun x => decide (x < y)).length
def insH (l : List Int) (y : Int) : List Int := if l.getD (atH l y) y = y ∧ atH l y < l.length then l else l.take (atH l y) ++ y :: l.drop (atH l y)
def hgtS (ys : List Int) : List Int := ys.foldl insH []
def hgtL (R : List (List Pt)) : List Int := hgtS (R.flatten.map fun p : Pt => p.2)
def AscH (l : List Int) : Prop := l.Pairwise (· < ·)
theorem at_le (l : List Int) (y : Int) : atH l y ≤ l.length := by unfold atH; exact (List.takeWhile_sublist _).length_le
theorem at_take (l : List Int) (y : Int) : ∀ x ∈ l.take (atH l y), x < y := by
  have e : l.take (atH l y) = l.takeWhile fun x => decide (x < y) := by
    have := List.takeWhile_prefix (l := l) (fun x => decide (x < y))
    exact (List.prefix_iff_eq_take.1 this).symm
  intro x hx
  rw [e] at hx
  induction l with
  | nil => cases hx
  | cons z l ih =>
    rw [List.takeWhile_cons] at hx
    split at hx
    · rename_i hz
      rcases List.mem_cons.1 hx with rfl | hx
      · exact of_decide_eq_true hz
      · refine ih ?_ hx
        have := List.takeWhile_prefix (l := l) (fun x => decide (x < y))
        exact (List.prefix_iff_eq_take.1 this).symm
    · cases hx
theorem at_stop (l : List Int) (y : Int) (h : atH l y < l.length) : y ≤ l.getD (atH l y) y := by
  induction l with
  | nil => simp at h
  | cons z l ih =>
    unfold atH at h ⊢
    rw [List.takeWhile_cons] at h ⊢
    by_cases hz : z < y
    · rw [if_pos (by simpa using hz)] at h ⊢
      simp only [List.length_cons, List.getD_cons_succ] at h ⊢
      exact ih (by unfold atH; omega)
    · rw [if_neg (by simpa using hz)]
      simp only [List.length_nil, List.getD_cons_zero]
      omega
theorem at_drop {l : List Int} (ha : AscH l) (y : Int) : ∀ x ∈ l.drop (atH l y), y ≤ x := by
  intro x hx
  obtain ⟨i, hi, rfl⟩ := List.mem_iff_getElem.1 hx
  rw [List.length_drop] at hi
  rw [List.getElem_drop]
  have h1 : atH l y < l.length := by omega
  have h0 := at_stop l y h1
  rw [List.getD_eq_getElem?_getD, List.getElem?_eq_getElem h1] at h0
  have h0' : y ≤ l[atH l y] := h0
  by_cases e : i = 0
  · subst e; simpa using h0'
  · have := (List.pairwise_iff_getElem.1 ha) (atH l y) (atH l y + i) h1 (by omega) (by omega)
    omega
theorem ins_mem {l : List Int} {y x : Int} : x ∈ insH l y ↔ x = y ∨ x ∈ l := by
  unfold insH
  split
  · rename_i h
    constructor
    · exact .inr
    · rintro (rfl | h2)
      · rw [List.getD_eq_getElem?_getD, List.getElem?_eq_getElem h.2] at h
        rw [← show l[atH l x]'h.2 = x from h.1]
        exact List.getElem_mem _
      · exact h2
  · rw [List.mem_append, List.mem_cons]
    constructor
    · rintro (h | h | h)
      · exact .inr (List.mem_of_mem_take h)
      · exact .inl h
      · exact .inr (List.mem_of_mem_drop h)
    · rintro (h | h)
      · exact .inr (.inl h)
      · rw [← List.take_append_drop (atH l y) l, List.mem_append] at h
        rcases h with h | h
        · exact .inl h
        · exact .inr (.inr h)
theorem ins_asc {l : List Int} (ha : AscH l) (y : Int) : AscH (insH l y) := by
  unfold insH
  split
  · exact ha
  · rename_i hn
    have ht := at_take l y
    have hd := at_drop ha y
    have hd2 : ∀ x ∈ l.drop (atH l y), y < x := by
      intro x hx
      have h1 := hd x hx
      by_cases e : x = y
      · exfalso
        subst e
        obtain ⟨i, hi, e⟩ := List.mem_iff_getElem.1 hx
        rw [List.length_drop] at hi
        rw [List.getElem_drop] at e
        have h2 : atH l x < l.length := by omega
        refine hn ⟨?_, h2⟩
        have h0 := at_stop l x h2
        rw [List.getD_eq_getElem?_getD, List.getElem?_eq_getElem h2] at h0 ⊢
        have h0' : x ≤ l[atH l x] := h0
        show l[atH l x] = x
        by_cases e0 : i = 0
        · subst e0; simpa using e
        · have := (List.pairwise_iff_getElem.1 ha) (atH l x) (atH l x + i) h2 (by omega) (by omega)
          omega
      · omega
    have hsp : (l.take (atH l y) ++ l.drop (atH l y)).Pairwise (· < ·) := by rw [List.take_append_drop]; exact ha
    rw [List.pairwise_append] at hsp
    unfold AscH
    rw [List.pairwise_append, List.pairwise_cons]
    refine ⟨hsp.1, ⟨hd2, hsp.2.1⟩, fun a h1 b h2 => ?_⟩
    rcases List.mem_cons.1 h2 with rfl | h2
    · exact ht a h1
    · have := ht a h1
      have := hd2 b h2
      omega
theorem fold_asc : ∀ (ys l : List Int), AscH l → AscH (ys.foldl insH l)
  | [], _, h => h
  | y :: ys, l, h => fold_asc ys _ (ins_asc h y)
theorem fold_mem {x : Int} : ∀ (ys l : List Int), x ∈ ys.foldl insH l ↔ x ∈ ys ∨ x ∈ l
  | [], l => by simp
  | y :: ys, l => by
    rw [List.foldl_cons, fold_mem ys, ins_mem, List.mem_cons]
    constructor
    · rintro (h | h | h)
      · exact .inl (.inr h)
      · exact .inl (.inl h)
      · exact .inr h
    · rintro ((h | h) | h)
      · exact .inr (.inl h)
      · exact .inl h
      · exact .inr (.inr h)
theorem hgt_asc (ys : List Int) : AscH (hgtS ys) := fold_asc ys [] List.Pairwise.nil
theorem hgt_mem {ys : List Int} {x : Int} : x ∈ hgtS ys ↔ x ∈ ys := by unfold hgtS; rw [fold_mem]; simp
theorem asc_one : ∀ {A B : List Int}, AscH A → AscH B → (∀ x, x ∈ A ↔ x ∈ B) → A = B
  | [], [], _, _, _ => rfl
  | [], b :: B, _, _, h => by have := (h b).2 (by simp); cases this
  | a :: A, [], _, _, h => by have := (h a).1 (by simp); cases this
  | a :: A, b :: B, ha, hb, h => by
    have ha' := List.pairwise_cons.1 ha
    have hb' := List.pairwise_cons.1 hb
    have e : a = b := by
      rcases List.mem_cons.1 ((h a).1 (by simp)) with h1 | h1
      · exact h1
      · rcases List.mem_cons.1 ((h b).2 (by simp)) with h2 | h2
        · exact h2.symm
        · have := hb'.1 a h1
          have := ha'.1 b h2
          omega
    subst e
    rw [asc_one ha'.2 hb'.2 fun x => ?_]
    have hx := h x
    constructor
    · intro hA
      rcases List.mem_cons.1 (hx.1 (List.mem_cons_of_mem _ hA)) with h1 | h1
      · subst h1; exact absurd (ha'.1 x hA) (by omega)
      · exact h1
    · intro hB
      rcases List.mem_cons.1 (hx.2 (List.mem_cons_of_mem _ hB)) with h1 | h1
      · subst h1; exact absurd (hb'.1 x hB) (by omega)
      · exact h1
theorem hgt_one {ys l : List Int} (ha : AscH l) (h : ∀ x, x ∈ l ↔ x ∈ ys) : l = hgtS ys := asc_one ha (hgt_asc ys) fun x => (h x).trans hgt_mem.symm
theorem hgt_clear {ys : List Int} {i : Nat} (hi : i + 1 < (hgtS ys).length) : ∀ y ∈ ys, y ≤ (hgtS ys).getD i 0 ∨ (hgtS ys).getD (i + 1) 0 ≤ y := by
  intro y hy
  have hm := hgt_mem.2 hy
  have ha := hgt_asc ys
  generalize hgtS ys = l at *
  obtain ⟨k, hk, rfl⟩ := List.mem_iff_getElem.1 hm
  rw [List.getD_eq_getElem?_getD, List.getElem?_eq_getElem (by omega), List.getD_eq_getElem?_getD, List.getElem?_eq_getElem hi]
  show l[k] ≤ l[i] ∨ l[i + 1] ≤ l[k]
  have hp := List.pairwise_iff_getElem.1 ha
  rcases Nat.lt_trichotomy k i with h | h | h
  · exact .inl (by have := hp k i hk (by omega) h; omega)
  · subst h; exact .inl (by omega)
  · rcases Nat.eq_or_lt_of_le (show i + 1 ≤ k from h) with h | h
    · subst h; exact .inr (by omega)
    · exact .inr (by have := hp (i + 1) k hi hk h; omega)
theorem hgt_up {ys : List Int} {i : Nat} (hi : i + 1 < (hgtS ys).length) : (hgtS ys).getD i 0 < (hgtS ys).getD (i + 1) 0 := by
  rw [List.getD_eq_getElem?_getD, List.getElem?_eq_getElem (by omega), List.getD_eq_getElem?_getD, List.getElem?_eq_getElem hi]
  exact (List.pairwise_iff_getElem.1 (hgt_asc ys)) i (i + 1) (by omega) hi (by omega)
end

section
set_option linter.unusedVariables false
set_option linter.unusedSimpArgs false
open Go.RowKit
theorem cyc_mem {K : List Pt} (h : 0 < K.length) (i : Int) : cyc K i ∈ K := by
  obtain ⟨k, hk, e, _⟩ := cyc_at h i
  rw [e, List.getD_eq_getElem?_getD, List.getElem?_eq_getElem hk]
  exact List.getElem_mem hk
theorem fine_two {K : List Pt} (h : fineQ K) (y : Int) : ∃ b ∈ K, b.2 ≠ y := by
  apply Classical.byContradiction
  intro hn
  have all : ∀ b ∈ K, b.2 = y := fun b hb => Classical.byContradiction fun h2 => hn ⟨b, hb, h2⟩
  have h0 : 0 < K.length := by have := h.few; omega
  have hs := sign_one h
  unfold signF at hs
  rw [if_pos h] at hs
  have e : turnAt K ((leastF K : Nat) : Int) = 0 := by
    unfold turnAt turnC turnF
    rw [all _ (cyc_mem h0 _), all _ (cyc_mem h0 _), all _ (cyc_mem h0 _)]
    split
    · unfold detP sgn
      simp
    · rfl
  rw [e] at hs
  rcases hs with hs | hs <;> cases hs
theorem hgtL_mem {R : List (List Pt)} {y : Int} : y ∈ hgtL R ↔ ∃ K ∈ R, ∃ p ∈ K, p.2 = y := by
  unfold hgtL
  rw [hgt_mem, List.mem_map]
  constructor
  · rintro ⟨p, hp, e⟩
    obtain ⟨K, hK, hp⟩ := List.mem_flatten.1 hp
    exact ⟨K, hK, p, hp, e⟩
  · rintro ⟨K, hK, p, hp, e⟩
    exact ⟨p, List.mem_flatten.2 ⟨K, hK, hp⟩, e⟩
theorem hgtL_clear {R : List (List Pt)} {i : Nat} (hi : i + 1 < (hgtL R).length) : ∀ K ∈ R, clearH ((hgtL R).getD i 0) ((hgtL R).getD (i + 1) 0) K := fun K hK a ha =>
  @hgt_clear (R.flatten.map fun p : Pt => p.2) i hi a.2 (List.mem_map.2 ⟨a, List.mem_flatten.2 ⟨K, hK, ha⟩, rfl⟩)
theorem hgtL_up {R : List (List Pt)} {i : Nat} (hi : i + 1 < (hgtL R).length) : (hgtL R).getD i 0 < (hgtL R).getD (i + 1) 0 := hgt_up hi
theorem asc_first {l : List Int} (ha : AscH l) : ∀ x ∈ l, l.getD 0 0 ≤ x := fun x hx => by
  obtain ⟨k, hk, rfl⟩ := List.mem_iff_getElem.1 hx
  rw [List.getD_eq_getElem?_getD, List.getElem?_eq_getElem (by omega)]
  show l[0] ≤ l[k]
  by_cases e : k = 0
  · subst e; omega
  · have := (List.pairwise_iff_getElem.1 ha) 0 k (by omega) hk (by omega)
    omega
theorem asc_last {l : List Int} (ha : AscH l) : ∀ x ∈ l, x ≤ l.getD (l.length - 1) 0 := fun x hx => by
  obtain ⟨k, hk, rfl⟩ := List.mem_iff_getElem.1 hx
  rw [List.getD_eq_getElem?_getD, List.getElem?_eq_getElem (by omega)]
  show l[k] ≤ l[l.length - 1]
  by_cases e : k = l.length - 1
  · subst e; omega
  · have := (List.pairwise_iff_getElem.1 ha) k (l.length - 1) hk (by omega) (by omega)
    omega
theorem getD_memI {l : List Int} {k : Nat} (h : k < l.length) : l.getD k 0 ∈ l := by
  rw [List.getD_eq_getElem?_getD, List.getElem?_eq_getElem h]; exact List.getElem_mem h
theorem hgtL_len {R : List (List Pt)} (h : regFine R) : 2 ≤ (hgtL R).length := by
  have h0 := h.few
  have hK := h.each _ (List.getElem_mem h0)
  have h3 := hK.few
  have m1 : (R[0][0]).2 ∈ hgtL R := hgtL_mem.2 ⟨R[0], List.getElem_mem h0, R[0][0], List.getElem_mem (by omega), rfl⟩
  obtain ⟨b, hb, hne⟩ := fine_two hK (R[0][0]).2
  have m2 : b.2 ∈ hgtL R := hgtL_mem.2 ⟨R[0], List.getElem_mem h0, b, hb, rfl⟩
  generalize hgtL R = l at *
  match l, m1, m2 with
  | [x], m1, m2 =>
    rw [List.mem_singleton] at m1 m2
    exact absurd (m2.trans m1.symm) hne
  | x :: y :: l, _, _ => simp
theorem tot_edge {R : List (List Pt)} (h : regFine R) {i : Nat} (hi : i + 1 < (hgtL R).length) (he : i = 0 ∨ i + 2 = (hgtL R).length) : 2 ≤ totE ((hgtL R).getD i 0) ((hgtL R).getD (i + 1) 0) R := by
  have hcl := hgtL_clear hi
  have hup := hgtL_up hi
  have ha : AscH (hgtL R) := hgt_asc _
  have key : ∃ K ∈ R, (∃ a ∈ K, a.2 ≤ (hgtL R).getD i 0) ∧ ∃ b ∈ K, (hgtL R).getD (i + 1) 0 ≤ b.2 := by
    rcases he with rfl | he
    · obtain ⟨K, hK, a, ha1, ha2⟩ := hgtL_mem.1 (getD_memI (l := hgtL R) (k := 0) (by omega))
      obtain ⟨b, hb, hne⟩ := fine_two (h.each K hK) ((hgtL R).getD 0 0)
      refine ⟨K, hK, ⟨a, ha1, by omega⟩, b, hb, ?_⟩
      have h1 := asc_first ha b.2 (hgtL_mem.2 ⟨K, hK, b, hb, rfl⟩)
      rcases hcl K hK b hb with h2 | h2
      · omega
      · exact h2
    · obtain ⟨K, hK, b, hb1, hb2⟩ := hgtL_mem.1 (getD_memI (l := hgtL R) (k := i + 1) hi)
      obtain ⟨a, ha1, hne⟩ := fine_two (h.each K hK) ((hgtL R).getD (i + 1) 0)
      refine ⟨K, hK, ⟨a, ha1, ?_⟩, b, hb1, by omega⟩
      have h1 := asc_last ha a.2 (hgtL_mem.2 ⟨K, hK, a, ha1, rfl⟩)
      rw [show (hgtL R).length - 1 = i + 1 by omega] at h1
      rcases hcl K hK a ha1 with h2 | h2
      · exact h2
      · omega
  obtain ⟨K, hK, ⟨a, ha1, ha2⟩, b, hb1, hb2⟩ := key
  exact Nat.le_trans (edg_two hup (hcl K hK) ha1 hb1 ha2 hb2) (tot_ge hK)
theorem flat_pos {R : List (List Pt)} (h : regFine R) : 0 < R.flatten.length := by
  have h0 := h.few
  have h3 := (h.each _ (List.getElem_mem h0)).few
  have : R[0][0] ∈ R.flatten := List.mem_flatten.2 ⟨R[0], List.getElem_mem h0, List.getElem_mem (by omega)⟩
  exact List.length_pos_of_mem this
def crossR (p : Pt) (R : List (List Pt)) : Nat := (R.map (crossN p)).sum
theorem reg_cross (p : Pt) : ∀ R : List (List Pt), regQ p R = decide (crossR p R % 2 = 1)
  | [] => rfl
  | K :: R => by
    have ih := reg_cross p R
    have e : regQ p (K :: R) = (regQ p R != inQ p K) := by
      rw [← reg_app]
      exact regQ_perm (List.perm_append_singleton K R).symm
    rw [e, ih]
    unfold crossR inQ
    rw [List.map_cons, List.sum_cons]
    rcases Nat.mod_two_eq_zero_or_one (R.map (crossN p)).sum with h1 | h1 <;> rcases Nat.mod_two_eq_zero_or_one (crossN p K) with h2 | h2 <;> simp [Nat.add_mod, h1, h2]
theorem crossR_flat {p : Pt} {R : List (List Pt)} (h : ∀ K ∈ R, ∀ a ∈ K, ∀ b ∈ K, countC p a b = false) : crossR p R = 0 := by
  unfold crossR
  induction R with
  | nil => rfl
  | cons K R ih =>
    rw [List.map_cons, List.sum_cons, cross_zero0 (h K (by simp)), ih fun M hM => h M (List.mem_cons_of_mem _ hM)]
theorem crossR_out {p : Pt} {R : List (List Pt)} (h : p.2 < (hgtL R).getD 0 0 ∨ (hgtL R).getD ((hgtL R).length - 1) 0 ≤ p.2) : crossR p R = 0 :=
  crossR_flat fun K hK a ha b hb => by
    have a1 := asc_first (hgt_asc _) _ (hgtL_mem.2 ⟨K, hK, a, ha, rfl⟩)
    have a2 := asc_last (hgt_asc _) _ (hgtL_mem.2 ⟨K, hK, a, ha, rfl⟩)
    have b1 := asc_first (hgt_asc _) _ (hgtL_mem.2 ⟨K, hK, b, hb, rfl⟩)
    have b2 := asc_last (hgt_asc _) _ (hgtL_mem.2 ⟨K, hK, b, hb, rfl⟩)
    unfold hgtL at h
    exact count_flat (by omega)
end

section
set_option linter.unusedVariables false
set_option linter.unusedSimpArgs false
open Go.RowKit
def edgK (lo hi : Int) (K : List Pt) : Nat → Nat
  | 0 => 0
  | k + 1 => edgK lo hi K k + oneN (thruE lo hi (K.getD k (0, 0)) (K.getD ((k + 1) % K.length) (0, 0)))
def totK (lo hi : Int) (R : List (List Pt)) : Nat → Nat
  | 0 => 0
  | i + 1 => totK lo hi R i + edgN lo hi (R.getD i [])
def crosK (p : Pt) (R : List (List Pt)) : Nat → Nat
  | 0 => 0
  | i + 1 => crosK p R i + crossN p (R.getD i [])
def turnF2 (b : Int) (K : List Pt) : List Pt := rotF K.reverse (-b)
end

section
set_option linter.unusedVariables false
set_option linter.unusedSimpArgs false
open Go.RowKit
def newE (a b : Pt) : Bx := if 0 < cmpC a b then (b.1, b.2, a.1, a.2) else (a.1, a.2, b.1, b.2)
def fillsE (lo hi : Int) (e : Bx) : Bool := decide (e.2.1 ≤ lo) && decide (hi ≤ e.2.2.2)
def turnsE (p : Pt) (e : Bx) : Bool := decide (turnF e.1 e.2.1 e.2.2.1 e.2.2.2 p.1 p.2 = 1)
theorem newE_y (a b : Pt) : (newE a b).2.1 = min a.2 b.2 ∧ (newE a b).2.2.2 = max a.2 b.2 := by
  unfold newE cmpC cmpF
  by_cases h1 : a.2 < b.2 ∨ (a.2 = b.2 ∧ a.1 < b.1)
  · rw [if_pos h1, if_neg (by decide)]
    exact ⟨by show a.2 = _; omega, by show b.2 = _; omega⟩
  · rw [if_neg h1]
    by_cases h2 : a.1 = b.1 ∧ a.2 = b.2
    · rw [if_pos h2, if_neg (by decide)]
      exact ⟨by show a.2 = _; omega, by show b.2 = _; omega⟩
    · rw [if_neg h2, if_pos (by decide)]
      exact ⟨by show b.2 = _; omega, by show a.2 = _; omega⟩
theorem newE_lt {a b : Pt} (h : a.2 < b.2) : newE a b = (a.1, a.2, b.1, b.2) := by
  unfold newE cmpC cmpF
  rw [if_pos (show a.2 < b.2 ∨ (a.2 = b.2 ∧ a.1 < b.1) from .inl h), if_neg (by decide)]
theorem newE_gt {a b : Pt} (h : b.2 < a.2) : newE a b = (b.1, b.2, a.1, a.2) := by
  unfold newE cmpC cmpF
  rw [if_neg (show ¬ (a.2 < b.2 ∨ (a.2 = b.2 ∧ a.1 < b.1)) by omega), if_neg (show ¬ (a.1 = b.1 ∧ a.2 = b.2) by omega), if_pos (by decide)]
theorem fills_new (lo hi : Int) (a b : Pt) : fillsE lo hi (newE a b) = thruE lo hi a b := by
  unfold fillsE thruE
  rw [(newE_y a b).1, (newE_y a b).2]
theorem count_new {lo hi : Int} {p a b : Pt} (hp1 : lo ≤ p.2) (hp2 : p.2 < hi) (ha : a.2 ≤ lo ∨ hi ≤ a.2) (hb : b.2 ≤ lo ∨ hi ≤ b.2) : (fillsE lo hi (newE a b) && turnsE p (newE a b)) = countC p a b := by
  rw [fills_new]
  by_cases ht : thruE lo hi a b = true
  · rw [ht, Bool.true_and]
    have hd : min a.2 b.2 ≤ lo ∧ hi ≤ max a.2 b.2 := by
      unfold thruE at ht
      rw [Bool.and_eq_true, decide_eq_true_iff, decide_eq_true_iff] at ht
      exact ht
    unfold countC
    by_cases h1 : b.2 < a.2
    · rw [newE_gt h1, if_pos h1]
      unfold turnsE upC turnC
      rw [decide_eq_true (show b.2 ≤ p.2 by omega), decide_eq_true (show p.2 < a.2 by omega)]
      rfl
    · rw [newE_lt (show a.2 < b.2 by omega), if_neg h1]
      unfold turnsE upC turnC
      rw [decide_eq_true (show a.2 ≤ p.2 by omega), decide_eq_true (show p.2 < b.2 by omega)]
      rfl
  · have h2 : countC p a b = false := by
      cases hc : countC p a b with
      | false => rfl
      | true => exact absurd (count_thru hp1 hp2 ha hb hc) ht
    rw [Bool.not_eq_true] at ht
    rw [ht, h2]; rfl
def ringE (z : Pt) : List Pt → List Bx
  | [] => []
  | p :: L => newE z p :: ringE p L
theorem ringE_len : ∀ (z : Pt) (L : List Pt), (ringE z L).length = L.length
  | _, [] => rfl
  | z, p :: L => by show (ringE p L).length + 1 = L.length + 1; rw [ringE_len p L]
def befE (z : Pt) (K : List Pt) : Nat → Pt
  | 0 => z
  | k + 1 => K.getD k (0, 0)
theorem ringE_get : ∀ (z : Pt) (L : List Pt) (k : Nat), k < L.length → (ringE z L).getD k (0, 0, 0, 0) = newE (befE z L k) (L.getD k (0, 0))
  | z, [], k, h => by cases h
  | z, p :: L, 0, h => rfl
  | z, p :: L, k + 1, h => by
    show (ringE p L).getD k (0, 0, 0, 0) = newE ((p :: L).getD k (0, 0)) (L.getD k (0, 0))
    rw [ringE_get p L k (by simpa using h)]
    cases k with
    | zero => rfl
    | succ k => rfl
theorem ringE_step (z : Pt) (L : List Pt) {k : Nat} (h : k < L.length) : (ringE z L).take (k + 1) = (ringE z L).take k ++ [newE (befE z L k) (L.getD k (0, 0))] := by
  have hl : k < (ringE z L).length := by rw [ringE_len]; exact h
  rw [List.take_succ_eq_append_getElem hl, ← ringE_get z L k h, List.getD_eq_getElem?_getD, List.getElem?_eq_getElem hl]
  rfl
theorem ringE_path (g : Bx → Bool) (f : List Pt → Nat) (f1 : ∀ z, f [z] = 0) (u : Pt → Pt → Bool) (f2 : ∀ a b L, f (a :: b :: L) = oneN (u a b) + f (b :: L)) : ∀ (z : Pt) (L : List Pt), (∀ a ∈ z :: L, ∀ b ∈ z :: L, g (newE a b) = u a b) → ((ringE z L).filter g).length = f (z :: L)
  | z, [], _ => by rw [f1]; rfl
  | z, p :: L, h => by
    have ih := ringE_path g f f1 u f2 p L fun a ha b hb => h a (List.mem_cons_of_mem _ ha) b (List.mem_cons_of_mem _ hb)
    have h0 := h z (by simp) p (by simp)
    show ((newE z p :: ringE p L).filter g).length = f (z :: p :: L)
    rw [f2, ← ih, ← h0]
    cases hg : g (newE z p) with
    | true => rw [List.filter_cons_of_pos hg, List.length_cons]; unfold oneN; simp; omega
    | false => rw [List.filter_cons_of_neg (by simp [hg])]; unfold oneN; simp
def edgeE (K : List Pt) : List Bx := ringE (K.getD (K.length - 1) (0, 0)) K
theorem edgeE_len (K : List Pt) : (edgeE K).length = K.length := ringE_len _ _
theorem last_app (A : List Pt) (z : Pt) : (A ++ [z]).getD ((A ++ [z]).length - 1) (0, 0) = z := by
  rw [List.length_append, show A.length + [z].length - 1 = A.length from rfl, List.getD_eq_getElem?_getD, List.getElem?_append_right (Nat.le_refl _)]; simp
theorem list_last {K : List Pt} (h : 0 < K.length) : ∃ A z, K = A ++ [z] := by
  have hn : K ≠ [] := fun e => by rw [e] at h; cases h
  exact ⟨K.dropLast, K.getLast hn, (List.dropLast_concat_getLast hn).symm⟩
theorem edgeE_fills (lo hi : Int) {K : List Pt} (h : 0 < K.length) : ((edgeE K).filter (fillsE lo hi)).length = edgN lo hi K := by
  obtain ⟨A, z, rfl⟩ := list_last h
  unfold edgeE
  rw [last_app, ringE_path (fillsE lo hi) (pathE lo hi) (fun _ => rfl) (thruE lo hi) (fun _ _ _ => rfl) z _ fun a _ b _ => fills_new lo hi a b, edg_parts]
  rfl
theorem edgeE_count {lo hi : Int} {p : Pt} {K : List Pt} (h : 0 < K.length) (hp1 : lo ≤ p.2) (hp2 : p.2 < hi) (hc : clearH lo hi K) : ((edgeE K).filter fun e => fillsE lo hi e && turnsE p e).length = crossN p K := by
  obtain ⟨A, z, rfl⟩ := list_last h
  have hm : ∀ a ∈ z :: (A ++ [z]), a.2 ≤ lo ∨ hi ≤ a.2 := fun a ha => by
    rcases List.mem_cons.1 ha with rfl | ha
    · exact hc a (by simp)
    · exact hc a ha
  unfold edgeE
  rw [last_app, ringE_path (fun e => fillsE lo hi e && turnsE p e) (pathN p) (fun _ => rfl) (countC p) (fun _ _ _ => rfl) z _ fun a ha b hb => count_new hp1 hp2 (hm a ha) (hm b hb), cross_swap_parts]
  rfl
def allE (R : List (List Pt)) : List Bx := (R.map edgeE).flatten
def prtE (lo hi : Int) (E : List Bx) : List Bx := E.filter (fillsE lo hi)
theorem allE_len : ∀ R : List (List Pt), (allE R).length = allN R
  | [] => rfl
  | K :: R => by
    have := allE_len R
    unfold allE allN at this ⊢
    rw [List.map_cons, List.flatten_cons, List.length_append, this, List.map_cons, List.sum_cons, edgeE_len]
theorem allE_step {R : List (List Pt)} {i : Nat} (h : i < R.length) : allE (R.take (i + 1)) = allE (R.take i) ++ edgeE (R.getD i []) := by
  unfold allE
  rw [List.take_succ_eq_append_getElem h, List.map_append, List.flatten_append, List.getD_eq_getElem?_getD, List.getElem?_eq_getElem h]
  simp
theorem prt_tot (lo hi : Int) : ∀ {R : List (List Pt)}, (∀ K ∈ R, 0 < K.length) → (prtE lo hi (allE R)).length = totE lo hi R
  | [], _ => rfl
  | K :: R, h => by
    have ih := prt_tot lo hi (R := R) fun M hM => h M (List.mem_cons_of_mem _ hM)
    have e := edgeE_fills lo hi (h K (by simp))
    unfold prtE allE totE at ih ⊢
    rw [List.map_cons, List.flatten_cons, List.filter_append, List.length_append, ih, e, List.map_cons, List.sum_cons]
theorem prt_cross {lo hi : Int} {p : Pt} (hp1 : lo ≤ p.2) (hp2 : p.2 < hi) : ∀ {R : List (List Pt)}, (∀ K ∈ R, 0 < K.length ∧ clearH lo hi K) → ((prtE lo hi (allE R)).filter (turnsE p)).length = crossR p R
  | [], _ => rfl
  | K :: R, h => by
    have ih := prt_cross hp1 hp2 (R := R) fun M hM => h M (List.mem_cons_of_mem _ hM)
    have e := edgeE_count (h K (by simp)).1 hp1 hp2 (h K (by simp)).2
    unfold prtE allE crossR at ih ⊢
    rw [List.filter_filter] at ih ⊢
    have hf : (fun e => turnsE p e && fillsE lo hi e) = fun e => fillsE lo hi e && turnsE p e := funext fun e => Bool.and_comm _ _
    rw [hf] at ih ⊢
    rw [List.map_cons, List.flatten_cons, List.filter_append, List.length_append, ih, e, List.map_cons, List.sum_cons]
theorem prt_le (lo hi : Int) (E : List Bx) : (prtE lo hi E).length ≤ E.length := List.length_filter_le _ _
def slabE (R : List (List Pt)) (i : Nat) : List Bx := prtE ((hgtL R).getD i 0) ((hgtL R).getD (i + 1) 0) (allE R)
def slabN (R : List (List Pt)) (i : Nat) : Nat := totE ((hgtL R).getD i 0) ((hgtL R).getD (i + 1) 0) R
theorem slab_len {R : List (List Pt)} (h : ∀ K ∈ R, 0 < K.length) (i : Nat) : (slabE R i).length = slabN R i := prt_tot _ _ h
theorem slab_cross {R : List (List Pt)} (h : ∀ K ∈ R, 0 < K.length) {p : Pt} {i : Nat} (hi : i + 1 < (hgtL R).length) (hp1 : (hgtL R).getD i 0 ≤ p.2) (hp2 : p.2 < (hgtL R).getD (i + 1) 0) : ((slabE R i).filter (turnsE p)).length = crossR p R :=
  prt_cross hp1 hp2 fun K hK => ⟨h K hK, hgtL_clear hi K hK⟩
theorem slab_le (R : List (List Pt)) (i : Nat) : (slabE R i).length ≤ allN R := by
  rw [← allE_len]; exact prt_le _ _ _
def mostK (R : List (List Pt)) : Nat → Nat
  | 0 => 0
  | k + 1 => max (mostK R k) (slabN R k)
theorem most_le (R : List (List Pt)) (h : ∀ K ∈ R, 0 < K.length) : ∀ k, mostK R k ≤ allN R
  | 0 => Nat.zero_le _
  | k + 1 => by
    have h1 := most_le R h k
    have h2 := slab_le R k
    rw [slab_len h] at h2
    unfold mostK
    omega
def offE (R : List (List Pt)) : Nat → Nat
  | 0 => 0
  | k + 1 => offE R k + (slabE R k).length
theorem off_le (R : List (List Pt)) : ∀ k, offE R k ≤ k * allN R
  | 0 => by simp [offE]
  | k + 1 => by
    have h1 := off_le R k
    have h2 := slab_le R k
    rw [Nat.succ_mul]
    unfold offE
    omega
theorem off_up (R : List (List Pt)) {i : Nat} : ∀ {k : Nat}, i ≤ k → offE R i ≤ offE R k
  | 0, h => by obtain rfl : i = 0 := by omega
               exact Nat.le_refl _
  | k + 1, h => by
    by_cases e : i = k + 1
    · subst e; exact Nat.le_refl _
    · have := off_up R (i := i) (k := k) (by omega)
      show offE R i ≤ offE R k + (slabE R k).length
      omega
def rowE (R : List (List Pt)) : Nat → List Bx
  | 0 => []
  | k + 1 => rowE R k ++ slabE R k
theorem row_len (R : List (List Pt)) : ∀ k, (rowE R k).length = offE R k
  | 0 => rfl
  | k + 1 => by unfold rowE offE; rw [List.length_append, row_len R k]
theorem row_more (R : List (List Pt)) {i : Nat} : ∀ {k : Nat}, i ≤ k → ∃ M, rowE R k = rowE R i ++ M
  | 0, h => by obtain rfl : i = 0 := by omega
               exact ⟨[], by simp⟩
  | k + 1, h => by
    by_cases e : i = k + 1
    · subst e; exact ⟨[], by simp⟩
    · obtain ⟨M, hM⟩ := row_more R (i := i) (k := k) (by omega)
      exact ⟨M ++ slabE R k, by rw [← List.append_assoc, ← hM]; rfl⟩
theorem row_get (R : List (List Pt)) {i k j : Nat} (hi : i < k) (hj : j < (slabE R i).length) : (rowE R k).getD (offE R i + j) (0, 0, 0, 0) = (slabE R i).getD j (0, 0, 0, 0) := by
  obtain ⟨M, hM⟩ := row_more R (i := i + 1) (k := k) (by omega)
  rw [hM, show rowE R (i + 1) = rowE R i ++ slabE R i from rfl, List.append_assoc, List.getD_eq_getElem?_getD, List.getElem?_append_right (by rw [row_len]; omega), row_len, Nat.add_sub_cancel_left, List.getElem?_append_left hj, List.getD_eq_getElem?_getD]
def plcH (l : List Int) (y : Int) : Int := if l.contains y then ((l.countP (· < y) : Nat) : Int) else ((l.countP (· < y) : Nat) : Int) - 1
theorem count_get {l : List Int} (ha : AscH l) {y : Int} {i : Nat} (hi : i < l.length) : i < l.countP (· < y) ↔ l.getD i 0 < y := by
  induction l generalizing i with
  | nil => cases hi
  | cons z l ih =>
    have ha' := List.pairwise_cons.1 ha
    rw [List.countP_cons]
    cases i with
    | zero =>
      show 0 < l.countP (· < y) + (if decide (z < y) = true then 1 else 0) ↔ z < y
      by_cases hz : z < y
      · simp [hz]
      · have h0 : l.countP (· < y) = 0 := by
          rw [List.countP_eq_zero]
          intro x hx
          have := ha'.1 x hx
          simp; omega
        simp [hz, h0]
    | succ i =>
      have hi' : i < l.length := by simpa using hi
      have h1 := ih ha'.2 hi'
      show i + 1 < l.countP (· < y) + (if decide (z < y) = true then 1 else 0) ↔ l.getD i 0 < y
      by_cases hz : z < y
      · simp only [hz, decide_true, if_true]; rw [← h1]; omega
      · have hg : ¬ l.getD i 0 < y := by
          have := ha'.1 (l.getD i 0) (getD_memI hi')
          omega
        have h2 : ¬ i < l.countP (· < y) := fun h => hg (h1.1 h)
        simp only [hz, decide_false, hg, iff_false]
        simp; omega
theorem contains_at {l : List Int} (ha : AscH l) {y : Int} (hc : l.contains y = true) : l.countP (· < y) < l.length ∧ l.getD (l.countP (· < y)) 0 = y := by
  have hm : y ∈ l := by simpa using hc
  obtain ⟨k, hk, e⟩ := List.mem_iff_getElem.1 hm
  have hg : ∀ {i : Nat} (h : i < l.length), l.getD i 0 = l[i] := fun h => by rw [List.getD_eq_getElem?_getD, List.getElem?_eq_getElem h]; rfl
  have e1 : ¬ k < l.countP (· < y) := by rw [count_get ha hk, hg hk]; omega
  have e2 : ¬ l.countP (· < y) < k := fun h => by
    have h3 : l.countP (· < y) < l.length := by omega
    have h4 : l.getD (l.countP (· < y)) 0 < l.getD k 0 := by
      rw [hg h3, hg hk]
      exact (List.pairwise_iff_getElem.1 ha) _ _ h3 hk h
    rw [hg hk, e] at h4
    have := (count_get ha h3).2 h4
    omega
  have e3 : l.countP (· < y) = k := by omega
  rw [e3]
  exact ⟨hk, by rw [hg hk]; exact e⟩
theorem plc_tells {l : List Int} (ha : AscH l) (y : Int) : (plcH l y < 0 → y < l.getD 0 0 ∨ l.length = 0) ∧ (∀ i : Nat, plcH l y = (i : Int) → i < l.length ∧ l.getD i 0 ≤ y ∧ (i + 1 < l.length → y < l.getD (i + 1) 0)) := by
  have hle : l.countP (· < y) ≤ l.length := List.countP_le_length
  unfold plcH
  cases hc : l.contains y with
  | true =>
    obtain ⟨h1, h2⟩ := contains_at ha hc
    simp only [if_true]
    refine ⟨fun h => by omega, fun i h => ?_⟩
    obtain rfl : l.countP (· < y) = i := by omega
    refine ⟨h1, by omega, fun h3 => ?_⟩
    have hn : ¬ l.getD (l.countP (· < y) + 1) 0 < y := fun h4 => by have := (count_get ha h3).2 h4; omega
    by_cases e : l.getD (l.countP (· < y) + 1) 0 = y
    · exfalso
      have hg : ∀ {i : Nat} (h : i < l.length), l.getD i 0 = l[i] := fun h => by rw [List.getD_eq_getElem?_getD, List.getElem?_eq_getElem h]; rfl
      have := (List.pairwise_iff_getElem.1 ha) _ _ h1 h3 (Nat.lt_succ_self _)
      rw [← hg h1, ← hg h3] at this
      omega
    · omega
  | false =>
    have hno : ∀ i (h : i < l.length), l.getD i 0 ≠ y := fun i h e => by
      have : l.contains y = true := by simpa using e ▸ getD_memI h
      rw [hc] at this; cases this
    simp only [Bool.false_eq_true, if_false]
    refine ⟨fun h => ?_, fun i h => ?_⟩
    · by_cases h0 : l.length = 0
      · exact .inr h0
      · left
        have h1 : 0 < l.length := by omega
        have h2 : ¬ l.getD 0 0 < y := fun h3 => by have := (count_get ha h1).2 h3; omega
        have := hno 0 h1
        omega
    · have h1 : i < l.countP (· < y) := by omega
      have h2 : i < l.length := by omega
      refine ⟨h2, by have := (count_get ha h2).1 h1; omega, fun h3 => ?_⟩
      have h4 : ¬ l.getD (i + 1) 0 < y := fun h5 => by have := (count_get ha h3).2 h5; omega
      have := hno (i + 1) h3
      omega
def atE (R : List (List Pt)) (y : Int) : List Bx := if 0 ≤ plcH (hgtL R) y ∧ plcH (hgtL R) y + 1 < (hgtL R).length then slabE R (plcH (hgtL R) y).toNat else []
theorem at_cross {R : List (List Pt)} (h : ∀ K ∈ R, 0 < K.length) (h2 : 2 ≤ (hgtL R).length) (p : Pt) : ((atE R p.2).filter (turnsE p)).length = crossR p R := by
  obtain ⟨t1, t2⟩ := plc_tells (hgt_asc (R.flatten.map fun p : Pt => p.2)) p.2
  change (plcH (hgtL R) p.2 < 0 → p.2 < (hgtL R).getD 0 0 ∨ (hgtL R).length = 0) at t1
  change ∀ i : Nat, plcH (hgtL R) p.2 = (i : Int) → i < (hgtL R).length ∧ (hgtL R).getD i 0 ≤ p.2 ∧ (i + 1 < (hgtL R).length → p.2 < (hgtL R).getD (i + 1) 0) at t2
  unfold atE
  by_cases h0 : 0 ≤ plcH (hgtL R) p.2
  · obtain ⟨i, hi⟩ : ∃ i : Nat, plcH (hgtL R) p.2 = (i : Int) := ⟨_, (Int.toNat_of_nonneg h0).symm⟩
    obtain ⟨s1, s2, s3⟩ := t2 i hi
    rw [hi]
    by_cases h3 : i + 1 < (hgtL R).length
    · rw [if_pos ⟨by omega, by omega⟩, Int.toNat_natCast]
      exact slab_cross h h3 s2 (s3 h3)
    · rw [if_neg (by omega)]
      obtain rfl : i = (hgtL R).length - 1 := by omega
      rw [crossR_out (.inr s2)]; rfl
  · rw [if_neg (by omega)]
    rcases t1 (by omega) with h1 | h1
    · rw [crossR_out (.inl h1)]; rfl
    · omega
end

section
set_option linter.unusedVariables false
set_option linter.unusedSimpArgs false
open Go.RowKit
def byF (z : Int) (K : List Pt) : List Pt := turnF2 (z % (K.length : Int)) K
def rotR (s : Nat) (R : List (List Pt)) : List (List Pt) := (List.range R.length).map fun i => R.getD ((i + s) % R.length) []
def abtR (z : Int) (s : Nat) (R : List (List Pt)) : List (List Pt) := (rotR s R).map (byF z)
end
end Go.Proofs.YthphdiigjimchaaGreat

/- Slabs: mathematics: which edges go through a slab, that they are even in number; the heights. Slabs: mathematics of a region: its heights, its lowest and highest slab, what counts. Slabs: mathematics: an edge after another; a region whose rings are turned about. Slabs: mathematics: a region's edges as they lie, those of a slab, where a point counts, which slab has a height. Slabs: mathematics of a region whose rings are turned about, and begin with another. -/
import Derived.Test.YtegliapkbapigaaGreatRiMath
import Derived.Test.YtegliapkbapigaaGreatPtTwo
import Derived.Test.YtegliapkbapigaaGreatBtAll
namespace Go.Proofs.YtegliapkbapigaaGreat
section
set_option linter.unusedVariables false
set_option linter.unusedSimpArgs false
open Go.RowKit

/-- Does an edge go through a slab? -/
def thruE (lo hi : Int) (a b : Pt) : Bool := decide (min a.2 b.2 ≤ lo) && decide (hi ≤ max a.2 b.2)
/-- No point strictly between. -/
def clearH (lo hi : Int) (K : List Pt) : Prop := ∀ a ∈ K, a.2 ≤ lo ∨ hi ≤ a.2
def lowP (lo : Int) (a : Pt) : Bool := decide (a.2 ≤ lo)
theorem thru_comm (lo hi : Int) (a b : Pt) : thruE lo hi b a = thruE lo hi a b := by
  unfold thruE; rw [Int.min_comm, Int.max_comm]
theorem thru_low {lo hi : Int} (h : lo < hi) {a b : Pt} (ha : a.2 ≤ lo ∨ hi ≤ a.2) (hb : b.2 ≤ lo ∨ hi ≤ b.2) : thruE lo hi a b = (lowP lo a != lowP lo b) := by
  unfold thruE lowP
  by_cases h1 : a.2 ≤ lo <;> by_cases h2 : b.2 ≤ lo
  · rw [decide_eq_true h1, decide_eq_true h2, decide_eq_true (show min a.2 b.2 ≤ lo by omega), decide_eq_false (show ¬ hi ≤ max a.2 b.2 by omega)]; rfl
  · rw [decide_eq_true h1, decide_eq_false h2, decide_eq_true (show min a.2 b.2 ≤ lo by omega), decide_eq_true (show hi ≤ max a.2 b.2 by omega)]; rfl
  · rw [decide_eq_false h1, decide_eq_true h2, decide_eq_true (show min a.2 b.2 ≤ lo by omega), decide_eq_true (show hi ≤ max a.2 b.2 by omega)]; rfl
  · rw [decide_eq_false h1, decide_eq_false h2, decide_eq_false (show ¬ min a.2 b.2 ≤ lo by omega)]; rfl
/-- How many edges of a way go through. -/
def pathE (lo hi : Int) : List Pt → Nat
  | [] => 0
  | [_] => 0
  | a :: b :: L => oneN (thruE lo hi a b) + pathE lo hi (b :: L)
theorem pathE_join (lo hi : Int) (m : Pt) : ∀ (A B : List Pt), pathE lo hi (A ++ m :: B) = pathE lo hi (A ++ [m]) + pathE lo hi (m :: B)
  | [], B => by simp [pathE]
  | [a], B => by simp [pathE]
  | a :: b :: A, B => by
    have := pathE_join lo hi m (b :: A) B
    simp only [List.cons_append, pathE] at this ⊢
    omega
theorem pathE_rev (lo hi : Int) : ∀ L : List Pt, pathE lo hi L.reverse = pathE lo hi L
  | [] => rfl
  | [a] => rfl
  | a :: b :: L => by
    have ih := pathE_rev lo hi (b :: L)
    rw [List.reverse_cons, List.reverse_cons, List.append_assoc]
    rw [show [b] ++ [a] = b :: [a] from rfl, pathE_join, ← List.reverse_cons, ih]
    simp only [pathE]
    rw [thru_comm]
    omega
/-- How many edges of a list go through. -/
def edgN (lo hi : Int) : List Pt → Nat
  | [] => 0
  | a :: L => pathE lo hi (a :: L ++ [a])
def totE (lo hi : Int) (R : List (List Pt)) : Nat := (R.map (edgN lo hi)).sum
theorem edg_parts (lo hi : Int) : ∀ A B : List Pt, edgN lo hi (A ++ B) = edgN lo hi (B ++ A)
  | [], B => by simp
  | a :: A, [] => by simp
  | a :: A, b :: B => by
    show pathE lo hi (a :: A ++ b :: B ++ [a]) = pathE lo hi (b :: B ++ a :: A ++ [b])
    rw [show a :: A ++ b :: B ++ [a] = (a :: A) ++ b :: (B ++ [a]) by simp, show b :: B ++ a :: A ++ [b] = (b :: B) ++ a :: (A ++ [b]) by simp, pathE_join lo hi b (a :: A), pathE_join lo hi a (b :: B), Nat.add_comm]
    rfl
theorem edg_rev (lo hi : Int) (K : List Pt) : edgN lo hi K.reverse = edgN lo hi K := by
  cases K with
  | nil => rfl
  | cons a L =>
    rw [List.reverse_cons, edg_parts]
    show pathE lo hi (a :: L.reverse ++ [a]) = pathE lo hi (a :: L ++ [a])
    rw [← pathE_rev lo hi (a :: L ++ [a])]
    simp
theorem edg_rot (lo hi : Int) (K : List Pt) (k : Nat) (hk : k ≤ K.length) : edgN lo hi (rotF K (k : Int)) = edgN lo hi K := by
  rw [rot_dt K k hk, edg_parts, List.take_append_drop]
/-- A way's edges through are odd in number just if its ends lie on different sides. -/
theorem pathE_odd {lo hi : Int} (h : lo < hi) : ∀ (L : List Pt) (a z : Pt), clearH lo hi (a :: L ++ [z]) → pathE lo hi (a :: L ++ [z]) % 2 = oneN (lowP lo a != lowP lo z)
  | [], a, z, hc => by
    show (oneN (thruE lo hi a z) + 0) % 2 = _
    rw [thru_low h (hc a (by simp)) (hc z (by simp))]
    cases lowP lo a <;> cases lowP lo z <;> rfl
  | b :: L, a, z, hc => by
    have ih := pathE_odd h L b z (fun x hx => hc x (List.mem_cons_of_mem _ hx))
    show (oneN (thruE lo hi a b) + pathE lo hi (b :: L ++ [z])) % 2 = _
    rw [thru_low h (hc a (by simp)) (hc b (by simp)), Nat.add_mod, ih]
    cases lowP lo a <;> cases lowP lo b <;> cases lowP lo z <;> rfl
theorem edg_even {lo hi : Int} (h : lo < hi) {K : List Pt} (hc : clearH lo hi K) : edgN lo hi K % 2 = 0 := by
  cases K with
  | nil => rfl
  | cons a L =>
    show pathE lo hi (a :: L ++ [a]) % 2 = 0
    rw [pathE_odd h L a a (fun x hx => by
      rcases List.mem_append.1 hx with hx | hx
      · exact hc x hx
      · rw [List.mem_singleton] at hx; subst hx; exact hc x (by simp))]
    cases lowP lo a <;> rfl
theorem tot_even {lo hi : Int} (h : lo < hi) : ∀ {R : List (List Pt)}, (∀ K ∈ R, clearH lo hi K) → totE lo hi R % 2 = 0
  | [], _ => rfl
  | K :: R, hc => by
    have h1 := edg_even h (hc K (by simp))
    have h2 := tot_even (R := R) h fun M hM => hc M (List.mem_cons_of_mem _ hM)
    unfold totE at h2 ⊢
    rw [List.map_cons, List.sum_cons]
    omega
/-- A way without edges through lies on one side. -/
theorem pathE_zero {lo hi : Int} (h : lo < hi) : ∀ (L : List Pt) (a : Pt), clearH lo hi (a :: L) → pathE lo hi (a :: L) = 0 → ∀ x ∈ L, lowP lo x = lowP lo a
  | [], a, _, _ => fun x hx => by cases hx
  | b :: L, a, hc, h0 => fun x hx => by
    have e : oneN (thruE lo hi a b) + pathE lo hi (b :: L) = 0 := h0
    have e1 : oneN (thruE lo hi a b) = 0 := by omega
    rw [thru_low h (hc a (by simp)) (hc b (by simp))] at e1
    have e2 : lowP lo b = lowP lo a := by
      revert e1
      cases lowP lo a <;> cases lowP lo b <;> decide
    rcases List.mem_cons.1 hx with rfl | hx
    · exact e2
    · rw [← e2]
      exact pathE_zero h L b (fun y hy => hc y (List.mem_cons_of_mem _ hy)) (by omega) x hx
theorem edg_two {lo hi : Int} (h : lo < hi) {K : List Pt} (hc : clearH lo hi K) {a b : Pt} (ha : a ∈ K) (hb : b ∈ K) (h1 : a.2 ≤ lo) (h2 : hi ≤ b.2) : 2 ≤ edgN lo hi K := by
  have he := edg_even h hc
  by_cases h0 : edgN lo hi K = 0
  · exfalso
    cases K with
    | nil => cases ha
    | cons z L =>
      have hc2 : clearH lo hi (z :: (L ++ [z])) := fun x hx => by
        rcases List.mem_cons.1 hx with rfl | hx
        · exact hc x (by simp)
        · rcases List.mem_append.1 hx with hx | hx
          · exact hc x (List.mem_cons_of_mem _ hx)
          · rw [List.mem_singleton] at hx; subst hx; exact hc x (by simp)
      have hz := pathE_zero h (L ++ [z]) z hc2 h0
      have all : ∀ x ∈ z :: L, lowP lo x = lowP lo z := fun x hx => by
        rcases List.mem_cons.1 hx with rfl | hx
        · rfl
        · exact hz x (List.mem_append_left _ hx)
      have e1 := all a ha
      have e2 := all b hb
      rw [← e2] at e1
      unfold lowP at e1
      rw [decide_eq_true h1, decide_eq_false (by omega)] at e1
      cases e1
  · omega
theorem tot_ge {lo hi : Int} {K : List Pt} : ∀ {R : List (List Pt)}, K ∈ R → edgN lo hi K ≤ totE lo hi R
  | M :: R, hK => by
    have e : totE lo hi (M :: R) = edgN lo hi M + totE lo hi R := by unfold totE; rw [List.map_cons, List.sum_cons]
    rcases List.mem_cons.1 hK with rfl | hK
    · omega
    · have h2 : edgN lo hi K ≤ totE lo hi R := tot_ge hK
      omega
/-- Which count for a point of the slab go through it. -/
theorem count_thru {lo hi : Int} {p a b : Pt} (hp1 : lo ≤ p.2) (hp2 : p.2 < hi) (ha : a.2 ≤ lo ∨ hi ≤ a.2) (hb : b.2 ≤ lo ∨ hi ≤ b.2) (hc : countC p a b = true) : thruE lo hi a b = true := by
  have up : ∀ {x y : Pt}, (x.2 ≤ lo ∨ hi ≤ x.2) → (y.2 ≤ lo ∨ hi ≤ y.2) → upC p x y = true → thruE lo hi x y = true := by
    intro x y hx hy h
    unfold upC at h
    rw [Bool.and_eq_true, Bool.and_eq_true, decide_eq_true_iff, decide_eq_true_iff] at h
    unfold thruE
    rw [decide_eq_true (show min x.2 y.2 ≤ lo by omega), decide_eq_true (show hi ≤ max x.2 y.2 by omega)]; rfl
  unfold countC at hc
  split at hc
  · rw [thru_comm]; exact up hb ha hc
  · exact up ha hb hc
/-- None counts for a point below or above all. -/
theorem count_flat {p a b : Pt} (h : p.2 < min a.2 b.2 ∨ max a.2 b.2 ≤ p.2) : countC p a b = false := by
  have up : ∀ {x y : Pt}, (p.2 < min x.2 y.2 ∨ max x.2 y.2 ≤ p.2) → upC p x y = false := by
    intro x y h
    unfold upC
    rw [Bool.and_eq_false_iff, Bool.and_eq_false_iff, decide_eq_false_iff_not, decide_eq_false_iff_not]
    omega
  unfold countC
  split
  · exact up (by omega)
  · exact up h

/-- Where a height belongs among heights. -/
def atH (l : List Int) (y : Int) : Nat := (l.takeWhile fun x => decide (x < y)).length
def insH (l : List Int) (y : Int) : List Int := if l.getD (atH l y) y = y ∧ atH l y < l.length then l else l.take (atH l y) ++ y :: l.drop (atH l y)
def hgtS (ys : List Int) : List Int := ys.foldl insH []
def hgtL (R : List (List Pt)) : List Int := hgtS (R.flatten.map fun p : Pt => p.2)
def AscH (l : List Int) : Prop := l.Pairwise (· < ·)
theorem at_le (l : List Int) (y : Int) : atH l y ≤ l.length := by unfold atH; exact (List.takeWhile_sublist _).length_le
theorem at_take (l : List Int) (y : Int) : ∀ x ∈ l.take (atH l y), x < y := by
  have e : l.take (atH l y) = l.takeWhile fun x => decide (x < y) := by
    have := List.takeWhile_prefix (l := l) (fun x => decide (x < y))
    exact (List.prefix_iff_eq_take.1 this).symm
  intro x hx
  rw [e] at hx
  induction l with
  | nil => cases hx
  | cons z l ih =>
    rw [List.takeWhile_cons] at hx
    split at hx
    · rename_i hz
      rcases List.mem_cons.1 hx with rfl | hx
      · exact of_decide_eq_true hz
      · refine ih ?_ hx
        have := List.takeWhile_prefix (l := l) (fun x => decide (x < y))
        exact (List.prefix_iff_eq_take.1 this).symm
    · cases hx
theorem at_stop (l : List Int) (y : Int) (h : atH l y < l.length) : y ≤ l.getD (atH l y) y := by
  induction l with
  | nil => simp at h
  | cons z l ih =>
    unfold atH at h ⊢
    rw [List.takeWhile_cons] at h ⊢
    by_cases hz : z < y
    · rw [if_pos (by simpa using hz)] at h ⊢
      simp only [List.length_cons, List.getD_cons_succ] at h ⊢
      exact ih (by unfold atH; omega)
    · rw [if_neg (by simpa using hz)]
      simp only [List.length_nil, List.getD_cons_zero]
      omega
theorem at_drop {l : List Int} (ha : AscH l) (y : Int) : ∀ x ∈ l.drop (atH l y), y ≤ x := by
  intro x hx
  obtain ⟨i, hi, rfl⟩ := List.mem_iff_getElem.1 hx
  rw [List.length_drop] at hi
  rw [List.getElem_drop]
  have h1 : atH l y < l.length := by omega
  have h0 := at_stop l y h1
  rw [List.getD_eq_getElem?_getD, List.getElem?_eq_getElem h1] at h0
  have h0' : y ≤ l[atH l y] := h0
  by_cases e : i = 0
  · subst e; simpa using h0'
  · have := (List.pairwise_iff_getElem.1 ha) (atH l y) (atH l y + i) h1 (by omega) (by omega)
    omega
theorem ins_mem {l : List Int} {y x : Int} : x ∈ insH l y ↔ x = y ∨ x ∈ l := by
  unfold insH
  split
  · rename_i h
    constructor
    · exact .inr
    · rintro (rfl | h2)
      · rw [List.getD_eq_getElem?_getD, List.getElem?_eq_getElem h.2] at h
        rw [← show l[atH l x]'h.2 = x from h.1]
        exact List.getElem_mem _
      · exact h2
  · rw [List.mem_append, List.mem_cons]
    constructor
    · rintro (h | h | h)
      · exact .inr (List.mem_of_mem_take h)
      · exact .inl h
      · exact .inr (List.mem_of_mem_drop h)
    · rintro (h | h)
      · exact .inr (.inl h)
      · rw [← List.take_append_drop (atH l y) l, List.mem_append] at h
        rcases h with h | h
        · exact .inl h
        · exact .inr (.inr h)
theorem ins_asc {l : List Int} (ha : AscH l) (y : Int) : AscH (insH l y) := by
  unfold insH
  split
  · exact ha
  · rename_i hn
    have ht := at_take l y
    have hd := at_drop ha y
    have hd2 : ∀ x ∈ l.drop (atH l y), y < x := by
      intro x hx
      have h1 := hd x hx
      by_cases e : x = y
      · exfalso
        subst e
        obtain ⟨i, hi, e⟩ := List.mem_iff_getElem.1 hx
        rw [List.length_drop] at hi
        rw [List.getElem_drop] at e
        have h2 : atH l x < l.length := by omega
        refine hn ⟨?_, h2⟩
        have h0 := at_stop l x h2
        rw [List.getD_eq_getElem?_getD, List.getElem?_eq_getElem h2] at h0 ⊢
        have h0' : x ≤ l[atH l x] := h0
        show l[atH l x] = x
        by_cases e0 : i = 0
        · subst e0; simpa using e
        · have := (List.pairwise_iff_getElem.1 ha) (atH l x) (atH l x + i) h2 (by omega) (by omega)
          omega
      · omega
    have hsp : (l.take (atH l y) ++ l.drop (atH l y)).Pairwise (· < ·) := by rw [List.take_append_drop]; exact ha
    rw [List.pairwise_append] at hsp
    unfold AscH
    rw [List.pairwise_append, List.pairwise_cons]
    refine ⟨hsp.1, ⟨hd2, hsp.2.1⟩, fun a h1 b h2 => ?_⟩
    rcases List.mem_cons.1 h2 with rfl | h2
    · exact ht a h1
    · have := ht a h1
      have := hd2 b h2
      omega
theorem fold_asc : ∀ (ys l : List Int), AscH l → AscH (ys.foldl insH l)
  | [], _, h => h
  | y :: ys, l, h => fold_asc ys _ (ins_asc h y)
theorem fold_mem {x : Int} : ∀ (ys l : List Int), x ∈ ys.foldl insH l ↔ x ∈ ys ∨ x ∈ l
  | [], l => by simp
  | y :: ys, l => by
    rw [List.foldl_cons, fold_mem ys, ins_mem, List.mem_cons]
    constructor
    · rintro (h | h | h)
      · exact .inl (.inr h)
      · exact .inl (.inl h)
      · exact .inr h
    · rintro ((h | h) | h)
      · exact .inr (.inl h)
      · exact .inl h
      · exact .inr (.inr h)
theorem hgt_asc (ys : List Int) : AscH (hgtS ys) := fold_asc ys [] List.Pairwise.nil
theorem hgt_mem {ys : List Int} {x : Int} : x ∈ hgtS ys ↔ x ∈ ys := by unfold hgtS; rw [fold_mem]; simp
/-- Two ascending lists of the same numbers are one. -/
theorem asc_one : ∀ {A B : List Int}, AscH A → AscH B → (∀ x, x ∈ A ↔ x ∈ B) → A = B
  | [], [], _, _, _ => rfl
  | [], b :: B, _, _, h => by have := (h b).2 (by simp); cases this
  | a :: A, [], _, _, h => by have := (h a).1 (by simp); cases this
  | a :: A, b :: B, ha, hb, h => by
    have ha' := List.pairwise_cons.1 ha
    have hb' := List.pairwise_cons.1 hb
    have e : a = b := by
      rcases List.mem_cons.1 ((h a).1 (by simp)) with h1 | h1
      · exact h1
      · rcases List.mem_cons.1 ((h b).2 (by simp)) with h2 | h2
        · exact h2.symm
        · have := hb'.1 a h1
          have := ha'.1 b h2
          omega
    subst e
    rw [asc_one ha'.2 hb'.2 fun x => ?_]
    have hx := h x
    constructor
    · intro hA
      rcases List.mem_cons.1 (hx.1 (List.mem_cons_of_mem _ hA)) with h1 | h1
      · subst h1; exact absurd (ha'.1 x hA) (by omega)
      · exact h1
    · intro hB
      rcases List.mem_cons.1 (hx.2 (List.mem_cons_of_mem _ hB)) with h1 | h1
      · subst h1; exact absurd (hb'.1 x hB) (by omega)
      · exact h1
theorem hgt_one {ys l : List Int} (ha : AscH l) (h : ∀ x, x ∈ l ↔ x ∈ ys) : l = hgtS ys := asc_one ha (hgt_asc ys) fun x => (h x).trans hgt_mem.symm
/-- Between two heights that follow each other there is no point. -/
theorem hgt_clear {ys : List Int} {i : Nat} (hi : i + 1 < (hgtS ys).length) : ∀ y ∈ ys, y ≤ (hgtS ys).getD i 0 ∨ (hgtS ys).getD (i + 1) 0 ≤ y := by
  intro y hy
  have hm := hgt_mem.2 hy
  have ha := hgt_asc ys
  generalize hgtS ys = l at *
  obtain ⟨k, hk, rfl⟩ := List.mem_iff_getElem.1 hm
  rw [List.getD_eq_getElem?_getD, List.getElem?_eq_getElem (by omega), List.getD_eq_getElem?_getD, List.getElem?_eq_getElem hi]
  show l[k] ≤ l[i] ∨ l[i + 1] ≤ l[k]
  have hp := List.pairwise_iff_getElem.1 ha
  rcases Nat.lt_trichotomy k i with h | h | h
  · exact .inl (by have := hp k i hk (by omega) h; omega)
  · subst h; exact .inl (by omega)
  · rcases Nat.eq_or_lt_of_le (show i + 1 ≤ k from h) with h | h
    · subst h; exact .inr (by omega)
    · exact .inr (by have := hp (i + 1) k hi hk h; omega)
theorem hgt_up {ys : List Int} {i : Nat} (hi : i + 1 < (hgtS ys).length) : (hgtS ys).getD i 0 < (hgtS ys).getD (i + 1) 0 := by
  rw [List.getD_eq_getElem?_getD, List.getElem?_eq_getElem (by omega), List.getD_eq_getElem?_getD, List.getElem?_eq_getElem hi]
  exact (List.pairwise_iff_getElem.1 (hgt_asc ys)) i (i + 1) (by omega) hi (by omega)
theorem hgt_perm {ys zs : List Int} (h : ys.Perm zs) : hgtS ys = hgtS zs := asc_one (hgt_asc _) (hgt_asc _) fun x => by rw [hgt_mem, hgt_mem]; exact h.mem_iff
end

section
set_option linter.unusedVariables false
set_option linter.unusedSimpArgs false
open Go.RowKit

theorem cyc_mem {K : List Pt} (h : 0 < K.length) (i : Int) : cyc K i ∈ K := by
  obtain ⟨k, hk, e, _⟩ := cyc_at h i
  rw [e, List.getD_eq_getElem?_getD, List.getElem?_eq_getElem hk]
  exact List.getElem_mem hk
/-- A ring that is one does not lie on one level. -/
theorem fine_two {K : List Pt} (h : fineQ K) (y : Int) : ∃ b ∈ K, b.2 ≠ y := by
  apply Classical.byContradiction
  intro hn
  have all : ∀ b ∈ K, b.2 = y := fun b hb => Classical.byContradiction fun h2 => hn ⟨b, hb, h2⟩
  have h0 : 0 < K.length := by have := h.few; omega
  have hs := sign_one h
  unfold signF at hs
  rw [if_pos h] at hs
  have e : turnAt K ((leastF K : Nat) : Int) = 0 := by
    unfold turnAt turnC turnF
    rw [all _ (cyc_mem h0 _), all _ (cyc_mem h0 _), all _ (cyc_mem h0 _)]
    split
    · unfold detP sgn
      simp
    · rfl
  rw [e] at hs
  rcases hs with hs | hs <;> cases hs
theorem hgtL_mem {R : List (List Pt)} {y : Int} : y ∈ hgtL R ↔ ∃ K ∈ R, ∃ p ∈ K, p.2 = y := by
  unfold hgtL
  rw [hgt_mem, List.mem_map]
  constructor
  · rintro ⟨p, hp, e⟩
    obtain ⟨K, hK, hp⟩ := List.mem_flatten.1 hp
    exact ⟨K, hK, p, hp, e⟩
  · rintro ⟨K, hK, p, hp, e⟩
    exact ⟨p, List.mem_flatten.2 ⟨K, hK, hp⟩, e⟩
theorem hgtL_same {R S : List (List Pt)} (h : ∀ y, (∃ K ∈ R, ∃ p ∈ K, p.2 = y) ↔ ∃ K ∈ S, ∃ p ∈ K, p.2 = y) : hgtL R = hgtL S :=
  asc_one (hgt_asc _) (hgt_asc _) fun y => (hgtL_mem (R := R)).trans ((h y).trans (hgtL_mem (R := S)).symm)
theorem hgtL_clear {R : List (List Pt)} {i : Nat} (hi : i + 1 < (hgtL R).length) : ∀ K ∈ R, clearH ((hgtL R).getD i 0) ((hgtL R).getD (i + 1) 0) K := fun K hK a ha =>
  @hgt_clear (R.flatten.map fun p : Pt => p.2) i hi a.2 (List.mem_map.2 ⟨a, List.mem_flatten.2 ⟨K, hK, ha⟩, rfl⟩)
theorem hgtL_up {R : List (List Pt)} {i : Nat} (hi : i + 1 < (hgtL R).length) : (hgtL R).getD i 0 < (hgtL R).getD (i + 1) 0 := hgt_up hi
theorem asc_first {l : List Int} (ha : AscH l) : ∀ x ∈ l, l.getD 0 0 ≤ x := fun x hx => by
  obtain ⟨k, hk, rfl⟩ := List.mem_iff_getElem.1 hx
  rw [List.getD_eq_getElem?_getD, List.getElem?_eq_getElem (by omega)]
  show l[0] ≤ l[k]
  by_cases e : k = 0
  · subst e; omega
  · have := (List.pairwise_iff_getElem.1 ha) 0 k (by omega) hk (by omega)
    omega
theorem asc_last {l : List Int} (ha : AscH l) : ∀ x ∈ l, x ≤ l.getD (l.length - 1) 0 := fun x hx => by
  obtain ⟨k, hk, rfl⟩ := List.mem_iff_getElem.1 hx
  rw [List.getD_eq_getElem?_getD, List.getElem?_eq_getElem (by omega)]
  show l[k] ≤ l[l.length - 1]
  by_cases e : k = l.length - 1
  · subst e; omega
  · have := (List.pairwise_iff_getElem.1 ha) k (l.length - 1) hk (by omega) (by omega)
    omega
theorem getD_memI {l : List Int} {k : Nat} (h : k < l.length) : l.getD k 0 ∈ l := by
  rw [List.getD_eq_getElem?_getD, List.getElem?_eq_getElem h]; exact List.getElem_mem h
theorem hgtL_len {R : List (List Pt)} (h : regFine R) : 2 ≤ (hgtL R).length := by
  have h0 := h.few
  have hK := h.each _ (List.getElem_mem h0)
  have h3 := hK.few
  have m1 : (R[0][0]).2 ∈ hgtL R := hgtL_mem.2 ⟨R[0], List.getElem_mem h0, R[0][0], List.getElem_mem (by omega), rfl⟩
  obtain ⟨b, hb, hne⟩ := fine_two hK (R[0][0]).2
  have m2 : b.2 ∈ hgtL R := hgtL_mem.2 ⟨R[0], List.getElem_mem h0, b, hb, rfl⟩
  generalize hgtL R = l at *
  match l, m1, m2 with
  | [x], m1, m2 =>
    rw [List.mem_singleton] at m1 m2
    exact absurd (m2.trans m1.symm) hne
  | x :: y :: l, _, _ => simp
theorem tot_edge {R : List (List Pt)} (h : regFine R) {i : Nat} (hi : i + 1 < (hgtL R).length) (he : i = 0 ∨ i + 2 = (hgtL R).length) : 2 ≤ totE ((hgtL R).getD i 0) ((hgtL R).getD (i + 1) 0) R := by
  have hcl := hgtL_clear hi
  have hup := hgtL_up hi
  have ha : AscH (hgtL R) := hgt_asc _
  have key : ∃ K ∈ R, (∃ a ∈ K, a.2 ≤ (hgtL R).getD i 0) ∧ ∃ b ∈ K, (hgtL R).getD (i + 1) 0 ≤ b.2 := by
    rcases he with rfl | he
    · obtain ⟨K, hK, a, ha1, ha2⟩ := hgtL_mem.1 (getD_memI (l := hgtL R) (k := 0) (by omega))
      obtain ⟨b, hb, hne⟩ := fine_two (h.each K hK) ((hgtL R).getD 0 0)
      refine ⟨K, hK, ⟨a, ha1, by omega⟩, b, hb, ?_⟩
      have h1 := asc_first ha b.2 (hgtL_mem.2 ⟨K, hK, b, hb, rfl⟩)
      rcases hcl K hK b hb with h2 | h2
      · omega
      · exact h2
    · obtain ⟨K, hK, b, hb1, hb2⟩ := hgtL_mem.1 (getD_memI (l := hgtL R) (k := i + 1) hi)
      obtain ⟨a, ha1, hne⟩ := fine_two (h.each K hK) ((hgtL R).getD (i + 1) 0)
      refine ⟨K, hK, ⟨a, ha1, ?_⟩, b, hb1, by omega⟩
      have h1 := asc_last ha a.2 (hgtL_mem.2 ⟨K, hK, a, ha1, rfl⟩)
      rw [show (hgtL R).length - 1 = i + 1 by omega] at h1
      rcases hcl K hK a ha1 with h2 | h2
      · exact h2
      · omega
  obtain ⟨K, hK, ⟨a, ha1, ha2⟩, b, hb1, hb2⟩ := key
  exact Nat.le_trans (edg_two hup (hcl K hK) ha1 hb1 ha2 hb2) (tot_ge hK)
theorem tot_slab_even {R : List (List Pt)} {i : Nat} (hi : i + 1 < (hgtL R).length) : totE ((hgtL R).getD i 0) ((hgtL R).getD (i + 1) 0) R % 2 = 0 := tot_even (hgtL_up hi) (hgtL_clear hi)
theorem flat_pos {R : List (List Pt)} (h : regFine R) : 0 < R.flatten.length := by
  have h0 := h.few
  have h3 := (h.each _ (List.getElem_mem h0)).few
  have : R[0][0] ∈ R.flatten := List.mem_flatten.2 ⟨R[0], List.getElem_mem h0, List.getElem_mem (by omega)⟩
  exact List.length_pos_of_mem this
theorem hgt_first {R : List (List Pt)} (h : regFine R) : (hgtL R).getD 0 0 = lyF R.flatten R.flatten.length := by
  have hp := flat_pos h
  have h2 := hgtL_len h
  obtain ⟨p, hp1, hp2⟩ := ly_at hp
  obtain ⟨K, hK, hpK⟩ := List.mem_flatten.1 hp1
  have h1 := asc_first (hgt_asc _) _ (hgtL_mem.2 ⟨K, hK, p, hpK, rfl⟩)
  obtain ⟨M, hM, q, hq1, hq2⟩ := hgtL_mem.1 (getD_memI (l := hgtL R) (k := 0) (by omega))
  have h3 := ly_low (List.mem_flatten.2 ⟨M, hM, hq1⟩)
  have h1' : (hgtL R).getD 0 0 ≤ p.2 := h1
  omega
theorem hgt_last {R : List (List Pt)} (h : regFine R) : (hgtL R).getD ((hgtL R).length - 1) 0 = hyF R.flatten R.flatten.length := by
  have hp := flat_pos h
  have h2 := hgtL_len h
  obtain ⟨p, hp1, hp2⟩ := hy_at hp
  obtain ⟨K, hK, hpK⟩ := List.mem_flatten.1 hp1
  have h1 : p.2 ≤ (hgtL R).getD ((hgtL R).length - 1) 0 := asc_last (hgt_asc _) _ (hgtL_mem.2 ⟨K, hK, p, hpK, rfl⟩)
  obtain ⟨M, hM, q, hq1, hq2⟩ := hgtL_mem.1 (getD_memI (l := hgtL R) (k := (hgtL R).length - 1) (by omega))
  have h3 := hy_high (List.mem_flatten.2 ⟨M, hM, hq1⟩)
  omega
/-- How many edges of a region count. -/
def crossR (p : Pt) (R : List (List Pt)) : Nat := (R.map (crossN p)).sum
theorem reg_cross (p : Pt) : ∀ R : List (List Pt), regQ p R = decide (crossR p R % 2 = 1)
  | [] => rfl
  | K :: R => by
    have ih := reg_cross p R
    have e : regQ p (K :: R) = (regQ p R != inQ p K) := by
      rw [← reg_app]
      exact regQ_perm (List.perm_append_singleton K R).symm
    rw [e, ih]
    unfold crossR inQ
    rw [List.map_cons, List.sum_cons]
    rcases Nat.mod_two_eq_zero_or_one (R.map (crossN p)).sum with h1 | h1 <;> rcases Nat.mod_two_eq_zero_or_one (crossN p K) with h2 | h2 <;> simp [Nat.add_mod, h1, h2]
theorem crossR_flat {p : Pt} {R : List (List Pt)} (h : ∀ K ∈ R, ∀ a ∈ K, ∀ b ∈ K, countC p a b = false) : crossR p R = 0 := by
  unfold crossR
  induction R with
  | nil => rfl
  | cons K R ih =>
    rw [List.map_cons, List.sum_cons, cross_zero0 (h K (by simp)), ih fun M hM => h M (List.mem_cons_of_mem _ hM)]
/-- Below the first height and from the last one on nothing counts. -/
theorem crossR_out {p : Pt} {R : List (List Pt)} (h : p.2 < (hgtL R).getD 0 0 ∨ (hgtL R).getD ((hgtL R).length - 1) 0 ≤ p.2) : crossR p R = 0 :=
  crossR_flat fun K hK a ha b hb => by
    have a1 := asc_first (hgt_asc _) _ (hgtL_mem.2 ⟨K, hK, a, ha, rfl⟩)
    have a2 := asc_last (hgt_asc _) _ (hgtL_mem.2 ⟨K, hK, a, ha, rfl⟩)
    have b1 := asc_first (hgt_asc _) _ (hgtL_mem.2 ⟨K, hK, b, hb, rfl⟩)
    have b2 := asc_last (hgt_asc _) _ (hgtL_mem.2 ⟨K, hK, b, hb, rfl⟩)
    unfold hgtL at h
    exact count_flat (by omega)
end

section
set_option linter.unusedVariables false
set_option linter.unusedSimpArgs false
open Go.RowKit

/-- As the loop reckons: the first k edges. -/
def edgK (lo hi : Int) (K : List Pt) : Nat → Nat
  | 0 => 0
  | k + 1 => edgK lo hi K k + oneN (thruE lo hi (K.getD k (0, 0)) (K.getD ((k + 1) % K.length) (0, 0)))
theorem edgK_le (lo hi : Int) (K : List Pt) : ∀ k, edgK lo hi K k ≤ k
  | 0 => Nat.le_refl _
  | k + 1 => by
    have := edgK_le lo hi K k
    unfold edgK oneN
    split <;> omega
theorem pathE_take (lo hi : Int) (K : List Pt) : ∀ k, k + 1 ≤ K.length → edgK lo hi K k = pathE lo hi (K.take (k + 1))
  | 0, h => by
    cases K with
    | nil => rfl
    | cons a L => rfl
  | k + 1, h => by
    have ih := pathE_take lo hi K k (by omega)
    have e1 : K.take (k + 1) = K.take k ++ [K[k]'(by omega)] := by rw [List.take_succ_eq_append_getElem]
    have e2 : K.take (k + 1 + 1) = K.take k ++ K[k]'(by omega) :: [K[k + 1]'(by omega)] := by
      rw [List.take_succ_eq_append_getElem (show k + 1 < K.length by omega), e1, List.append_assoc]; rfl
    rw [e2, pathE_join, ← e1, ← ih]
    simp only [edgK, pathE]
    rw [Nat.mod_eq_of_lt (by omega), List.getD_eq_getElem?_getD, List.getD_eq_getElem?_getD, List.getElem?_eq_getElem (by omega), List.getElem?_eq_getElem (by omega)]
    rfl
theorem edg_all (lo hi : Int) (K : List Pt) : edgK lo hi K K.length = edgN lo hi K := by
  cases K with
  | nil => rfl
  | cons a L =>
    show edgK lo hi (a :: L) (L.length + 1) = pathE lo hi (a :: L ++ [a])
    have h := pathE_take lo hi (a :: L) L.length (by simp)
    rw [List.take_of_length_le (by simp)] at h
    simp only [edgK]
    rw [h]
    have hl : ∃ A z, a :: L = A ++ [z] := ⟨(a :: L).dropLast, (a :: L).getLast (by simp), (List.dropLast_concat_getLast (by simp)).symm⟩
    obtain ⟨A, z, e⟩ := hl
    have hz : (a :: L).getD L.length (0, 0) = z := by
      have : L.length = A.length := by have := congrArg List.length e; simp at this; omega
      rw [e, this, List.getD_eq_getElem?_getD, List.getElem?_append_right (Nat.le_refl _)]; simp
    have ha : (a :: L).getD ((L.length + 1) % (a :: L).length) (0, 0) = a := by
      rw [List.length_cons, Nat.mod_self]; rfl
    rw [hz, ha, e, List.append_assoc, show [z] ++ [a] = z :: [a] from rfl, pathE_join lo hi z A [a]]
    simp [pathE]
theorem edg_rotI (lo hi : Int) (K : List Pt) (s : Int) : edgN lo hi (rotF K s) = edgN lo hi K := by
  by_cases hn : 0 < K.length
  · obtain ⟨k, hk, _, hm⟩ := cyc_at (K := K) hn s
    rw [rot_mod (b := (k : Int)) (by rw [hm, Int.emod_eq_of_lt (by omega) (by omega)])]
    exact edg_rot lo hi K k (by omega)
  · have : K = [] := by cases K with | nil => rfl | cons a l => simp at hn
    subst this
    rfl
/-- How many of the first i rings' edges. -/
def totK (lo hi : Int) (R : List (List Pt)) : Nat → Nat
  | 0 => 0
  | i + 1 => totK lo hi R i + edgN lo hi (R.getD i [])
theorem totK_take (lo hi : Int) (R : List (List Pt)) : ∀ i, i ≤ R.length → totK lo hi R i = totE lo hi (R.take i)
  | 0, _ => rfl
  | i + 1, h => by
    unfold totK
    rw [totK_take lo hi R i (by omega)]
    unfold totE
    rw [List.take_succ_eq_append_getElem (show i < R.length by omega), List.map_append, List.sum_append, List.getD_eq_getElem?_getD, List.getElem?_eq_getElem (show i < R.length by omega)]
    simp
theorem tot_all (lo hi : Int) (R : List (List Pt)) : totK lo hi R R.length = totE lo hi R := by rw [totK_take lo hi R _ (Nat.le_refl _), List.take_length]
def crosK (p : Pt) (R : List (List Pt)) : Nat → Nat
  | 0 => 0
  | i + 1 => crosK p R i + crossN p (R.getD i [])
theorem crosK_take (p : Pt) (R : List (List Pt)) : ∀ i, i ≤ R.length → crosK p R i = crossR p (R.take i)
  | 0, _ => rfl
  | i + 1, h => by
    unfold crosK
    rw [crosK_take p R i (by omega)]
    unfold crossR
    rw [List.take_succ_eq_append_getElem (show i < R.length by omega), List.map_append, List.sum_append, List.getD_eq_getElem?_getD, List.getElem?_eq_getElem (show i < R.length by omega)]
    simp
theorem cros_all (p : Pt) (R : List (List Pt)) : crosK p R R.length = crossR p R := by rw [crosK_take p R _ (Nat.le_refl _), List.take_length]
/-- Steps of the search of a height's place. -/
theorem at_more {l : List Int} {y : Int} {k : Nat} (hk : k ≤ atH l y) (hl : k < l.length) (h : l.getD k 0 < y) : k + 1 ≤ atH l y := by
  rcases Nat.eq_or_lt_of_le hk with e | e
  · exfalso
    subst e
    have := at_stop l y hl
    rw [List.getD_eq_getElem?_getD, List.getElem?_eq_getElem hl] at this h
    have h1 : y ≤ l[atH l y] := this
    have h2 : l[atH l y] < y := h
    omega
  · omega
theorem at_here {l : List Int} {y : Int} {k : Nat} (hk : k ≤ atH l y) (h : l.length ≤ k ∨ y ≤ l.getD k 0) : k = atH l y := by
  rcases Nat.eq_or_lt_of_le hk with e | e
  · exact e
  · exfalso
    have hle := at_le l y
    have hm : l.getD k 0 ∈ l.take (atH l y) := by
      rw [List.getD_eq_getElem?_getD, List.getElem?_eq_getElem (show k < l.length by omega)]
      have : (l.take (atH l y))[k]'(by rw [List.length_take]; omega) = l[k] := List.getElem_take
      show l[k] ∈ _
      rw [← this]
      exact List.getElem_mem _
    have := at_take l y _ hm
    rcases h with h | h
    · omega
    · omega
/-- A ring that is turned about. -/
def turnF2 (b : Int) (K : List Pt) : List Pt := rotF K.reverse (-b)
theorem turn2_len (b : Int) (K : List Pt) : (turnF2 b K).length = K.length := by unfold turnF2; rw [rot_len, List.length_reverse]
theorem turn2_get (b : Int) (K : List Pt) {k : Nat} (hk : k < K.length) : (turnF2 b K).getD k (0, 0) = cyc K ((K.length : Int) - 1 - (k : Int) + b) := by
  unfold turnF2
  rw [rot_getD (by rw [List.length_reverse]; exact hk), rev_cyc, ← cyc_add K]
  congr 1
  omega
theorem turn2_fine (b : Int) (K : List Pt) : fineQ (turnF2 b K) ↔ fineQ K := by unfold turnF2; rw [fine_rot, fine_rev]
theorem turn2_meet (b c : Int) (K M : List Pt) : rMeet (turnF2 b K) (turnF2 c M) = rMeet K M := by
  unfold turnF2
  rw [rMeet_rot, rMeet_rev, rMeet_comm, rMeet_rot, rMeet_rev, rMeet_comm]
theorem turn2_in (p : Pt) (b : Int) (K : List Pt) : inQ p (turnF2 b K) = inQ p K := by unfold turnF2; rw [in_rot, in_rev]
theorem turn2_cross (p : Pt) (b : Int) (K : List Pt) : crossN p (turnF2 b K) = crossN p K := by unfold turnF2; rw [cross_rot, cross_rev]
theorem turn2_edg (lo hi : Int) (b : Int) (K : List Pt) : edgN lo hi (turnF2 b K) = edgN lo hi K := by unfold turnF2; rw [edg_rotI, edg_rev]
theorem rot_sub (K : List Pt) (s : Int) : ∀ p ∈ rotF K s, p ∈ K := fun p hp => by
  unfold rotF at hp
  obtain ⟨k, hk, rfl⟩ := List.mem_map.1 hp
  exact cyc_mem (by have := List.mem_range.1 hk; omega) _
theorem turn2_sub (b : Int) (K : List Pt) : ∀ p ∈ turnF2 b K, p ∈ K := fun p hp => by
  have := rot_sub _ _ p hp
  rwa [List.mem_reverse] at this
theorem turn2_sup (b : Int) (K : List Pt) : ∀ p ∈ K, p ∈ turnF2 b K := fun p hp => by
  obtain ⟨k, hk, rfl⟩ := List.mem_iff_getElem.1 hp
  have hn : (0 : Int) < (K.length : Int) := by omega
  have h0 := Int.emod_nonneg ((K.length : Int) - 1 - (k : Int) + b) (b := (K.length : Int)) (by omega)
  have h1 := Int.emod_lt_of_pos ((K.length : Int) - 1 - (k : Int) + b) hn
  obtain ⟨j, hj⟩ : ∃ j : Nat, (j : Int) = ((K.length : Int) - 1 - (k : Int) + b) % (K.length : Int) := ⟨(((K.length : Int) - 1 - (k : Int) + b) % (K.length : Int)).toNat, by omega⟩
  have hjl : j < K.length := by omega
  have e := turn2_get b K hjl
  have e2 : cyc K ((K.length : Int) - 1 - (j : Int) + b) = K[k] := by
    rw [← show cyc K (k : Int) = K[k] by rw [cyc_nat hk, List.getD_eq_getElem?_getD, List.getElem?_eq_getElem hk]; rfl]
    apply cyc_mod
    rw [hj]
    have : ((K.length : Int) - 1 - (((K.length : Int) - 1 - (k : Int) + b) % (K.length : Int)) + b) % (K.length : Int) = ((K.length : Int) - 1 + b - ((K.length : Int) - 1 - (k : Int) + b)) % (K.length : Int) := by
      rw [show (K.length : Int) - 1 - (((K.length : Int) - 1 - (k : Int) + b) % (K.length : Int)) + b = ((K.length : Int) - 1 + b) - (((K.length : Int) - 1 - (k : Int) + b) % (K.length : Int)) by omega]
      rw [Int.sub_emod, Int.emod_emod, ← Int.sub_emod]
    rw [this]
    congr 1
    omega
  rw [← e2, ← e, List.getD_eq_getElem?_getD, List.getElem?_eq_getElem (by rw [turn2_len]; exact hjl)]
  exact List.getElem_mem _
end

section
set_option linter.unusedVariables false
set_option linter.unusedSimpArgs false
open Go.RowKit

/-- An edge, its lower end first. -/
def newE (a b : Pt) : Bx := if 0 < cmpC a b then (b.1, b.2, a.1, a.2) else (a.1, a.2, b.1, b.2)
def fillsE (lo hi : Int) (e : Bx) : Bool := decide (e.2.1 ≤ lo) && decide (hi ≤ e.2.2.2)
def turnsE (p : Pt) (e : Bx) : Bool := decide (turnF e.1 e.2.1 e.2.2.1 e.2.2.2 p.1 p.2 = 1)
theorem newE_y (a b : Pt) : (newE a b).2.1 = min a.2 b.2 ∧ (newE a b).2.2.2 = max a.2 b.2 := by
  unfold newE cmpC cmpF
  by_cases h1 : a.2 < b.2 ∨ (a.2 = b.2 ∧ a.1 < b.1)
  · rw [if_pos h1, if_neg (by decide)]
    exact ⟨by show a.2 = _; omega, by show b.2 = _; omega⟩
  · rw [if_neg h1]
    by_cases h2 : a.1 = b.1 ∧ a.2 = b.2
    · rw [if_pos h2, if_neg (by decide)]
      exact ⟨by show a.2 = _; omega, by show b.2 = _; omega⟩
    · rw [if_neg h2, if_pos (by decide)]
      exact ⟨by show b.2 = _; omega, by show a.2 = _; omega⟩
theorem newE_lt {a b : Pt} (h : a.2 < b.2) : newE a b = (a.1, a.2, b.1, b.2) := by
  unfold newE cmpC cmpF
  rw [if_pos (show a.2 < b.2 ∨ (a.2 = b.2 ∧ a.1 < b.1) from .inl h), if_neg (by decide)]
theorem newE_gt {a b : Pt} (h : b.2 < a.2) : newE a b = (b.1, b.2, a.1, a.2) := by
  unfold newE cmpC cmpF
  rw [if_neg (show ¬ (a.2 < b.2 ∨ (a.2 = b.2 ∧ a.1 < b.1)) by omega), if_neg (show ¬ (a.1 = b.1 ∧ a.2 = b.2) by omega), if_pos (by decide)]
theorem fills_new (lo hi : Int) (a b : Pt) : fillsE lo hi (newE a b) = thruE lo hi a b := by
  unfold fillsE thruE
  rw [(newE_y a b).1, (newE_y a b).2]
theorem count_new {lo hi : Int} {p a b : Pt} (hp1 : lo ≤ p.2) (hp2 : p.2 < hi) (ha : a.2 ≤ lo ∨ hi ≤ a.2) (hb : b.2 ≤ lo ∨ hi ≤ b.2) : (fillsE lo hi (newE a b) && turnsE p (newE a b)) = countC p a b := by
  rw [fills_new]
  by_cases ht : thruE lo hi a b = true
  · rw [ht, Bool.true_and]
    have hd : min a.2 b.2 ≤ lo ∧ hi ≤ max a.2 b.2 := by
      unfold thruE at ht
      rw [Bool.and_eq_true, decide_eq_true_iff, decide_eq_true_iff] at ht
      exact ht
    unfold countC
    by_cases h1 : b.2 < a.2
    · rw [newE_gt h1, if_pos h1]
      unfold turnsE upC turnC
      rw [decide_eq_true (show b.2 ≤ p.2 by omega), decide_eq_true (show p.2 < a.2 by omega)]
      rfl
    · rw [newE_lt (show a.2 < b.2 by omega), if_neg h1]
      unfold turnsE upC turnC
      rw [decide_eq_true (show a.2 ≤ p.2 by omega), decide_eq_true (show p.2 < b.2 by omega)]
      rfl
  · have h2 : countC p a b = false := by
      cases hc : countC p a b with
      | false => rfl
      | true => exact absurd (count_thru hp1 hp2 ha hb hc) ht
    rw [Bool.not_eq_true] at ht
    rw [ht, h2]; rfl
/-- The edges of a ring, from the point before on. -/
def ringE (z : Pt) : List Pt → List Bx
  | [] => []
  | p :: L => newE z p :: ringE p L
theorem ringE_len : ∀ (z : Pt) (L : List Pt), (ringE z L).length = L.length
  | _, [] => rfl
  | z, p :: L => by show (ringE p L).length + 1 = L.length + 1; rw [ringE_len p L]
def befE (z : Pt) (K : List Pt) : Nat → Pt
  | 0 => z
  | k + 1 => K.getD k (0, 0)
theorem ringE_get : ∀ (z : Pt) (L : List Pt) (k : Nat), k < L.length → (ringE z L).getD k (0, 0, 0, 0) = newE (befE z L k) (L.getD k (0, 0))
  | z, [], k, h => by cases h
  | z, p :: L, 0, h => rfl
  | z, p :: L, k + 1, h => by
    show (ringE p L).getD k (0, 0, 0, 0) = newE ((p :: L).getD k (0, 0)) (L.getD k (0, 0))
    rw [ringE_get p L k (by simpa using h)]
    cases k with
    | zero => rfl
    | succ k => rfl
theorem ringE_step (z : Pt) (L : List Pt) {k : Nat} (h : k < L.length) : (ringE z L).take (k + 1) = (ringE z L).take k ++ [newE (befE z L k) (L.getD k (0, 0))] := by
  have hl : k < (ringE z L).length := by rw [ringE_len]; exact h
  rw [List.take_succ_eq_append_getElem hl, ← ringE_get z L k h, List.getD_eq_getElem?_getD, List.getElem?_eq_getElem hl]
  rfl
theorem ringE_path (g : Bx → Bool) (f : List Pt → Nat) (f1 : ∀ z, f [z] = 0) (u : Pt → Pt → Bool) (f2 : ∀ a b L, f (a :: b :: L) = oneN (u a b) + f (b :: L)) : ∀ (z : Pt) (L : List Pt), (∀ a ∈ z :: L, ∀ b ∈ z :: L, g (newE a b) = u a b) → ((ringE z L).filter g).length = f (z :: L)
  | z, [], _ => by rw [f1]; rfl
  | z, p :: L, h => by
    have ih := ringE_path g f f1 u f2 p L fun a ha b hb => h a (List.mem_cons_of_mem _ ha) b (List.mem_cons_of_mem _ hb)
    have h0 := h z (by simp) p (by simp)
    show ((newE z p :: ringE p L).filter g).length = f (z :: p :: L)
    rw [f2, ← ih, ← h0]
    cases hg : g (newE z p) with
    | true => rw [List.filter_cons_of_pos hg, List.length_cons]; unfold oneN; simp; omega
    | false => rw [List.filter_cons_of_neg (by simp [hg])]; unfold oneN; simp
/-- A ring's edges as the package lists them. -/
def edgeE (K : List Pt) : List Bx := ringE (K.getD (K.length - 1) (0, 0)) K
theorem edgeE_len (K : List Pt) : (edgeE K).length = K.length := ringE_len _ _
theorem last_app (A : List Pt) (z : Pt) : (A ++ [z]).getD ((A ++ [z]).length - 1) (0, 0) = z := by
  rw [List.length_append, show A.length + [z].length - 1 = A.length from rfl, List.getD_eq_getElem?_getD, List.getElem?_append_right (Nat.le_refl _)]; simp
theorem list_last {K : List Pt} (h : 0 < K.length) : ∃ A z, K = A ++ [z] := by
  have hn : K ≠ [] := fun e => by rw [e] at h; cases h
  exact ⟨K.dropLast, K.getLast hn, (List.dropLast_concat_getLast hn).symm⟩
theorem edgeE_fills (lo hi : Int) {K : List Pt} (h : 0 < K.length) : ((edgeE K).filter (fillsE lo hi)).length = edgN lo hi K := by
  obtain ⟨A, z, rfl⟩ := list_last h
  unfold edgeE
  rw [last_app, ringE_path (fillsE lo hi) (pathE lo hi) (fun _ => rfl) (thruE lo hi) (fun _ _ _ => rfl) z _ fun a _ b _ => fills_new lo hi a b, edg_parts]
  rfl
theorem edgeE_count {lo hi : Int} {p : Pt} {K : List Pt} (h : 0 < K.length) (hp1 : lo ≤ p.2) (hp2 : p.2 < hi) (hc : clearH lo hi K) : ((edgeE K).filter fun e => fillsE lo hi e && turnsE p e).length = crossN p K := by
  obtain ⟨A, z, rfl⟩ := list_last h
  have hm : ∀ a ∈ z :: (A ++ [z]), a.2 ≤ lo ∨ hi ≤ a.2 := fun a ha => by
    rcases List.mem_cons.1 ha with rfl | ha
    · exact hc a (by simp)
    · exact hc a ha
  unfold edgeE
  rw [last_app, ringE_path (fun e => fillsE lo hi e && turnsE p e) (pathN p) (fun _ => rfl) (countC p) (fun _ _ _ => rfl) z _ fun a ha b hb => count_new hp1 hp2 (hm a ha) (hm b hb), cross_swap_parts]
  rfl
/-- All edges of a region, and those of a slab. -/
def allE (R : List (List Pt)) : List Bx := (R.map edgeE).flatten
def prtE (lo hi : Int) (E : List Bx) : List Bx := E.filter (fillsE lo hi)
theorem allE_len : ∀ R : List (List Pt), (allE R).length = allN R
  | [] => rfl
  | K :: R => by
    have := allE_len R
    unfold allE allN at this ⊢
    rw [List.map_cons, List.flatten_cons, List.length_append, this, List.map_cons, List.sum_cons, edgeE_len]
theorem allE_step {R : List (List Pt)} {i : Nat} (h : i < R.length) : allE (R.take (i + 1)) = allE (R.take i) ++ edgeE (R.getD i []) := by
  unfold allE
  rw [List.take_succ_eq_append_getElem h, List.map_append, List.flatten_append, List.getD_eq_getElem?_getD, List.getElem?_eq_getElem h]
  simp
theorem prt_tot (lo hi : Int) : ∀ {R : List (List Pt)}, (∀ K ∈ R, 0 < K.length) → (prtE lo hi (allE R)).length = totE lo hi R
  | [], _ => rfl
  | K :: R, h => by
    have ih := prt_tot lo hi (R := R) fun M hM => h M (List.mem_cons_of_mem _ hM)
    have e := edgeE_fills lo hi (h K (by simp))
    unfold prtE allE totE at ih ⊢
    rw [List.map_cons, List.flatten_cons, List.filter_append, List.length_append, ih, e, List.map_cons, List.sum_cons]
theorem prt_cross {lo hi : Int} {p : Pt} (hp1 : lo ≤ p.2) (hp2 : p.2 < hi) : ∀ {R : List (List Pt)}, (∀ K ∈ R, 0 < K.length ∧ clearH lo hi K) → ((prtE lo hi (allE R)).filter (turnsE p)).length = crossR p R
  | [], _ => rfl
  | K :: R, h => by
    have ih := prt_cross hp1 hp2 (R := R) fun M hM => h M (List.mem_cons_of_mem _ hM)
    have e := edgeE_count (h K (by simp)).1 hp1 hp2 (h K (by simp)).2
    unfold prtE allE crossR at ih ⊢
    rw [List.filter_filter] at ih ⊢
    have hf : (fun e => turnsE p e && fillsE lo hi e) = fun e => fillsE lo hi e && turnsE p e := funext fun e => Bool.and_comm _ _
    rw [hf] at ih ⊢
    rw [List.map_cons, List.flatten_cons, List.filter_append, List.length_append, ih, e, List.map_cons, List.sum_cons]
theorem prt_le (lo hi : Int) (E : List Bx) : (prtE lo hi E).length ≤ E.length := List.length_filter_le _ _

/-- The heights' i-th slab. -/
def slabE (R : List (List Pt)) (i : Nat) : List Bx := prtE ((hgtL R).getD i 0) ((hgtL R).getD (i + 1) 0) (allE R)
def slabN (R : List (List Pt)) (i : Nat) : Nat := totE ((hgtL R).getD i 0) ((hgtL R).getD (i + 1) 0) R
theorem slab_len {R : List (List Pt)} (h : ∀ K ∈ R, 0 < K.length) (i : Nat) : (slabE R i).length = slabN R i := prt_tot _ _ h
theorem slab_cross {R : List (List Pt)} (h : ∀ K ∈ R, 0 < K.length) {p : Pt} {i : Nat} (hi : i + 1 < (hgtL R).length) (hp1 : (hgtL R).getD i 0 ≤ p.2) (hp2 : p.2 < (hgtL R).getD (i + 1) 0) : ((slabE R i).filter (turnsE p)).length = crossR p R :=
  prt_cross hp1 hp2 fun K hK => ⟨h K hK, hgtL_clear hi K hK⟩
theorem slab_le (R : List (List Pt)) (i : Nat) : (slabE R i).length ≤ allN R := by
  rw [← allE_len]; exact prt_le _ _ _
/-- The greatest number of edges among the first k slabs. -/
def mostK (R : List (List Pt)) : Nat → Nat
  | 0 => 0
  | k + 1 => max (mostK R k) (slabN R k)
theorem most_ge (R : List (List Pt)) {i : Nat} : ∀ {k : Nat}, i < k → slabN R i ≤ mostK R k
  | k + 1, h => by
    unfold mostK
    by_cases e : i = k
    · subst e; omega
    · have := most_ge R (i := i) (k := k) (by omega); omega
theorem most_le (R : List (List Pt)) (h : ∀ K ∈ R, 0 < K.length) : ∀ k, mostK R k ≤ allN R
  | 0 => Nat.zero_le _
  | k + 1 => by
    have h1 := most_le R h k
    have h2 := slab_le R k
    rw [slab_len h] at h2
    unfold mostK
    omega
/-- How many edges the first k slabs have. -/
def offE (R : List (List Pt)) : Nat → Nat
  | 0 => 0
  | k + 1 => offE R k + (slabE R k).length
theorem off_le (R : List (List Pt)) : ∀ k, offE R k ≤ k * allN R
  | 0 => by simp [offE]
  | k + 1 => by
    have h1 := off_le R k
    have h2 := slab_le R k
    rw [Nat.succ_mul]
    unfold offE
    omega
theorem off_up (R : List (List Pt)) {i : Nat} : ∀ {k : Nat}, i ≤ k → offE R i ≤ offE R k
  | 0, h => by obtain rfl : i = 0 := by omega
               exact Nat.le_refl _
  | k + 1, h => by
    by_cases e : i = k + 1
    · subst e; exact Nat.le_refl _
    · have := off_up R (i := i) (k := k) (by omega)
      show offE R i ≤ offE R k + (slabE R k).length
      omega
/-- All slabs' edges, one slab behind the other. -/
def rowE (R : List (List Pt)) : Nat → List Bx
  | 0 => []
  | k + 1 => rowE R k ++ slabE R k
theorem row_len (R : List (List Pt)) : ∀ k, (rowE R k).length = offE R k
  | 0 => rfl
  | k + 1 => by unfold rowE offE; rw [List.length_append, row_len R k]
theorem row_more (R : List (List Pt)) {i : Nat} : ∀ {k : Nat}, i ≤ k → ∃ M, rowE R k = rowE R i ++ M
  | 0, h => by obtain rfl : i = 0 := by omega
               exact ⟨[], by simp⟩
  | k + 1, h => by
    by_cases e : i = k + 1
    · subst e; exact ⟨[], by simp⟩
    · obtain ⟨M, hM⟩ := row_more R (i := i) (k := k) (by omega)
      exact ⟨M ++ slabE R k, by rw [← List.append_assoc, ← hM]; rfl⟩
theorem row_get (R : List (List Pt)) {i k j : Nat} (hi : i < k) (hj : j < (slabE R i).length) : (rowE R k).getD (offE R i + j) (0, 0, 0, 0) = (slabE R i).getD j (0, 0, 0, 0) := by
  obtain ⟨M, hM⟩ := row_more R (i := i + 1) (k := k) (by omega)
  rw [hM, show rowE R (i + 1) = rowE R i ++ slabE R i from rfl, List.append_assoc, List.getD_eq_getElem?_getD, List.getElem?_append_right (by rw [row_len]; omega), row_len, Nat.add_sub_cancel_left, List.getElem?_append_left hj, List.getD_eq_getElem?_getD]

/-- Where a height is searched for: how many heights are not above it, less one. -/
def plcH (l : List Int) (y : Int) : Int := if l.contains y then ((l.countP (· < y) : Nat) : Int) else ((l.countP (· < y) : Nat) : Int) - 1
theorem count_get {l : List Int} (ha : AscH l) {y : Int} {i : Nat} (hi : i < l.length) : i < l.countP (· < y) ↔ l.getD i 0 < y := by
  induction l generalizing i with
  | nil => cases hi
  | cons z l ih =>
    have ha' := List.pairwise_cons.1 ha
    rw [List.countP_cons]
    cases i with
    | zero =>
      show 0 < l.countP (· < y) + (if decide (z < y) = true then 1 else 0) ↔ z < y
      by_cases hz : z < y
      · simp [hz]
      · have h0 : l.countP (· < y) = 0 := by
          rw [List.countP_eq_zero]
          intro x hx
          have := ha'.1 x hx
          simp; omega
        simp [hz, h0]
    | succ i =>
      have hi' : i < l.length := by simpa using hi
      have h1 := ih ha'.2 hi'
      show i + 1 < l.countP (· < y) + (if decide (z < y) = true then 1 else 0) ↔ l.getD i 0 < y
      by_cases hz : z < y
      · simp only [hz, decide_true, if_true]; rw [← h1]; omega
      · have hg : ¬ l.getD i 0 < y := by
          have := ha'.1 (l.getD i 0) (getD_memI hi')
          omega
        have h2 : ¬ i < l.countP (· < y) := fun h => hg (h1.1 h)
        simp only [hz, decide_false, hg, iff_false]
        simp; omega
theorem contains_at {l : List Int} (ha : AscH l) {y : Int} (hc : l.contains y = true) : l.countP (· < y) < l.length ∧ l.getD (l.countP (· < y)) 0 = y := by
  have hm : y ∈ l := by simpa using hc
  obtain ⟨k, hk, e⟩ := List.mem_iff_getElem.1 hm
  have hg : ∀ {i : Nat} (h : i < l.length), l.getD i 0 = l[i] := fun h => by rw [List.getD_eq_getElem?_getD, List.getElem?_eq_getElem h]; rfl
  have e1 : ¬ k < l.countP (· < y) := by rw [count_get ha hk, hg hk]; omega
  have e2 : ¬ l.countP (· < y) < k := fun h => by
    have h3 : l.countP (· < y) < l.length := by omega
    have h4 : l.getD (l.countP (· < y)) 0 < l.getD k 0 := by
      rw [hg h3, hg hk]
      exact (List.pairwise_iff_getElem.1 ha) _ _ h3 hk h
    rw [hg hk, e] at h4
    have := (count_get ha h3).2 h4
    omega
  have e3 : l.countP (· < y) = k := by omega
  rw [e3]
  exact ⟨hk, by rw [hg hk]; exact e⟩
/-- What the place tells. -/
theorem plc_tells {l : List Int} (ha : AscH l) (y : Int) : (plcH l y < 0 → y < l.getD 0 0 ∨ l.length = 0) ∧ (∀ i : Nat, plcH l y = (i : Int) → i < l.length ∧ l.getD i 0 ≤ y ∧ (i + 1 < l.length → y < l.getD (i + 1) 0)) := by
  have hle : l.countP (· < y) ≤ l.length := List.countP_le_length
  unfold plcH
  cases hc : l.contains y with
  | true =>
    obtain ⟨h1, h2⟩ := contains_at ha hc
    simp only [if_true]
    refine ⟨fun h => by omega, fun i h => ?_⟩
    obtain rfl : l.countP (· < y) = i := by omega
    refine ⟨h1, by omega, fun h3 => ?_⟩
    have hn : ¬ l.getD (l.countP (· < y) + 1) 0 < y := fun h4 => by have := (count_get ha h3).2 h4; omega
    by_cases e : l.getD (l.countP (· < y) + 1) 0 = y
    · exfalso
      have hg : ∀ {i : Nat} (h : i < l.length), l.getD i 0 = l[i] := fun h => by rw [List.getD_eq_getElem?_getD, List.getElem?_eq_getElem h]; rfl
      have := (List.pairwise_iff_getElem.1 ha) _ _ h1 h3 (Nat.lt_succ_self _)
      rw [← hg h1, ← hg h3] at this
      omega
    · omega
  | false =>
    have hno : ∀ i (h : i < l.length), l.getD i 0 ≠ y := fun i h e => by
      have : l.contains y = true := by simpa using e ▸ getD_memI h
      rw [hc] at this; cases this
    simp only [Bool.false_eq_true, if_false]
    refine ⟨fun h => ?_, fun i h => ?_⟩
    · by_cases h0 : l.length = 0
      · exact .inr h0
      · left
        have h1 : 0 < l.length := by omega
        have h2 : ¬ l.getD 0 0 < y := fun h3 => by have := (count_get ha h1).2 h3; omega
        have := hno 0 h1
        omega
    · have h1 : i < l.countP (· < y) := by omega
      have h2 : i < l.length := by omega
      refine ⟨h2, by have := (count_get ha h2).1 h1; omega, fun h3 => ?_⟩
      have h4 : ¬ l.getD (i + 1) 0 < y := fun h5 => by have := (count_get ha h3).2 h5; omega
      have := hno (i + 1) h3
      omega
/-- The edges of the slab with a height. -/
def atE (R : List (List Pt)) (y : Int) : List Bx := if 0 ≤ plcH (hgtL R) y ∧ plcH (hgtL R) y + 1 < (hgtL R).length then slabE R (plcH (hgtL R) y).toNat else []
theorem at_cross {R : List (List Pt)} (h : ∀ K ∈ R, 0 < K.length) (h2 : 2 ≤ (hgtL R).length) (p : Pt) : ((atE R p.2).filter (turnsE p)).length = crossR p R := by
  obtain ⟨t1, t2⟩ := plc_tells (hgt_asc (R.flatten.map fun p : Pt => p.2)) p.2
  change (plcH (hgtL R) p.2 < 0 → p.2 < (hgtL R).getD 0 0 ∨ (hgtL R).length = 0) at t1
  change ∀ i : Nat, plcH (hgtL R) p.2 = (i : Int) → i < (hgtL R).length ∧ (hgtL R).getD i 0 ≤ p.2 ∧ (i + 1 < (hgtL R).length → p.2 < (hgtL R).getD (i + 1) 0) at t2
  unfold atE
  by_cases h0 : 0 ≤ plcH (hgtL R) p.2
  · obtain ⟨i, hi⟩ : ∃ i : Nat, plcH (hgtL R) p.2 = (i : Int) := ⟨_, (Int.toNat_of_nonneg h0).symm⟩
    obtain ⟨s1, s2, s3⟩ := t2 i hi
    rw [hi]
    by_cases h3 : i + 1 < (hgtL R).length
    · rw [if_pos ⟨by omega, by omega⟩, Int.toNat_natCast]
      exact slab_cross h h3 s2 (s3 h3)
    · rw [if_neg (by omega)]
      obtain rfl : i = (hgtL R).length - 1 := by omega
      rw [crossR_out (.inr s2)]; rfl
  · rw [if_neg (by omega)]
    rcases t1 (by omega) with h1 | h1
    · rw [crossR_out (.inl h1)]; rfl
    · omega
end

section
set_option linter.unusedVariables false
set_option linter.unusedSimpArgs false
open Go.RowKit

/-- A ring turned about, by so many places. -/
def byF (z : Int) (K : List Pt) : List Pt := turnF2 (z % (K.length : Int)) K
/-- The rings from the s-th on. -/
def rotR (s : Nat) (R : List (List Pt)) : List (List Pt) := (List.range R.length).map fun i => R.getD ((i + s) % R.length) []
theorem rotR_len (s : Nat) (R : List (List Pt)) : (rotR s R).length = R.length := by simp [rotR]
theorem rotR_eq {s : Nat} {R : List (List Pt)} (h : s < R.length) : rotR s R = R.drop s ++ R.take s := by
  unfold rotR
  refine List.ext_getElem (by simp; omega) fun i h1 h2 => ?_
  rw [List.length_map, List.length_range] at h1
  rw [List.getElem_map, List.getElem_range]
  by_cases hi : i < R.length - s
  · rw [List.getElem_append_left (by rw [List.length_drop]; exact hi), List.getElem_drop, Nat.mod_eq_of_lt (by omega), List.getD_eq_getElem?_getD, List.getElem?_eq_getElem (by omega), Option.getD_some]
    congr 1
    omega
  · rw [List.getElem_append_right (by rw [List.length_drop]; omega), List.getElem_take]
    have e : (i + s) % R.length = i - (R.drop s).length := by
      rw [List.length_drop, Nat.mod_eq_sub_mod (by omega), Nat.mod_eq_of_lt (by omega)]
      omega
    rw [e, List.getD_eq_getElem?_getD, List.getElem?_eq_getElem (by rw [List.length_drop]; omega)]
    rfl
theorem rotR_perm {s : Nat} {R : List (List Pt)} (h : s < R.length) : (rotR s R).Perm R := by
  rw [rotR_eq h]
  have := List.perm_append_comm (l₁ := R.drop s) (l₂ := R.take s)
  rwa [List.take_append_drop] at this
/-- What the law makes of a region. -/
def abtR (z : Int) (s : Nat) (R : List (List Pt)) : List (List Pt) := (rotR s R).map (byF z)
theorem byF_len (z : Int) (K : List Pt) : (byF z K).length = K.length := turn2_len _ _
theorem abtR_len (z : Int) (s : Nat) (R : List (List Pt)) : (abtR z s R).length = R.length := by unfold abtR; rw [List.length_map, rotR_len]
theorem abtR_fine {z : Int} {s : Nat} {R : List (List Pt)} (h : s < R.length) : regFine (abtR z s R) ↔ regFine R := by
  unfold abtR
  rw [regFine_map (byF_len z) (fun K => turn2_fine _ K) (fun K M => turn2_meet _ _ K M)]
  exact regFine_perm (rotR_perm h)
theorem abtR_mem {z : Int} {s : Nat} {R : List (List Pt)} (h : s < R.length) (q : List Pt → Prop) (hq : ∀ K, q (byF z K) ↔ q K) : (∃ K ∈ abtR z s R, q K) ↔ ∃ K ∈ R, q K := by
  unfold abtR
  constructor
  · rintro ⟨K, hK, h1⟩
    obtain ⟨M, hM, rfl⟩ := List.mem_map.1 hK
    exact ⟨M, (rotR_perm h).mem_iff.1 hM, (hq M).1 h1⟩
  · rintro ⟨K, hK, h1⟩
    exact ⟨_, List.mem_map.2 ⟨K, (rotR_perm h).mem_iff.2 hK, rfl⟩, (hq K).2 h1⟩
theorem abtR_hgt {z : Int} {s : Nat} {R : List (List Pt)} (h : s < R.length) : hgtL (abtR z s R) = hgtL R :=
  hgtL_same fun y => abtR_mem h (fun K => ∃ p ∈ K, p.2 = y) fun K => ⟨fun ⟨p, hp, e⟩ => ⟨p, turn2_sub _ _ p hp, e⟩, fun ⟨p, hp, e⟩ => ⟨p, turn2_sup _ _ p hp, e⟩⟩
theorem abtR_tot {z : Int} {s : Nat} {R : List (List Pt)} (h : s < R.length) (lo hi : Int) : totE lo hi (abtR z s R) = totE lo hi R := by
  unfold totE abtR
  rw [List.map_map]
  have e : (edgN lo hi ∘ byF z) = edgN lo hi := funext fun K => turn2_edg lo hi _ K
  rw [e]
  exact sum_perm ((rotR_perm h).map _)
theorem abtR_most {z : Int} {s : Nat} {R : List (List Pt)} (h : s < R.length) : ∀ k, mostK (abtR z s R) k = mostK R k
  | 0 => rfl
  | k + 1 => by
    have ih := abtR_most (z := z) h k
    have e : slabN (abtR z s R) k = slabN R k := by unfold slabN; rw [abtR_hgt h, abtR_tot h]
    show max (mostK (abtR z s R) k) (slabN (abtR z s R) k) = max (mostK R k) (slabN R k)
    rw [ih, e]
theorem abtR_in {z : Int} {s : Nat} {R : List (List Pt)} (h : s < R.length) (p : Pt) : regQ p (abtR z s R) = regQ p R := by
  rw [← regQ_perm (rotR_perm h)]
  unfold abtR regQ
  rw [List.filter_map, List.length_map]
  have e : (inQ p ∘ byF z) = inQ p := funext fun K => turn2_in p _ K
  rw [e]
theorem abtR_step {z : Int} {s k : Nat} {R : List (List Pt)} (hk : k < R.length) : (abtR z s R).take (k + 1) = (abtR z s R).take k ++ [byF z (R.getD ((k + s) % R.length) [])] := by
  have hl : k < (abtR z s R).length := by rw [abtR_len]; exact hk
  rw [List.take_succ_eq_append_getElem hl]
  congr 1
  unfold abtR rotR
  simp
theorem byF_get {z : Int} {K : List Pt} {b k : Nat} (hb : (b : Int) = z % (K.length : Int)) (hk : k < K.length) : (byF z K).getD k (0, 0) = K.getD ((K.length - 1 - k + b) % K.length) (0, 0) := by
  unfold byF
  rw [turn2_get _ _ hk, ← hb]
  have h0 : 0 < K.length := by omega
  have hlt := Nat.mod_lt (K.length - 1 - k + b) h0
  rw [cyc_mod (j := (((K.length - 1 - k + b) % K.length : Nat) : Int)), cyc_nat hlt]
  rw [show (K.length : Int) - 1 - (k : Int) + (b : Int) = ((K.length - 1 - k + b : Nat) : Int) by omega]
  push_cast
  rw [Int.emod_emod]
theorem byF_step {z : Int} {K : List Pt} {b k : Nat} (hb : (b : Int) = z % (K.length : Int)) (hk : k < K.length) : (byF z K).take (k + 1) = (byF z K).take k ++ [K.getD ((K.length - 1 - k + b) % K.length) (0, 0)] := by
  have hl : k < (byF z K).length := by rw [byF_len]; exact hk
  rw [List.take_succ_eq_append_getElem hl, ← byF_get hb hk, List.getD_eq_getElem?_getD, List.getElem?_eq_getElem hl]
  rfl
end
end Go.Proofs.YtegliapkbapigaaGreat

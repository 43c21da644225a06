/- Rings: mathematics: points round a list, a ring begun elsewhere, and the other way round; which faults there are. Rings: mathematics: the least point, the way round, the normal one, the same ones. Parity: mathematics: which edges count for a point, how many of a list do. Parity: mathematics: boxes, three points, bounds. Regions: parity over rings; of a box that is cut by a line just one of the two parts has each point. Regions: rings that meet in more than points; what is wrong with a region; regions that are the same. -/
import Derived.Test.YthphdiigjimchaaGreatCrMath
import Derived.Test.YthphdiigjimchaaGreatPtU
import Derived.Test.YthphdiigjimchaaGreatPtTwo
namespace Go.Proofs.YthphdiigjimchaaGreat
section
set_option linter.unusedVariables false
set_option linter.unusedSimpArgs false
open Go.RowKit
abbrev Pt := Int × Int
def cyc (K : List Pt) (i : Int) : Pt := K.getD (i % (K.length : Int)).toNat (0, 0)
theorem cyc_mod {K : List Pt} {i j : Int} (h : i % (K.length : Int) = j % (K.length : Int)) : cyc K i = cyc K j := by unfold cyc; rw [h]
theorem cyc_nat {K : List Pt} {k : Nat} (h : k < K.length) : cyc K (k : Int) = K.getD k (0, 0) := by
  unfold cyc; rw [Int.emod_eq_of_lt (by omega) (by omega)]; rfl
theorem cyc_at {K : List Pt} (hn : 0 < K.length) (i : Int) : ∃ k : Nat, k < K.length ∧ cyc K i = K.getD k (0, 0) ∧ i % (K.length : Int) = (k : Int) := by
  have h1 := Int.emod_nonneg i (b := (K.length : Int)) (by omega)
  have h2 := Int.emod_lt_of_pos i (b := (K.length : Int)) (by omega)
  exact ⟨(i % (K.length : Int)).toNat, by omega, rfl, by omega⟩
theorem list_cyc {K M : List Pt} (hl : K.length = M.length) (h : ∀ k : Nat, k < K.length → cyc K (k : Int) = cyc M (k : Int)) : K = M := by
  apply List.ext_getElem hl
  intro k h1 h2
  have := h k h1
  rw [cyc_nat h1, cyc_nat h2, List.getD_eq_getElem?_getD, List.getD_eq_getElem?_getD, List.getElem?_eq_getElem h1, List.getElem?_eq_getElem h2] at this
  simpa using this
def rotF (K : List Pt) (s : Int) : List Pt := (List.range K.length).map (fun k : Nat => cyc K (s + (k : Int)))
theorem rot_len (K : List Pt) (s : Int) : (rotF K s).length = K.length := by simp [rotF]
theorem rot_getD {K : List Pt} {s : Int} {k : Nat} (h : k < K.length) : (rotF K s).getD k (0, 0) = cyc K (s + (k : Int)) := by
  unfold rotF
  rw [List.getD_eq_getElem?_getD, List.getElem?_map, List.getElem?_range h]; rfl
theorem rot_cyc (K : List Pt) (s i : Int) : cyc (rotF K s) i = cyc K (s + i) := by
  by_cases hn : 0 < K.length
  · obtain ⟨k, hk, e, hm⟩ := cyc_at (K := rotF K s) (by rw [rot_len]; exact hn) i
    rw [rot_len] at hk hm
    rw [e, rot_getD hk, ← hm]
    refine cyc_mod ?_
    rw [Int.add_emod_emod]
  · have : K = [] := by cases K with | nil => rfl | cons a l => simp at hn
    subst this
    simp [rotF, cyc]
def farC (n i j : Int) : Prop := (j - i) % n ≠ 0 ∧ (j - i) % n ≠ 1 ∧ (j - i) % n ≠ n - 1
def turnC (a p b : Pt) : Int := turnF a.1 a.2 p.1 p.2 b.1 b.2
def onC (p a b : Pt) : Bool := onB p.1 p.2 a.1 a.2 b.1 b.2
def okC (p : Pt) : Bool := okP p.1 p.2
def backC (a p b : Pt) : Bool := decide (turnC a p b = 0) && !onC p a b
theorem turnC_eq {a p b : Pt} (ha : okC a = true) (hp : okC p = true) (hb : okC b = true) : turnC a p b = sgn (detQ a p b) := by
  unfold okC at *
  unfold turnC turnF
  rw [ha, hp, hb]; rfl
structure RingC (n : Int) (c : Int → Pt) : Prop where
  ok : ∀ i, okC (c i) = true
  one : ∀ i j, c i = c j → i % n = j % n
  back : ∀ i, backC (c (i - 1)) (c i) (c (i + 1)) = false
  meet : ∀ i j, farC n i j → meetQ (c i) (c (i + 1)) (c j) (c (j + 1)) = 0
def twiceAt (K : List Pt) (i : Nat) : Bool := decide (K.getD i (0, 0) ∈ K.take i)
def backAt (K : List Pt) (i : Nat) : Bool := backC (cyc K ((i : Int) - 1)) (K.getD i (0, 0)) (cyc K ((i : Int) + 1))
def meetTwo (K : List Pt) (i k : Nat) : Bool := !decide (i = 0 ∧ k = K.length - 1) && !decide (meetQ (K.getD i (0, 0)) (cyc K ((i : Int) + 1)) (K.getD k (0, 0)) (cyc K ((k : Int) + 1)) = 0)
def meetsAt (K : List Pt) (i : Nat) : Bool := (List.range K.length).any (fun k => decide (i + 2 ≤ k) && meetTwo K i k)
def firstQ (f : Nat → Bool) (n : Nat) : Option Nat := (List.range n).find? f
def orFault (o : Option Nat) (e : Int) (r : Int × Nat) : Int × Nat := match o with | some i => (e, i) | none => r
def checkF (K : List Pt) : Int × Nat :=
  if 200 < K.length then (3, 0) else if K.length < 3 then (190, 0) else
  orFault (firstQ (fun i => !okC (K.getD i (0, 0))) K.length) 2 (orFault (firstQ (twiceAt K) K.length) 191 (orFault (firstQ (backAt K) K.length) 192 (orFault (firstQ (meetsAt K) K.length) 193 (0, 0))))
theorem first_none {f : Nat → Bool} {n : Nat} : firstQ f n = none ↔ ∀ i, i < n → f i = false := by
  unfold firstQ
  rw [List.find?_eq_none]
  simp
structure fineQ (K : List Pt) : Prop where
  few : 3 ≤ K.length
  long : K.length ≤ 200
  ok : ∀ i, i < K.length → okC (K.getD i (0, 0)) = true
  once : ∀ i, i < K.length → twiceAt K i = false
  back : ∀ i, i < K.length → backAt K i = false
  meet : ∀ i, i < K.length → meetsAt K i = false
theorem or_zero {o : Option Nat} {e : Int} {r : Int × Nat} (he : e ≠ 0) : (orFault o e r).1 = 0 ↔ o = none ∧ r.1 = 0 := by
  cases o with
  | none => simp [orFault]
  | some i => simp [orFault, he]
theorem check_fine {K : List Pt} : (checkF K).1 = 0 ↔ fineQ K := by
  unfold checkF
  by_cases h1 : 200 < K.length
  · rw [if_pos h1]; exact ⟨fun h => absurd h (by decide), fun h => absurd h.long (by omega)⟩
  rw [if_neg h1]
  by_cases h2 : K.length < 3
  · rw [if_pos h2]; exact ⟨fun h => absurd h (by decide), fun h => absurd h.few (by omega)⟩
  rw [if_neg h2, or_zero (by decide), or_zero (by decide), or_zero (by decide), or_zero (by decide), first_none, first_none, first_none, first_none]
  constructor
  · rintro ⟨a, b, c, d, _⟩
    exact ⟨by omega, by omega, fun i hi => by simpa using a i hi, b, c, d⟩
  · intro h
    exact ⟨fun i hi => by rw [h.ok i hi]; rfl, h.once, h.back, h.meet, rfl⟩
theorem twice_iff {K : List Pt} {i : Nat} (hi : i < K.length) : twiceAt K i = false ↔ ∀ j, j < i → K.getD j (0, 0) ≠ K.getD i (0, 0) := by
  unfold twiceAt
  rw [decide_eq_false_iff_not]
  constructor
  · intro h j hj e
    apply h
    rw [← e, List.getD_eq_getElem?_getD, List.getElem?_eq_getElem (by omega)]
    simp only [Option.getD_some]
    rw [List.mem_iff_getElem]
    exact ⟨j, by rw [List.length_take]; omega, by rw [List.getElem_take]⟩
  · intro h hm
    rw [List.mem_iff_getElem] at hm
    obtain ⟨j, hj, e⟩ := hm
    rw [List.length_take] at hj
    rw [List.getElem_take] at e
    refine h j (by omega) ?_
    rw [← e, List.getD_eq_getElem?_getD, List.getElem?_eq_getElem (by omega)]
    rfl
theorem meets_iff {K : List Pt} {i : Nat} : meetsAt K i = false ↔ ∀ k, i + 2 ≤ k → k < K.length → ¬ (i = 0 ∧ k = K.length - 1) → meetQ (K.getD i (0, 0)) (cyc K ((i : Int) + 1)) (K.getD k (0, 0)) (cyc K ((k : Int) + 1)) = 0 := by
  unfold meetsAt meetTwo
  rw [List.any_eq_false]
  constructor
  · intro h k h1 h2 h3
    have := h k (by simpa using h2)
    rw [decide_eq_true h1, decide_eq_false h3] at this
    simpa using this
  · intro h k hk
    rw [List.mem_range] at hk
    by_cases h1 : i + 2 ≤ k
    · by_cases h3 : i = 0 ∧ k = K.length - 1
      · rw [decide_eq_true h3]; simp
      · rw [h k h1 hk h3]; simp
    · rw [decide_eq_false h1]; simp
theorem fine_cyc {K : List Pt} : fineQ K ↔ 3 ≤ K.length ∧ K.length ≤ 200 ∧ RingC (K.length : Int) (cyc K) := by
  constructor
  · intro h
    have hn := h.few
    refine ⟨h.few, h.long, ?_, ?_, ?_, ?_⟩
    · intro i
      obtain ⟨k, hk, e, _⟩ := cyc_at (K := K) (by omega) i
      rw [e]; exact h.ok k hk
    · intro i j e
      obtain ⟨k, hk, e1, m1⟩ := cyc_at (K := K) (by omega) i
      obtain ⟨l, hl, e2, m2⟩ := cyc_at (K := K) (by omega) j
      rw [e1, e2] at e
      rw [m1, m2]
      rcases Nat.lt_trichotomy k l with h1 | h1 | h1
      · exact absurd e ((twice_iff hl).1 (h.once l hl) k h1)
      · rw [h1]
      · exact absurd e.symm ((twice_iff hk).1 (h.once k hk) l h1)
    · intro i
      obtain ⟨k, hk, e, m⟩ := cyc_at (K := K) (by omega) i
      have := h.back k hk
      unfold backAt at this
      rw [e]
      rwa [cyc_mod (i := (k : Int) - 1) (j := i - 1) (by rw [← m, Int.emod_sub_emod]), cyc_mod (i := (k : Int) + 1) (j := i + 1) (by rw [← m, Int.emod_add_emod])] at this
    · intro i j hf
      obtain ⟨k, hk, e1, m1⟩ := cyc_at (K := K) (by omega) i
      obtain ⟨l, hl, e2, m2⟩ := cyc_at (K := K) (by omega) j
      have hd : (j - i) % (K.length : Int) = ((l : Int) - (k : Int)) % (K.length : Int) := by rw [← m1, ← m2, ← Int.sub_emod]
      have n1 : cyc K (i + 1) = cyc K ((k : Int) + 1) := cyc_mod (by rw [← m1, Int.emod_add_emod])
      have n2 : cyc K (j + 1) = cyc K ((l : Int) + 1) := cyc_mod (by rw [← m2, Int.emod_add_emod])
      unfold farC at hf
      rw [hd] at hf
      rw [e1, e2, n1, n2]
      rcases Nat.lt_trichotomy k l with h1 | h1 | h1
      · rw [Int.emod_eq_of_lt (by omega) (by omega)] at hf
        exact meets_iff.1 (h.meet k hk) l (by omega) hl (by omega)
      · subst h1; simp at hf
      · rw [show ((l : Int) - (k : Int)) = ((l : Int) - (k : Int) + (K.length : Int)) - (K.length : Int) by omega, Int.sub_emod_right, Int.emod_eq_of_lt (by omega) (by omega)] at hf
        rw [meet_swap]
        exact meets_iff.1 (h.meet l hl) k (by omega) hk (by omega)
  · rintro ⟨h1, h2, h⟩
    refine ⟨h1, h2, fun i hi => ?_, fun i hi => ?_, fun i hi => ?_, fun i hi => ?_⟩
    · have := h.ok (i : Int)
      rwa [cyc_nat hi] at this
    · rw [twice_iff hi]
      intro j hj e
      rw [← cyc_nat hi, ← cyc_nat (K := K) (k := j) (by omega)] at e
      have := h.one _ _ e
      rw [Int.emod_eq_of_lt (by omega) (by omega), Int.emod_eq_of_lt (by omega) (by omega)] at this
      omega
    · have := h.back (i : Int)
      rw [cyc_nat hi] at this
      exact this
    · rw [meets_iff]
      intro k a b c
      have := h.meet (i : Int) (k : Int) (by
        unfold farC
        rw [Int.emod_eq_of_lt (by omega) (by omega)]
        omega)
      rwa [cyc_nat hi, cyc_nat b] at this
end

section
set_option linter.unusedVariables false
set_option linter.unusedSimpArgs false
open Go.RowKit
def cmpC (p q : Pt) : Int := cmpF p.1 p.2 q.1 q.2
theorem cmpC_zero {p q : Pt} : cmpC p q = 0 ↔ p = q := by
  unfold cmpC cmpF
  constructor
  · intro h
    split at h
    · omega
    · split at h
      · exact Prod.ext (by omega) (by omega)
      · omega
  · rintro rfl; simp
theorem cmpC_neg (p q : Pt) : cmpC q p = - cmpC p q := by
  unfold cmpC cmpF; repeat' split
  all_goals omega
theorem cmpC_trans {p q r : Pt} (h1 : cmpC p q ≤ 0) (h2 : cmpC q r ≤ 0) : cmpC p r ≤ 0 := by
  unfold cmpC cmpF at *; repeat' split
  all_goals (repeat' split at h1) <;> (repeat' split at h2) <;> omega
def leastN (K : List Pt) : Nat → Nat
  | 0 => 0
  | k + 1 => if cmpC (K.getD k (0, 0)) (K.getD (leastN K k) (0, 0)) < 0 then k else leastN K k
def leastF (K : List Pt) : Nat := leastN K K.length
theorem least_lt {K : List Pt} : ∀ k, leastN K k < k ∨ (k = 0 ∧ leastN K k = 0)
  | 0 => .inr ⟨rfl, rfl⟩
  | k + 1 => by
    unfold leastN
    left
    split
    · omega
    · rcases least_lt (K := K) k with h | h <;> omega
theorem least_le {K : List Pt} : ∀ k i, i < k → cmpC (K.getD (leastN K k) (0, 0)) (K.getD i (0, 0)) ≤ 0
  | 0, i, h => by omega
  | k + 1, i, h => by
    unfold leastN
    by_cases hik : i = k
    · subst hik
      split
      · rw [cmpC_zero.2 rfl]; decide
      · rw [cmpC_neg]; omega
    · have := least_le (K := K) k i (by omega)
      split
      · exact cmpC_trans (by omega) this
      · exact this
theorem least_in {K : List Pt} (hn : 0 < K.length) : leastF K < K.length := by
  rcases least_lt (K := K) K.length with h | h
  · exact h
  · omega
def LeastC (K : List Pt) (i : Int) : Prop := ∀ j, cmpC (cyc K i) (cyc K j) ≤ 0
theorem least_c {K : List Pt} (hn : 0 < K.length) : LeastC K (leastF K : Nat) := by
  intro j
  obtain ⟨k, hk, e, _⟩ := cyc_at hn j
  rw [e, cyc_nat (least_in hn)]
  exact least_le _ _ hk
theorem least_one {K : List Pt} (h : fineQ K) {i j : Int} (hi : LeastC K i) (hj : LeastC K j) : i % (K.length : Int) = j % (K.length : Int) := by
  have h1 := hi j
  have h2 := hj i
  rw [cmpC_neg] at h2
  exact (fine_cyc.1 h).2.2.one _ _ (cmpC_zero.1 (by omega))
def turnAt (K : List Pt) (i : Int) : Int := turnC (cyc K (i - 1)) (cyc K i) (cyc K (i + 1))
theorem turnAt_mod {K : List Pt} {i j : Int} (h : i % (K.length : Int) = j % (K.length : Int)) : turnAt K i = turnAt K j := by
  unfold turnAt
  rw [cyc_mod h, cyc_mod (i := i - 1) (j := j - 1) (by rw [Int.sub_emod, h, ← Int.sub_emod]), cyc_mod (i := i + 1) (j := j + 1) (by rw [Int.add_emod, h, ← Int.add_emod])]
open Classical in
noncomputable def signF (K : List Pt) : Int := if fineQ K then turnAt K (leastF K : Nat) else 0
theorem sign_eq {K : List Pt} (h : fineQ K) {i : Int} (hi : LeastC K i) : signF K = turnAt K i := by
  unfold signF
  rw [if_pos h]
  exact turnAt_mod (least_one h (least_c (by have := h.few; omega)) hi)
theorem sgn_three (z : Int) : sgn z = 1 ∨ sgn z = -1 ∨ (sgn z = 0 ∧ z = 0) := by
  rcases sgn_cases z with ⟨a, b⟩ | ⟨a, b⟩ | ⟨a, b⟩
  · exact .inl b
  · exact .inr (.inr ⟨b, a⟩)
  · exact .inr (.inl b)
theorem btw_least {n a b : Int} (h : btw n a b) (h1 : n ≤ a) (h2 : n ≤ b) : n = a ∨ n = b := by unfold btw at h; omega
theorem sign_one {K : List Pt} (h : fineQ K) : signF K = 1 ∨ signF K = -1 := by
  have hn : 0 < K.length := by have := h.few; omega
  have hl := least_c (K := K) hn
  obtain ⟨f1, f2, hc⟩ := fine_cyc.1 h
  rw [sign_eq h hl]
  unfold turnAt
  generalize ((leastF K : Nat) : Int) = m at *
  have b := hc.back m
  have o1 := hc.ok (m - 1)
  have o2 := hc.ok m
  have o3 := hc.ok (m + 1)
  have l1 := hl (m - 1)
  have l2 := hl (m + 1)
  have n1 : cyc K (m - 1) ≠ cyc K m := by
    intro e
    have := hc.one _ _ e
    have k : (m - 1 - m) % (K.length : Int) = 0 := by rw [Int.sub_emod, this, Int.sub_self]; simp
    rw [show m - 1 - m = (K.length : Int) - 1 - (K.length : Int) by omega, Int.sub_emod_right, Int.emod_eq_of_lt (by omega) (by omega)] at k
    omega
  have n2 : cyc K (m + 1) ≠ cyc K m := by
    intro e
    have := hc.one _ _ e
    have k : (m + 1 - m) % (K.length : Int) = 0 := by rw [Int.sub_emod, this, Int.sub_self]; simp
    rw [show m + 1 - m = 1 by omega, Int.emod_eq_of_lt (by omega) (by omega)] at k
    omega
  have n3 : cyc K (m + 1) ≠ cyc K (m - 1) := by
    intro e
    have := hc.one _ _ e
    have k : (m + 1 - (m - 1)) % (K.length : Int) = 0 := by rw [Int.sub_emod, this, Int.sub_self]; simp
    rw [show m + 1 - (m - 1) = 2 by omega, Int.emod_eq_of_lt (by omega) (by omega)] at k
    omega
  unfold backC at b
  rw [turnC_eq o1 o2 o3] at b ⊢
  rcases sgn_three (detQ (cyc K (m - 1)) (cyc K m) (cyc K (m + 1))) with e | e | ⟨e, e0⟩
  · exact .inl e
  · exact .inr e
  · exfalso
    rw [e] at b
    simp at b
    unfold onC onB at b
    simp only [Bool.and_eq_true, decide_eq_true_eq] at b
    obtain ⟨_, h1, h2, h3⟩ := b
    generalize cyc K (m - 1) = p at *
    generalize cyc K m = q at *
    generalize cyc K (m + 1) = r at *
    obtain ⟨px, py⟩ := p
    obtain ⟨qx, qy⟩ := q
    obtain ⟨rx, ry⟩ := r
    unfold cmpC cmpF at l1 l2
    simp only at *
    have l1' : qy < py ∨ (qy = py ∧ qx ≤ px) := by
      split at l1
      · omega
      · split at l1
        · omega
        · omega
    have l2' : qy < ry ∨ (qy = ry ∧ qx ≤ rx) := by
      split at l2
      · omega
      · split at l2
        · omega
        · omega
    have n1' : px ≠ qx ∨ py ≠ qy := by
      by_cases k1 : px = qx
      · exact .inr fun k2 => n1 (by rw [k1, k2])
      · exact .inl k1
    have n2' : rx ≠ qx ∨ ry ≠ qy := by
      by_cases k1 : rx = qx
      · exact .inr fun k2 => n2 (by rw [k1, k2])
      · exact .inl k1
    unfold detP at h1
    have hy := btw_least h3 (by omega) (by omega)
    rcases hy with hy | hy
    · have hd : (qx - px) * (ry - qy) = 0 := by rw [hy]; rw [hy] at h1; grind
      rcases Int.mul_eq_zero.1 hd with k | k
      · omega
      · unfold btw at h2
        omega
    · have hd : (qy - py) * (qx - rx) = 0 := by rw [hy]; rw [hy] at h1; grind
      rcases Int.mul_eq_zero.1 hd with k | k
      · unfold btw at h2; omega
      · omega
open Classical in
noncomputable def normF (K : List Pt) : List Pt :=
  if fineQ K then (if signF K < 0 then rotF K.reverse (leastF K.reverse : Nat) else rotF K (leastF K : Nat)) else []
structure IsNorm (K N : List Pt) : Prop where
  of : ∃ s, N = rotF K s ∨ N = rotF K.reverse s
  left : signF N = 1
  first : LeastC N 0
def SameF (a b : List Pt) : Prop := fineQ a ∧ fineQ b ∧ ∃ s, a = rotF b s ∨ a = rotF b.reverse s
end

section
set_option linter.unusedVariables false
set_option linter.unusedSimpArgs false
open Go.RowKit
def upC (p a b : Pt) : Bool := decide (a.2 ≤ p.2) && decide (p.2 < b.2) && decide (turnC a b p = 1)
def countC (p a b : Pt) : Bool := if b.2 < a.2 then upC p b a else upC p a b
theorem count_swap (p a b : Pt) : countC p b a = countC p a b := by
  unfold countC
  by_cases h1 : b.2 < a.2
  · rw [if_neg (by omega), if_pos h1]
  · rw [if_neg h1]
    by_cases h2 : a.2 < b.2
    · rw [if_pos h2]
    · rw [if_neg h2]
      have e : ∀ x y : Pt, x.2 = y.2 → upC p x y = false := by
        intro x y h
        unfold upC
        rw [Bool.and_eq_false_iff, Bool.and_eq_false_iff, decide_eq_false_iff_not, decide_eq_false_iff_not]
        left
        omega
      rw [e b a (by omega), e a b (by omega)]
def oneN (b : Bool) : Nat := if b then 1 else 0
def pathN (p : Pt) : List Pt → Nat
  | [] => 0
  | [_] => 0
  | a :: b :: L => oneN (countC p a b) + pathN p (b :: L)
theorem path_join (p m : Pt) : ∀ (A B : List Pt), pathN p (A ++ m :: B) = pathN p (A ++ [m]) + pathN p (m :: B)
  | [], B => by simp [pathN]
  | [a], B => by simp [pathN]
  | a :: b :: A, B => by
    have := path_join p m (b :: A) B
    simp only [List.cons_append, pathN] at this ⊢
    omega
theorem path_rev (p : Pt) : ∀ L : List Pt, pathN p L.reverse = pathN p L
  | [] => rfl
  | [a] => rfl
  | a :: b :: L => by
    have ih := path_rev p (b :: L)
    rw [List.reverse_cons, List.reverse_cons, List.append_assoc]
    rw [show [b] ++ [a] = b :: [a] from rfl, path_join, ← List.reverse_cons, ih]
    simp only [pathN]
    rw [count_swap]
    omega
def crossN (p : Pt) : List Pt → Nat
  | [] => 0
  | a :: L => pathN p (a :: L ++ [a])
def inQ (p : Pt) (K : List Pt) : Bool := decide (crossN p K % 2 = 1)
theorem cross_swap_parts (p : Pt) : ∀ A B : List Pt, crossN p (A ++ B) = crossN p (B ++ A)
  | [], B => by simp
  | a :: A, [] => by simp
  | a :: A, b :: B => by
    show pathN p (a :: A ++ b :: B ++ [a]) = pathN p (b :: B ++ a :: A ++ [b])
    rw [show a :: A ++ b :: B ++ [a] = (a :: A) ++ b :: (B ++ [a]) by simp, show b :: B ++ a :: A ++ [b] = (b :: B) ++ a :: (A ++ [b]) by simp, path_join p b (a :: A), path_join p a (b :: B), Nat.add_comm]
    rfl
theorem path_le (p : Pt) : ∀ L : List Pt, pathN p L ≤ L.length - 1
  | [] => by simp [pathN]
  | [a] => by simp [pathN]
  | a :: b :: L => by
    have := path_le p (b :: L)
    simp only [pathN, List.length_cons] at this ⊢
    unfold oneN
    split <;> omega
theorem cross_le (p : Pt) (K : List Pt) : crossN p K ≤ K.length := by
  cases K with
  | nil => exact Nat.le_refl _
  | cons a L =>
    have := path_le p (a :: L ++ [a])
    simp only [List.length_append, List.length_cons, List.length_nil] at this
    show pathN p (a :: L ++ [a]) ≤ _
    simp only [List.length_cons]
    omega
def crossK (p : Pt) (K : List Pt) : Nat → Nat
  | 0 => 0
  | k + 1 => crossK p K k + oneN (countC p (K.getD k (0, 0)) (K.getD ((k + 1) % K.length) (0, 0)))
theorem path_take (p : Pt) (K : List Pt) : ∀ k, k + 1 ≤ K.length → crossK p K k = pathN p (K.take (k + 1))
  | 0, h => by
    cases K with
    | nil => rfl
    | cons a L => rfl
  | k + 1, h => by
    have ih := path_take p K k (by omega)
    have e1 : K.take (k + 1) = K.take k ++ [K[k]'(by omega)] := by rw [List.take_succ_eq_append_getElem]
    have e2 : K.take (k + 1 + 1) = K.take k ++ K[k]'(by omega) :: [K[k + 1]'(by omega)] := by
      rw [List.take_succ_eq_append_getElem (show k + 1 < K.length by omega), e1, List.append_assoc]; rfl
    rw [e2, path_join, ← e1, ← ih]
    simp only [crossK, pathN]
    rw [Nat.mod_eq_of_lt (by omega), List.getD_eq_getElem?_getD, List.getD_eq_getElem?_getD, List.getElem?_eq_getElem (by omega), List.getElem?_eq_getElem (by omega)]
    rfl
theorem cross_all (p : Pt) (K : List Pt) : crossK p K K.length = crossN p K := by
  cases K with
  | nil => rfl
  | cons a L =>
    show crossK p (a :: L) (L.length + 1) = pathN p (a :: L ++ [a])
    have h := path_take p (a :: L) L.length (by simp)
    rw [List.take_of_length_le (by simp)] at h
    simp only [crossK]
    rw [h]
    have hl : ∃ A z, a :: L = A ++ [z] := ⟨(a :: L).dropLast, (a :: L).getLast (by simp), (List.dropLast_concat_getLast (by simp)).symm⟩
    obtain ⟨A, z, e⟩ := hl
    have hz : (a :: L).getD L.length (0, 0) = z := by
      have : L.length = A.length := by have := congrArg List.length e; simp at this; omega
      rw [e, this, List.getD_eq_getElem?_getD, List.getElem?_append_right (Nat.le_refl _)]; simp
    have ha : (a :: L).getD ((L.length + 1) % (a :: L).length) (0, 0) = a := by
      rw [List.length_cons, Nat.mod_self]; rfl
    rw [hz, ha, e, List.append_assoc, show [z] ++ [a] = z :: [a] from rfl, path_join p z A [a]]
    simp [pathN]
def joinL (a : Pt) (L : List Pt) (b : Pt) (M : List Pt) : List Pt := a :: L ++ b :: M
theorem cross_joinL (p a b : Pt) (L M : List Pt) : crossN p (joinL a L b M) = pathN p (a :: L ++ [b]) + pathN p (b :: M ++ [a]) := by
  show pathN p (a :: L ++ b :: M ++ [a]) = _
  rw [show a :: L ++ b :: M ++ [a] = (a :: L) ++ b :: (M ++ [a]) by simp, path_join p b (a :: L) (M ++ [a])]; rfl
theorem cross_adds (p f t : Pt) (part one two : List Pt) : (crossN p (joinL f part t one) + crossN p (joinL t part.reverse f two)) % 2 = crossN p (joinL f two t one) % 2 := by
  rw [cross_joinL, cross_joinL, cross_joinL]
  have : pathN p (t :: part.reverse ++ [f]) = pathN p (f :: part ++ [t]) := by
    rw [← path_rev p (f :: part ++ [t])]; simp
  rw [this]; omega
theorem in_adds (p f t : Pt) (part one two : List Pt) : (inQ p (joinL f part t one) != inQ p (joinL t part.reverse f two)) = inQ p (joinL f two t one) := by
  have h := cross_adds p f t part one two
  unfold inQ
  rw [Bool.eq_iff_iff]
  simp only [bne_iff_ne, ne_eq, decide_eq_decide, decide_eq_true_eq]
  omega
end

section
set_option linter.unusedVariables false
set_option linter.unusedSimpArgs false
open Go.RowKit
theorem sgn_one {z : Int} : sgn z = 1 ↔ 0 < z := by
  rcases sgn_cases z with ⟨a, b⟩ | ⟨a, b⟩ | ⟨a, b⟩ <;> rw [b] <;> omega
theorem count_iff {p a b : Pt} (hp : okC p = true) (ha : okC a = true) (hb : okC b = true) : countC p a b = true ↔ (a.2 ≤ p.2 ∧ p.2 < b.2 ∧ 0 < detQ a b p) ∨ (b.2 ≤ p.2 ∧ p.2 < a.2 ∧ detQ a b p < 0) := by
  have e : detQ b a p = - detQ a b p := detQ_swap
  unfold countC upC
  by_cases h : b.2 < a.2
  · rw [if_pos h, turnC_eq hb ha hp]
    simp only [Bool.and_eq_true, decide_eq_true_eq]
    rw [sgn_one, e]
    omega
  · rw [if_neg h, turnC_eq ha hb hp]
    simp only [Bool.and_eq_true, decide_eq_true_eq]
    rw [sgn_one]
    omega
theorem one_true {b : Bool} (h : b = true) : oneN b = 1 := by rw [h]; rfl
theorem one_false {b : Bool} (h : ¬ b = true) : oneN b = 0 := by cases b <;> simp_all [oneN]
theorem cross_four (p a b c d : Pt) : crossN p [a, b, c, d] = oneN (countC p a b) + (oneN (countC p b c) + (oneN (countC p c d) + (oneN (countC p d a) + 0))) := rfl
def boxR (lx ly hx hy : Int) : List Pt := [(lx, ly), (hx, ly), (hx, hy), (lx, hy)]
theorem vert_det (x y0 y1 px py : Int) : detQ (x, y0) (x, y1) (px, py) = (y1 - y0) * (x - px) := by unfold detQ detP; simp only; grind
theorem in_boxR {px py lx ly hx hy : Int} (hp : okC (px, py) = true) (hl : okC (lx, ly) = true) (hh : okC (hx, hy) = true) (h1 : lx < hx) (h2 : ly < hy) : inQ (px, py) (boxR lx ly hx hy) = inF px py lx ly hx hy := by
  have o1 : okC (hx, ly) = true := by unfold okC at *; rw [okP_iff] at *; simp only at *; omega
  have o2 : okC (lx, hy) = true := by unfold okC at *; rw [okP_iff] at *; simp only at *; omega
  have n1 : oneN (countC (px, py) (lx, ly) (hx, ly)) = 0 := one_false (by rw [count_iff hp hl o1]; simp only; omega)
  have n3 : oneN (countC (px, py) (hx, hy) (lx, hy)) = 0 := one_false (by rw [count_iff hp hh o2]; simp only; omega)
  have d1 : 0 < detQ (hx, ly) (hx, hy) (px, py) ↔ px < hx := by
    rw [vert_det]
    constructor
    · intro h
      apply Decidable.byContradiction
      intro k
      have := Int.mul_nonneg (show 0 ≤ hy - ly by omega) (show 0 ≤ px - hx by omega)
      have e : (hy - ly) * (hx - px) = - ((hy - ly) * (px - hx)) := by grind
      omega
    · intro h; exact Int.mul_pos (by omega) (by omega)
  have d2 : detQ (lx, hy) (lx, ly) (px, py) < 0 ↔ px < lx := by
    have e : detQ (lx, hy) (lx, ly) (px, py) = - ((hy - ly) * (lx - px)) := by rw [vert_det]; grind
    rw [e]
    constructor
    · intro h
      apply Decidable.byContradiction
      intro k
      have := Int.mul_nonneg (show 0 ≤ hy - ly by omega) (show 0 ≤ px - lx by omega)
      have e : (hy - ly) * (lx - px) = - ((hy - ly) * (px - lx)) := by grind
      omega
    · intro h; have := Int.mul_pos (show 0 < hy - ly by omega) (show 0 < lx - px by omega); omega
  unfold inQ boxR inF
  rw [cross_four, n1, n3]
  have c2 := count_iff hp o1 hh
  have c4 := count_iff hp o2 hl
  rw [d1] at c2
  rw [d2] at c4
  simp only at c2 c4
  refine decide_eq_decide.2 ?_
  by_cases k2 : countC (px, py) (hx, ly) (hx, hy) = true
  · rw [one_true k2]
    have := c2.1 k2
    by_cases k4 : countC (px, py) (lx, hy) (lx, ly) = true
    · rw [one_true k4]; have := c4.1 k4; omega
    · rw [one_false k4]
      have : ¬ (hy ≤ py ∧ py < ly ∧ 0 < detQ (lx, hy) (lx, ly) (px, py) ∨ ly ≤ py ∧ py < hy ∧ px < lx) := fun h => k4 (c4.2 h)
      omega
  · rw [one_false k2]
    have m2 : ¬ (ly ≤ py ∧ py < hy ∧ px < hx ∨ hy ≤ py ∧ py < ly ∧ detQ (hx, ly) (hx, hy) (px, py) < 0) := fun h => k2 (c2.2 h)
    by_cases k4 : countC (px, py) (lx, hy) (lx, ly) = true
    · have := c4.1 k4; omega
    · rw [one_false k4]; omega
def triN (d A B : Int) : Nat := if (A ≤ 0 ∧ 0 < B ∧ 0 < d) ∨ (B ≤ 0 ∧ 0 < A ∧ d < 0) then 1 else 0
theorem edge_far_right {p a b : Pt} (h : 0 < detQ a b p) (h1 : a.2 ≤ p.2) (h2 : p.2 < b.2) : p.1 < a.1 ∨ p.1 < b.1 := by
  apply Decidable.byContradiction
  intro k
  have e : detQ a b p = -((b.2 - p.2) * (p.1 - a.1) + (p.2 - a.2) * (p.1 - b.1)) := by unfold detQ detP; grind
  have x := Int.mul_nonneg (show 0 ≤ b.2 - p.2 by omega) (show 0 ≤ p.1 - a.1 by omega)
  have y := Int.mul_nonneg (show 0 ≤ p.2 - a.2 by omega) (show 0 ≤ p.1 - b.1 by omega)
  omega
theorem edge_left {p a b : Pt} (h1 : a.2 ≤ p.2) (h2 : p.2 < b.2) (h3 : p.1 < a.1) (h4 : p.1 < b.1) : 0 < detQ a b p := by
  have e : detQ a b p = (b.2 - p.2) * (a.1 - p.1) + (p.2 - a.2) * (b.1 - p.1) := by unfold detQ detP; grind
  have x := Int.mul_pos (show 0 < b.2 - p.2 by omega) (show 0 < a.1 - p.1 by omega)
  have y := Int.mul_nonneg (show 0 ≤ p.2 - a.2 by omega) (show 0 ≤ b.1 - p.1 by omega)
  omega
theorem path_par (p : Pt) (s : Pt → Bool) : ∀ (a : Pt) (L : List Pt) (z : Pt), (∀ x ∈ a :: L ++ [z], ∀ y ∈ a :: L ++ [z], countC p x y = (s x != s y)) → pathN p (a :: L ++ [z]) % 2 = oneN (s a != s z) % 2
  | a, [], z, h => by
    show (oneN (countC p a z) + 0) % 2 = _
    rw [h a (by simp) z (by simp)]; simp
  | a, b :: L, z, h => by
    have ih := path_par p s b L z (fun x hx y hy => h x (List.mem_cons_of_mem _ hx) y (List.mem_cons_of_mem _ hy))
    show (oneN (countC p a b) + pathN p (b :: L ++ [z])) % 2 = _
    rw [h a (by simp) b (by simp), Nat.add_mod, ih]
    cases s a <;> cases s b <;> cases s z <;> decide
theorem cross_par (p : Pt) (s : Pt → Bool) (K : List Pt) (h : ∀ x ∈ K, ∀ y ∈ K, countC p x y = (s x != s y)) : crossN p K % 2 = 0 := by
  cases K with
  | nil => rfl
  | cons a L =>
    show pathN p (a :: L ++ [a]) % 2 = 0
    have m : ∀ x, x ∈ a :: L ++ [a] → x ∈ a :: L := by intro x hx; simp at hx ⊢; rcases hx with h | h | h <;> simp [h]
    rw [path_par p s a L a (fun x hx y hy => h x (m x hx) y (m y hy))]
    cases s a <;> rfl
theorem path_some (p : Pt) : ∀ K : List Pt, 0 < pathN p K → ∃ a ∈ K, ∃ b ∈ K, countC p a b = true
  | [], h => by simp [pathN] at h
  | [a], h => by simp [pathN] at h
  | a :: b :: L, h => by
    by_cases hc : countC p a b = true
    · exact ⟨a, by simp, b, by simp, hc⟩
    · simp only [pathN, one_false hc, Nat.zero_add] at h
      obtain ⟨x, hx, y, hy, e⟩ := path_some p (b :: L) h
      exact ⟨x, List.mem_cons_of_mem _ hx, y, List.mem_cons_of_mem _ hy, e⟩
theorem cross_some (p : Pt) (K : List Pt) (h : 0 < crossN p K) : ∃ a ∈ K, ∃ b ∈ K, countC p a b = true := by
  cases K with
  | nil => exact absurd h (Nat.lt_irrefl 0)
  | cons a L =>
    obtain ⟨x, hx, y, hy, e⟩ := path_some p (a :: L ++ [a]) h
    have m : ∀ x, x ∈ a :: L ++ [a] → x ∈ a :: L := by intro x hx; simp at hx ⊢; rcases hx with h | h | h <;> simp [h]
    exact ⟨x, m x hx, y, m y hy, e⟩
end

section
set_option linter.unusedVariables false
set_option linter.unusedSimpArgs false
theorem count_bad {p a b : Pt} (h : ¬ okC p = true) : countC p a b = false := by
  have t : ∀ x y, turnC x y p ≠ 1 := by
    intro x y
    unfold turnC turnF
    rw [if_neg (by unfold okC at h; simp only [Bool.and_eq_true]; exact fun k => h k.2)]
    decide
  unfold countC upC
  split <;> simp [t]
theorem cross_zero0 {p : Pt} {K : List Pt} (h : ∀ a ∈ K, ∀ b ∈ K, countC p a b = false) : crossN p K = 0 := by
  apply Decidable.byContradiction
  intro k
  obtain ⟨a, ha, b, hb, hc⟩ := cross_some p K (by omega)
  rw [h a ha b hb] at hc; cases hc
theorem in_out {p : Pt} {K : List Pt} {lx ly hx hy : Int} (hK : ∀ a ∈ K, okC a = true ∧ lx ≤ a.1 ∧ a.1 ≤ hx ∧ ly ≤ a.2 ∧ a.2 ≤ hy) (h : inF p.1 p.2 lx ly hx hy = false) : inQ p K = false := by
  unfold inQ
  rw [decide_eq_false_iff_not]
  by_cases hp : okC p = true
  · by_cases hl : p.1 < lx
    · rw [cross_par p (fun a => decide (a.2 ≤ p.2)) K (fun a ha b hb => ?_)]
      · decide
      · obtain ⟨oa, a1, a2, a3, a4⟩ := hK a ha
        obtain ⟨ob, b1, b2, b3, b4⟩ := hK b hb
        rw [Bool.eq_iff_iff, count_iff hp oa ob]
        constructor
        · rintro (⟨k1, k2, _⟩ | ⟨k1, k2, _⟩)
          · rw [decide_eq_true k1, decide_eq_false (show ¬ b.2 ≤ p.2 by omega)]; rfl
          · rw [decide_eq_true k1, decide_eq_false (show ¬ a.2 ≤ p.2 by omega)]; rfl
        · intro k
          by_cases k1 : a.2 ≤ p.2
          · by_cases k2 : b.2 ≤ p.2
            · rw [decide_eq_true k1, decide_eq_true k2] at k; cases k
            · exact .inl ⟨k1, by omega, edge_left k1 (by omega) (by omega) (by omega)⟩
          · by_cases k2 : b.2 ≤ p.2
            · refine .inr ⟨k2, by omega, ?_⟩
              have := edge_left (p := p) (a := b) (b := a) k2 (by omega) (by omega) (by omega)
              rw [detQ_swap] at this; omega
            · rw [decide_eq_false k1, decide_eq_false k2] at k; cases k
    · rw [cross_zero0 (fun a ha b hb => ?_)]
      · decide
      · obtain ⟨oa, a1, a2, a3, a4⟩ := hK a ha
        obtain ⟨ob, b1, b2, b3, b4⟩ := hK b hb
        apply Decidable.byContradiction
        intro k
        have k := (count_iff hp oa ob).1 (by simpa using k)
        have hr : (p.1 < a.1 ∨ p.1 < b.1) ∧ ly ≤ p.2 ∧ p.2 < hy := by
          rcases k with ⟨k1, k2, k3⟩ | ⟨k1, k2, k3⟩
          · exact ⟨edge_far_right k3 k1 k2, by omega, by omega⟩
          · have : 0 < detQ b a p := by rw [detQ_swap]; omega
            exact ⟨(edge_far_right this k1 k2).symm, by omega, by omega⟩
        unfold inF at h
        have : p.1 < hx := by omega
        simp at h
        omega
  · rw [cross_zero0 (fun a _ b _ => count_bad hp)]; decide
def boxAB (lx ly hx hy fy ty : Int) : List Pt := joinL (lx, fy) [(lx, ly), (hx, ly)] (hx, ty) [(hx, hy), (lx, hy)]
theorem in_boxAB {px py lx ly hx hy fy ty : Int} (hl : okC (lx, ly) = true) (hh : okC (hx, hy) = true) (h1 : lx < hx) (h2 : ly < hy) (f1 : ly ≤ fy) (f2 : fy ≤ hy) (t1 : ly ≤ ty) (t2 : ty ≤ hy) (hb : inF px py lx ly hx hy = true) : inQ (px, py) (boxAB lx ly hx hy fy ty) = true := by
  have ok : ∀ u v : Int, lx ≤ u → u ≤ hx → ly ≤ v → v ≤ hy → okC (u, v) = true := by
    intro u v a b c d
    unfold okC okP okI at *
    simp only [Bool.and_eq_true, decide_eq_true_eq] at *
    omega
  unfold inF at hb
  simp only [Bool.and_eq_true, decide_eq_true_eq] at hb
  have hp : okC (px, py) = true := ok px py (by omega) (by omega) (by omega) (by omega)
  have c1 := (count_iff hp (ok lx fy (by omega) (by omega) (by omega) (by omega)) (ok lx ly (by omega) (by omega) (by omega) (by omega)))
  have c2 := (count_iff hp (ok lx ly (by omega) (by omega) (by omega) (by omega)) (ok hx ly (by omega) (by omega) (by omega) (by omega)))
  have c3 := (count_iff hp (ok hx ly (by omega) (by omega) (by omega) (by omega)) (ok hx ty (by omega) (by omega) (by omega) (by omega)))
  have c4 := (count_iff hp (ok hx ty (by omega) (by omega) (by omega) (by omega)) (ok hx hy (by omega) (by omega) (by omega) (by omega)))
  have c5 := (count_iff hp (ok hx hy (by omega) (by omega) (by omega) (by omega)) (ok lx hy (by omega) (by omega) (by omega) (by omega)))
  have c6 := (count_iff hp (ok lx hy (by omega) (by omega) (by omega) (by omega)) (ok lx fy (by omega) (by omega) (by omega) (by omega)))
  rw [vert_det] at c1 c3 c4 c6
  have e : crossN (px, py) (boxAB lx ly hx hy fy ty) = oneN (countC (px, py) (lx, fy) (lx, ly)) + (oneN (countC (px, py) (lx, ly) (hx, ly)) + (oneN (countC (px, py) (hx, ly) (hx, ty)) + (oneN (countC (px, py) (hx, ty) (hx, hy)) + (oneN (countC (px, py) (hx, hy) (lx, hy)) + (oneN (countC (px, py) (lx, hy) (lx, fy)) + 0))))) := rfl
  have n1 : ¬ countC (px, py) (lx, fy) (lx, ly) = true := by
    rw [c1]; simp only
    rintro (⟨a, b, c⟩ | ⟨a, b, c⟩)
    · omega
    · have := Int.mul_nonneg_of_nonpos_of_nonpos (show ly - fy ≤ 0 by omega) (show lx - px ≤ 0 by omega); omega
  have n2 : ¬ countC (px, py) (lx, ly) (hx, ly) = true := by
    rw [c2]; simp only
    rintro (⟨a, b, c⟩ | ⟨a, b, c⟩) <;> omega
  have n5 : ¬ countC (px, py) (hx, hy) (lx, hy) = true := by
    rw [c5]; simp only
    rintro (⟨a, b, c⟩ | ⟨a, b, c⟩) <;> omega
  have n6 : ¬ countC (px, py) (lx, hy) (lx, fy) = true := by
    rw [c6]; simp only
    rintro (⟨a, b, c⟩ | ⟨a, b, c⟩)
    · omega
    · have := Int.mul_nonneg_of_nonpos_of_nonpos (show fy - hy ≤ 0 by omega) (show lx - px ≤ 0 by omega); omega
  unfold inQ
  rw [decide_eq_true_eq, e, one_false n1, one_false n2, one_false n5, one_false n6]
  by_cases hy3 : py < ty
  · have k3 : countC (px, py) (hx, ly) (hx, ty) = true := c3.2 (.inl ⟨by simp only; omega, hy3, Int.mul_pos (by omega) (by omega)⟩)
    have k4 : ¬ countC (px, py) (hx, ty) (hx, hy) = true := by
      rw [c4]; simp only
      rintro (⟨a, b, c⟩ | ⟨a, b, c⟩) <;> omega
    rw [one_true k3, one_false k4]
  · have k4 : countC (px, py) (hx, ty) (hx, hy) = true := c4.2 (.inl ⟨by simp only; omega, by simp only; omega, Int.mul_pos (by omega) (by omega)⟩)
    have k3 : ¬ countC (px, py) (hx, ly) (hx, ty) = true := by
      rw [c3]; simp only
      rintro (⟨a, b, c⟩ | ⟨a, b, c⟩) <;> omega
    rw [one_true k4, one_false k3]
theorem in_tiles {p : Pt} {lx ly hx hy fy ty : Int} {cut : List Pt} (hl : okC (lx, ly) = true) (hh : okC (hx, hy) = true) (h1 : lx < hx) (h2 : ly < hy) (f1 : ly ≤ fy) (f2 : fy ≤ hy) (t1 : ly ≤ ty) (t2 : ty ≤ hy)
    (hc : ∀ a ∈ cut, lx ≤ a.1 ∧ a.1 ≤ hx ∧ ly ≤ a.2 ∧ a.2 ≤ hy) :
    (inF p.1 p.2 lx ly hx hy = true → inQ p ([(lx, ly), (hx, ly)] ++ ((lx, fy) :: cut ++ [(hx, ty)]).reverse) = !inQ p ([(hx, hy), (lx, hy)] ++ ((lx, fy) :: cut ++ [(hx, ty)]))) ∧
    (inF p.1 p.2 lx ly hx hy = false → inQ p ([(lx, ly), (hx, ly)] ++ ((lx, fy) :: cut ++ [(hx, ty)]).reverse) = false ∧ inQ p ([(hx, hy), (lx, hy)] ++ ((lx, fy) :: cut ++ [(hx, ty)])) = false) := by
  have ok : ∀ u v : Int, lx ≤ u → u ≤ hx → ly ≤ v → v ≤ hy → okC (u, v) = true := by
    intro u v a b c d
    unfold okC okP okI at *
    simp only [Bool.and_eq_true, decide_eq_true_eq] at *
    omega
  constructor
  · intro hb
    have e1 : inQ p ([(lx, ly), (hx, ly)] ++ ((lx, fy) :: cut ++ [(hx, ty)]).reverse) = inQ p (joinL (hx, ty) cut.reverse (lx, fy) [(lx, ly), (hx, ly)]) := by
      unfold inQ
      rw [cross_swap_parts]
      unfold joinL
      simp
    have e2 : inQ p ([(hx, hy), (lx, hy)] ++ ((lx, fy) :: cut ++ [(hx, ty)])) = inQ p (joinL (lx, fy) cut (hx, ty) [(hx, hy), (lx, hy)]) := by
      unfold inQ
      rw [cross_swap_parts]
      unfold joinL
      simp
    have k := in_adds p (lx, fy) (hx, ty) cut [(hx, hy), (lx, hy)] [(lx, ly), (hx, ly)]
    rw [← e1, ← e2, show inQ p (joinL (lx, fy) [(lx, ly), (hx, ly)] (hx, ty) [(hx, hy), (lx, hy)]) = true from in_boxAB hl hh h1 h2 f1 f2 t1 t2 hb] at k
    revert k
    cases inQ p ([(lx, ly), (hx, ly)] ++ ((lx, fy) :: cut ++ [(hx, ty)]).reverse) <;> cases inQ p ([(hx, hy), (lx, hy)] ++ ((lx, fy) :: cut ++ [(hx, ty)])) <;> simp
  · intro hb
    have all : ∀ a, a ∈ ((lx, fy) :: cut ++ [(hx, ty)]) → okC a = true ∧ lx ≤ a.1 ∧ a.1 ≤ hx ∧ ly ≤ a.2 ∧ a.2 ≤ hy := by
      intro a ha
      have hin : lx ≤ a.1 ∧ a.1 ≤ hx ∧ ly ≤ a.2 ∧ a.2 ≤ hy := by
        simp only [List.cons_append, List.mem_cons, List.mem_append, List.mem_nil_iff, or_false] at ha
        rcases ha with rfl | ha | rfl
        · exact ⟨by simp, by simp only; omega, f1, f2⟩
        · exact hc a ha
        · exact ⟨by simp only; omega, by simp, t1, t2⟩
      exact ⟨ok a.1 a.2 hin.1 hin.2.1 hin.2.2.1 hin.2.2.2, hin⟩
    refine ⟨in_out (fun a ha => ?_) hb, in_out (fun a ha => ?_) hb⟩
    · rw [List.mem_append] at ha
      rcases ha with ha | ha
      · simp only [List.mem_cons, List.mem_nil_iff, or_false] at ha
        rcases ha with rfl | rfl
        · exact ⟨hl, by simp, by simp only; omega, by simp, by simp only; omega⟩
        · exact ⟨ok _ _ (by omega) (by omega) (by omega) (by omega), by simp only; omega, by simp, by simp, by simp only; omega⟩
      · exact all a (List.mem_reverse.1 ha)
    · rw [List.mem_append] at ha
      rcases ha with ha | ha
      · simp only [List.mem_cons, List.mem_nil_iff, or_false] at ha
        rcases ha with rfl | rfl
        · exact ⟨hh, by simp only; omega, by simp, by simp only; omega, by simp⟩
        · exact ⟨ok _ _ (by omega) (by omega) (by omega) (by omega), by simp, by simp only; omega, by simp only; omega, by simp⟩
      · exact all a ha
def regQ (p : Pt) (R : List (List Pt)) : Bool := decide ((R.filter (inQ p)).length % 2 = 1)
theorem reg_app (p : Pt) (R : List (List Pt)) (K : List Pt) : regQ p (R ++ [K]) = (regQ p R != inQ p K) := by
  unfold regQ
  rw [List.filter_append, List.length_append]
  cases h : inQ p K
  · simp [h]
  · simp only [List.filter_cons, h, if_true, List.filter_nil, List.length_cons, List.length_nil]
    rcases Nat.mod_two_eq_zero_or_one (R.filter (inQ p)).length with e | e
    · rw [decide_eq_false (show ¬ (R.filter (inQ p)).length % 2 = 1 by omega), decide_eq_true (show ((R.filter (inQ p)).length + (0 + 1)) % 2 = 1 by omega)]; rfl
    · rw [decide_eq_true e, decide_eq_false (show ¬ ((R.filter (inQ p)).length + (0 + 1)) % 2 = 1 by omega)]; rfl
end

section
set_option linter.unusedVariables false
set_option linter.unusedSimpArgs false
def overC (K M : List Pt) (i j : Int) : Prop := 2 ≤ meetQ (cyc K i) (cyc K (i + 1)) (cyc M j) (cyc M (j + 1))
def rMeet (K M : List Pt) : Bool := (List.range K.length).any fun i : Nat => (List.range M.length).any fun k : Nat => decide (2 ≤ meetQ (cyc K (i : Int)) (cyc K ((i : Int) + 1)) (cyc M (k : Int)) (cyc M ((k : Int) + 1)))
def allN (R : List (List Pt)) : Nat := (R.map List.length).sum
structure regFine (R : List (List Pt)) : Prop where
  few : 0 < R.length
  long : R.length ≤ 20
  many : allN R ≤ 400
  each : ∀ K ∈ R, fineQ K
  apart : R.Pairwise fun K M => rMeet K M = false
def ringsAt (R : List (List Pt)) (i : Nat) : Bool := (R.drop (i + 1)).any fun M => rMeet (R.getD i []) M
def badAt (R : List (List Pt)) (i : Nat) : Bool := !decide ((checkF (R.getD i [])).1 = 0)
def checkR (R : List (List Pt)) : Int × Nat :=
  if 20 < R.length then (3, 0) else if R.length = 0 then (2, 0) else if 400 < allN R then (211, 0) else
  match firstQ (badAt R) R.length with
  | some i => ((checkF (R.getD i [])).1, i)
  | none => orFault (firstQ (ringsAt R) R.length) 210 (0, 0)
theorem pairwise_at {α : Type} {r : α → α → Bool} {d : α} : ∀ {L : List α}, L.Pairwise (fun a b => r a b = false) ↔ ∀ i, i < L.length → (L.drop (i + 1)).any (r (L.getD i d)) = false
  | [] => by simp
  | a :: L => by
    rw [List.pairwise_cons, pairwise_at (L := L)]
    constructor
    · rintro ⟨h1, h2⟩ i hi
      cases i with
      | zero =>
        rw [List.any_eq_false]
        intro x hx
        simpa using h1 x (by simpa using hx)
      | succ i => exact h2 i (by simpa using hi)
    · intro h
      refine ⟨fun x hx => ?_, fun i hi => h (i + 1) (by simpa using hi)⟩
      have := h 0 (by simp)
      rw [List.any_eq_false] at this
      simpa using this x (by simpa using hx)
theorem checkR_fine {R : List (List Pt)} : (checkR R).1 = 0 ↔ regFine R := by
  unfold checkR
  by_cases h1 : 20 < R.length
  · rw [if_pos h1]; exact ⟨fun h => absurd h (by decide), fun h => absurd h.long (by omega)⟩
  rw [if_neg h1]
  by_cases h2 : R.length = 0
  · rw [if_pos h2]; exact ⟨fun h => absurd h (by decide), fun h => absurd h.few (by omega)⟩
  rw [if_neg h2]
  by_cases h3 : 400 < allN R
  · rw [if_pos h3]; exact ⟨fun h => absurd h (by decide), fun h => absurd h.many (by omega)⟩
  rw [if_neg h3]
  cases hb : firstQ (badAt R) R.length with
  | some i =>
    unfold firstQ at hb
    rw [List.find?_range_eq_some] at hb
    obtain ⟨b1, b2, _⟩ := hb
    unfold badAt at b1
    have b3 : ¬ (checkF (R.getD i [])).1 = 0 := by simpa using b1
    have hi : i < R.length := by simpa using b2
    refine ⟨fun h => absurd h b3, fun h => absurd (check_fine.2 (h.each _ ?_)) b3⟩
    rw [List.getD_eq_getElem?_getD, List.getElem?_eq_getElem hi]
    exact List.getElem_mem hi
  | none =>
    rw [first_none] at hb
    rw [or_zero (by decide), first_none]
    have he : ∀ K ∈ R, fineQ K := by
      intro K hK
      obtain ⟨i, hi, e⟩ := List.mem_iff_getElem.1 hK
      have := hb i hi
      unfold badAt at this
      rw [List.getD_eq_getElem?_getD, List.getElem?_eq_getElem hi] at this
      rw [← e]
      exact check_fine.1 (by simpa using this)
    constructor
    · rintro ⟨h, _⟩
      exact ⟨by omega, by omega, by omega, he, pairwise_at.2 h⟩
    · intro h
      exact ⟨pairwise_at.1 h.apart, rfl⟩
def sameR (A B : List (List Pt)) : Prop := regFine A ∧ regFine B ∧ (A.map normF).Perm (B.map normF)
theorem regQ_perm {p : Pt} {R S : List (List Pt)} (h : R.Perm S) : regQ p R = regQ p S := by
  unfold regQ
  rw [(h.filter (inQ p)).length_eq]
theorem in_bnd2 {p : Pt} {K L : List Pt} (hp : okC p = true) (hs : ∀ a ∈ K, a ∈ L) (hK : ∀ a ∈ L, okC a = true) (h : inQ p K = true) : inF p.1 p.2 (lxF L L.length) (lyF L L.length) (hxF L L.length + 1) (hyF L L.length + 1) = true := by
  unfold inQ at h
  rw [decide_eq_true_eq] at h
  obtain ⟨a, ha, b, hb, hc⟩ := cross_some p K (by omega)
  have k := (count_iff hp (hK a (hs a ha)) (hK b (hs b hb))).1 hc
  have l1 := ly_low (hs a ha)
  have l2 := ly_low (hs b hb)
  have g1 := hy_high (hs a ha)
  have g2 := hy_high (hs b hb)
  have r1 := hx_high (hs a ha)
  have r2 := hx_high (hs b hb)
  have hr : p.1 < a.1 ∨ p.1 < b.1 := by
    rcases k with ⟨k1, k2, k3⟩ | ⟨k1, k2, k3⟩
    · exact edge_far_right k3 k1 k2
    · have : 0 < detQ b a p := by rw [detQ_swap]; omega
      exact (edge_far_right this k1 k2).symm
  have hl : lxF L L.length ≤ p.1 := by
    apply Decidable.byContradiction
    intro q
    have := cross_par p (fun x => decide (p.2 < x.2)) K (fun x hx y hy => by
      have x1 := lx_low (hs x hx)
      have y1 := lx_low (hs y hy)
      have c := count_iff hp (hK x (hs x hx)) (hK y (hs y hy))
      rw [Bool.eq_iff_iff, c]
      simp only [bne_iff_ne, ne_eq, decide_eq_decide]
      constructor
      · intro k; omega
      · intro k
        rcases Int.lt_or_le p.2 x.2 with h1 | h1
        · right
          have h2 : y.2 ≤ p.2 := by omega
          have := edge_left (p := p) h2 h1 (by omega) (by omega)
          rw [detQ_swap] at this
          exact ⟨h2, h1, by omega⟩
        · left
          have h2 : p.2 < y.2 := by omega
          exact ⟨h1, h2, edge_left h1 h2 (by omega) (by omega)⟩)
    omega
  unfold inF
  exact decide_eq_true (by omega)
theorem reg_bnd {p : Pt} {R : List (List Pt)} (hK : ∀ a ∈ R.flatten, okC a = true) (h : regQ p R = true) : inF p.1 p.2 (lxF R.flatten R.flatten.length) (lyF R.flatten R.flatten.length) (hxF R.flatten R.flatten.length + 1) (hyF R.flatten R.flatten.length + 1) = true := by
  unfold regQ at h
  rw [decide_eq_true_eq] at h
  obtain ⟨K, hm⟩ : ∃ K, K ∈ R.filter (inQ p) := by
    cases e : R.filter (inQ p) with
    | nil => rw [e] at h; simp at h
    | cons K _ => exact ⟨K, by simp⟩
  rw [List.mem_filter] at hm
  by_cases hp : okC p = true
  · exact in_bnd2 hp (fun a ha => List.mem_flatten.2 ⟨K, hm.1, ha⟩) hK hm.2
  · have := hm.2
    unfold inQ at this
    rw [cross_zero0 (fun a _ b _ => count_bad hp)] at this
    cases this
end
end Go.Proofs.YthphdiigjimchaaGreat

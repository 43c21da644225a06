/- Rings: mathematics: points round a list, a ring begun elsewhere, and the other way round; which faults there are. Rings: mathematics: the least point, the way round, the normal one, the same ones. Rings: mathematics: the ring of a box with points on its sides, and the crossed one. -/
import Derived.Test.YtmofejcafbjlnaaCrMath
import Derived.Test.YtmofejcafbjlnaaPtU
namespace Go.Proofs.Ytmofejcafbjlnaa
section
set_option linter.unusedVariables false
set_option linter.unusedSimpArgs false
open Go.RowKit

abbrev Pt := Int × Int
/-- The i-th point, round the list. -/
def cyc (K : List Pt) (i : Int) : Pt := K.getD (i % (K.length : Int)).toNat (0, 0)
theorem cyc_mod {K : List Pt} {i j : Int} (h : i % (K.length : Int) = j % (K.length : Int)) : cyc K i = cyc K j := by unfold cyc; rw [h]
theorem cyc_nat {K : List Pt} {k : Nat} (h : k < K.length) : cyc K (k : Int) = K.getD k (0, 0) := by
  unfold cyc; rw [Int.emod_eq_of_lt (by omega) (by omega)]; rfl
theorem cyc_add (K : List Pt) (i : Int) : cyc K (i + (K.length : Int)) = cyc K i := cyc_mod (by rw [Int.add_emod_right])
theorem cyc_at {K : List Pt} (hn : 0 < K.length) (i : Int) : ∃ k : Nat, k < K.length ∧ cyc K i = K.getD k (0, 0) ∧ i % (K.length : Int) = (k : Int) := by
  have h1 := Int.emod_nonneg i (b := (K.length : Int)) (by omega)
  have h2 := Int.emod_lt_of_pos i (b := (K.length : Int)) (by omega)
  exact ⟨(i % (K.length : Int)).toNat, by omega, rfl, by omega⟩
theorem list_cyc {K M : List Pt} (hl : K.length = M.length) (h : ∀ k : Nat, k < K.length → cyc K (k : Int) = cyc M (k : Int)) : K = M := by
  apply List.ext_getElem hl
  intro k h1 h2
  have := h k h1
  rw [cyc_nat h1, cyc_nat h2, List.getD_eq_getElem?_getD, List.getD_eq_getElem?_getD, List.getElem?_eq_getElem h1, List.getElem?_eq_getElem h2] at this
  simpa using this
/-- The list begun elsewhere. -/
def rotF (K : List Pt) (s : Int) : List Pt := (List.range K.length).map (fun k : Nat => cyc K (s + (k : Int)))
theorem rot_len (K : List Pt) (s : Int) : (rotF K s).length = K.length := by simp [rotF]
theorem rot_getD {K : List Pt} {s : Int} {k : Nat} (h : k < K.length) : (rotF K s).getD k (0, 0) = cyc K (s + (k : Int)) := by
  unfold rotF
  rw [List.getD_eq_getElem?_getD, List.getElem?_map, List.getElem?_range h]; rfl
theorem rot_cyc (K : List Pt) (s i : Int) : cyc (rotF K s) i = cyc K (s + i) := by
  by_cases hn : 0 < K.length
  · obtain ⟨k, hk, e, hm⟩ := cyc_at (K := rotF K s) (by rw [rot_len]; exact hn) i
    rw [rot_len] at hk hm
    rw [e, rot_getD hk, ← hm]
    refine cyc_mod ?_
    rw [Int.add_emod_emod]
  · have : K = [] := by cases K with | nil => rfl | cons a l => simp at hn
    subst this
    simp [rotF, cyc]
theorem rev_cyc (K : List Pt) (i : Int) : cyc K.reverse i = cyc K (-1 - i) := by
  by_cases hn : 0 < K.length
  · obtain ⟨k, hk, e, hm⟩ := cyc_at (K := K.reverse) (by simpa using hn) i
    rw [List.length_reverse] at hk hm
    have e2 : cyc K (-1 - i) = cyc K ((K.length - 1 - k : Nat) : Int) := by
      refine cyc_mod ?_
      have e3 : ((K.length - 1 - k : Nat) : Int) = (K.length : Int) - 1 - (k : Int) := by omega
      rw [e3, ← hm, show -1 - i = (-1) - i from rfl, show (K.length : Int) - 1 - i % (K.length : Int) = (-1 - i % (K.length : Int)) + (K.length : Int) by omega, Int.add_emod_right, Int.sub_emod_emod]
    rw [e, e2, cyc_nat (by omega), List.getD_eq_getElem?_getD, List.getD_eq_getElem?_getD, List.getElem?_reverse (by omega)]
  · have : K = [] := by cases K with | nil => rfl | cons a l => simp at hn
    subst this
    simp [cyc]
theorem rot_rot (K : List Pt) (a b : Int) : rotF (rotF K a) b = rotF K (a + b) := by
  refine list_cyc (by simp [rot_len]) fun k _ => ?_
  rw [rot_cyc, rot_cyc, rot_cyc, Int.add_assoc]
theorem rot_zero (K : List Pt) : rotF K 0 = K := by
  refine list_cyc (rot_len K 0) fun k _ => ?_
  rw [rot_cyc, Int.zero_add]
theorem rot_mod {K : List Pt} {a b : Int} (h : a % (K.length : Int) = b % (K.length : Int)) : rotF K a = rotF K b := by
  refine list_cyc (by simp [rot_len]) fun k _ => ?_
  rw [rot_cyc, rot_cyc]
  refine cyc_mod ?_
  rw [Int.add_emod, h, ← Int.add_emod]
theorem rev_rot (K : List Pt) (s : Int) : (rotF K s).reverse = rotF K.reverse (-s) := by
  refine list_cyc (by simp [rot_len]) fun k _ => ?_
  rw [rev_cyc, rot_cyc, rot_cyc, rev_cyc]
  congr 1; omega

/-- Far from each other, round n. -/
def farC (n i j : Int) : Prop := (j - i) % n ≠ 0 ∧ (j - i) % n ≠ 1 ∧ (j - i) % n ≠ n - 1
def turnC (a p b : Pt) : Int := turnF a.1 a.2 p.1 p.2 b.1 b.2
def onC (p a b : Pt) : Bool := onB p.1 p.2 a.1 a.2 b.1 b.2
def okC (p : Pt) : Bool := okP p.1 p.2
def backC (a p b : Pt) : Bool := decide (turnC a p b = 0) && !onC p a b
theorem turnC_eq {a p b : Pt} (ha : okC a = true) (hp : okC p = true) (hb : okC b = true) : turnC a p b = sgn (detQ a p b) := by
  unfold okC at *
  unfold turnC turnF
  rw [ha, hp, hb]; rfl
theorem turnC_swap (a p b : Pt) : turnC b p a = - turnC a p b := by
  unfold turnC turnF
  have e : detP b.1 b.2 p.1 p.2 a.1 a.2 = - detP a.1 a.2 p.1 p.2 b.1 b.2 := by unfold detP; grind
  by_cases h : (okP a.1 a.2 && okP p.1 p.2 && okP b.1 b.2) = true
  · rw [if_pos h, if_pos (by simp only [Bool.and_eq_true] at h ⊢; exact ⟨⟨h.2, h.1.2⟩, h.1.1⟩), e]
    exact Int.sign_neg _
  · rw [if_neg h, if_neg (by simp only [Bool.and_eq_true] at h ⊢; intro k; exact h ⟨⟨k.2, k.1.2⟩, k.1.1⟩)]; rfl
theorem onC_back (p a b : Pt) : onC p b a = onC p a b := by
  unfold onC onB
  rw [Bool.eq_iff_iff]
  simp only [Bool.and_eq_true, decide_eq_true_eq]
  rw [on_back p.1 p.2 b.1 b.2 a.1 a.2]
  constructor <;> exact fun h => ⟨⟨⟨h.1.1.1, h.1.2⟩, h.1.1.2⟩, h.2⟩
theorem backC_swap (a p b : Pt) : backC b p a = backC a p b := by
  unfold backC
  rw [onC_back, turnC_swap]
  congr 1
  exact decide_eq_decide.2 (by omega)
/-- A ring that may be, by its points round. -/
structure RingC (n : Int) (c : Int → Pt) : Prop where
  ok : ∀ i, okC (c i) = true
  one : ∀ i j, c i = c j → i % n = j % n
  back : ∀ i, backC (c (i - 1)) (c i) (c (i + 1)) = false
  meet : ∀ i j, farC n i j → meetQ (c i) (c (i + 1)) (c j) (c (j + 1)) = 0
theorem RingC.shift {n : Int} {c : Int → Pt} (h : RingC n c) (s : Int) : RingC n (fun i => c (s + i)) where
  ok i := h.ok _
  one i j e := by
    have := h.one _ _ e
    have h2 : (s + i - s) % n = (s + j - s) % n := by rw [Int.sub_emod, this, ← Int.sub_emod]
    rwa [show s + i - s = i by omega, show s + j - s = j by omega] at h2
  back i := by
    have := h.back (s + i)
    rwa [show s + i - 1 = s + (i - 1) by omega, show s + i + 1 = s + (i + 1) by omega] at this
  meet i j hf := by
    have := h.meet (s + i) (s + j) (by unfold farC at *; rwa [show s + j - (s + i) = j - i by omega])
    rwa [show s + i + 1 = s + (i + 1) by omega, show s + j + 1 = s + (j + 1) by omega] at this
theorem far_neg {n x : Int} (hn : 3 ≤ n) (h : x % n ≠ 0 ∧ x % n ≠ 1 ∧ x % n ≠ n - 1) : (-x) % n ≠ 0 ∧ (-x) % n ≠ 1 ∧ (-x) % n ≠ n - 1 := by
  have h1 := Int.emod_nonneg x (b := n) (by omega)
  have h2 := Int.emod_lt_of_pos x (b := n) (by omega)
  have e : (-x) % n = n - x % n := by
    have e1 : (-x) % n = (n - x % n) % n := by
      rw [Int.sub_emod, Int.emod_emod, Int.emod_self, ← Int.zero_emod n, ← Int.sub_emod]
      simp
    rw [e1, Int.emod_eq_of_lt (by omega) (by omega)]
  omega
theorem far_symm {n i j : Int} (hn : 3 ≤ n) (h : farC n i j) : farC n j i := by
  have := far_neg hn h
  rwa [show -(j - i) = i - j by omega] at this
theorem RingC.flip {n : Int} {c : Int → Pt} (hn : 3 ≤ n) (h : RingC n c) : RingC n (fun i => c (-1 - i)) where
  ok i := h.ok _
  one i j e := by
    have := h.one _ _ e
    have h2 : (-1 - (-1 - i)) % n = (-1 - (-1 - j)) % n := by rw [Int.sub_emod, this, ← Int.sub_emod]
    rwa [show -1 - (-1 - i) = i by omega, show -1 - (-1 - j) = j by omega] at h2
  back i := by
    have := h.back (-1 - i)
    rw [← backC_swap] at this
    rwa [show -1 - i + 1 = -1 - (i - 1) by omega, show -1 - i - 1 = -1 - (i + 1) by omega] at this
  meet i j hf := by
    have := h.meet (-1 - (i + 1)) (-1 - (j + 1)) (by
      have := far_symm hn hf
      unfold farC at *
      rwa [show -1 - (j + 1) - (-1 - (i + 1)) = i - j by omega])
    rw [show -1 - (i + 1) + 1 = -1 - i by omega, show -1 - (j + 1) + 1 = -1 - j by omega] at this
    rw [← meet_flip, ← meet_flip'] at this
    exact this

/-- Does a point stand ahead of itself? -/
def twiceAt (K : List Pt) (i : Nat) : Bool := decide (K.getD i (0, 0) ∈ K.take i)
def backAt (K : List Pt) (i : Nat) : Bool := backC (cyc K ((i : Int) - 1)) (K.getD i (0, 0)) (cyc K ((i : Int) + 1))
def meetTwo (K : List Pt) (i k : Nat) : Bool := !decide (i = 0 ∧ k = K.length - 1) && !decide (meetQ (K.getD i (0, 0)) (cyc K ((i : Int) + 1)) (K.getD k (0, 0)) (cyc K ((k : Int) + 1)) = 0)
def meetsAt (K : List Pt) (i : Nat) : Bool := (List.range K.length).any (fun k => decide (i + 2 ≤ k) && meetTwo K i k)
/-- The first place of n at which something is so. -/
def firstQ (f : Nat → Bool) (n : Nat) : Option Nat := (List.range n).find? f
def orFault (o : Option Nat) (e : Int) (r : Int × Nat) : Int × Nat := match o with | some i => (e, i) | none => r
/-- What is wrong with points as a ring, and at which. -/
def checkF (K : List Pt) : Int × Nat :=
  if 200 < K.length then (3, 0) else if K.length < 3 then (190, 0) else
  orFault (firstQ (fun i => !okC (K.getD i (0, 0))) K.length) 2 (orFault (firstQ (twiceAt K) K.length) 191 (orFault (firstQ (backAt K) K.length) 192 (orFault (firstQ (meetsAt K) K.length) 193 (0, 0))))
theorem first_none {f : Nat → Bool} {n : Nat} : firstQ f n = none ↔ ∀ i, i < n → f i = false := by
  unfold firstQ
  rw [List.find?_eq_none]
  simp
structure fineQ (K : List Pt) : Prop where
  few : 3 ≤ K.length
  long : K.length ≤ 200
  ok : ∀ i, i < K.length → okC (K.getD i (0, 0)) = true
  once : ∀ i, i < K.length → twiceAt K i = false
  back : ∀ i, i < K.length → backAt K i = false
  meet : ∀ i, i < K.length → meetsAt K i = false
theorem or_zero {o : Option Nat} {e : Int} {r : Int × Nat} (he : e ≠ 0) : (orFault o e r).1 = 0 ↔ o = none ∧ r.1 = 0 := by
  cases o with
  | none => simp [orFault]
  | some i => simp [orFault, he]
theorem check_fine {K : List Pt} : (checkF K).1 = 0 ↔ fineQ K := by
  unfold checkF
  by_cases h1 : 200 < K.length
  · rw [if_pos h1]; exact ⟨fun h => absurd h (by decide), fun h => absurd h.long (by omega)⟩
  rw [if_neg h1]
  by_cases h2 : K.length < 3
  · rw [if_pos h2]; exact ⟨fun h => absurd h (by decide), fun h => absurd h.few (by omega)⟩
  rw [if_neg h2, or_zero (by decide), or_zero (by decide), or_zero (by decide), or_zero (by decide), first_none, first_none, first_none, first_none]
  constructor
  · rintro ⟨a, b, c, d, _⟩
    exact ⟨by omega, by omega, fun i hi => by simpa using a i hi, b, c, d⟩
  · intro h
    exact ⟨fun i hi => by rw [h.ok i hi]; rfl, h.once, h.back, h.meet, rfl⟩
theorem or_at {o : Option Nat} {e : Int} {r : Int × Nat} (he : e ≠ 0) (hr : r.1 = 0 → r.2 = 0) (h : (orFault o e r).1 = 0) : (orFault o e r).2 = 0 := by
  cases o with
  | none => exact hr h
  | some i => exact absurd h he
theorem check_at {K : List Pt} (h : (checkF K).1 = 0) : checkF K = (0, 0) := by
  refine Prod.ext h ?_
  revert h
  unfold checkF
  split
  · intro h; rfl
  · split
    · intro h; rfl
    · exact or_at (by decide) (or_at (by decide) (or_at (by decide) (or_at (by decide) (fun _ => rfl))))

theorem twice_iff {K : List Pt} {i : Nat} (hi : i < K.length) : twiceAt K i = false ↔ ∀ j, j < i → K.getD j (0, 0) ≠ K.getD i (0, 0) := by
  unfold twiceAt
  rw [decide_eq_false_iff_not]
  constructor
  · intro h j hj e
    apply h
    rw [← e, List.getD_eq_getElem?_getD, List.getElem?_eq_getElem (by omega)]
    simp only [Option.getD_some]
    rw [List.mem_iff_getElem]
    exact ⟨j, by rw [List.length_take]; omega, by rw [List.getElem_take]⟩
  · intro h hm
    rw [List.mem_iff_getElem] at hm
    obtain ⟨j, hj, e⟩ := hm
    rw [List.length_take] at hj
    rw [List.getElem_take] at e
    refine h j (by omega) ?_
    rw [← e, List.getD_eq_getElem?_getD, List.getElem?_eq_getElem (by omega)]
    rfl
theorem meets_iff {K : List Pt} {i : Nat} : meetsAt K i = false ↔ ∀ k, i + 2 ≤ k → k < K.length → ¬ (i = 0 ∧ k = K.length - 1) → meetQ (K.getD i (0, 0)) (cyc K ((i : Int) + 1)) (K.getD k (0, 0)) (cyc K ((k : Int) + 1)) = 0 := by
  unfold meetsAt meetTwo
  rw [List.any_eq_false]
  constructor
  · intro h k h1 h2 h3
    have := h k (by simpa using h2)
    rw [decide_eq_true h1, decide_eq_false h3] at this
    simpa using this
  · intro h k hk
    rw [List.mem_range] at hk
    by_cases h1 : i + 2 ≤ k
    · by_cases h3 : i = 0 ∧ k = K.length - 1
      · rw [decide_eq_true h3]; simp
      · rw [h k h1 hk h3]; simp
    · rw [decide_eq_false h1]; simp
/-- A ring may be just if it may be by its points round. -/
theorem fine_cyc {K : List Pt} : fineQ K ↔ 3 ≤ K.length ∧ K.length ≤ 200 ∧ RingC (K.length : Int) (cyc K) := by
  constructor
  · intro h
    have hn := h.few
    refine ⟨h.few, h.long, ?_, ?_, ?_, ?_⟩
    · intro i
      obtain ⟨k, hk, e, _⟩ := cyc_at (K := K) (by omega) i
      rw [e]; exact h.ok k hk
    · intro i j e
      obtain ⟨k, hk, e1, m1⟩ := cyc_at (K := K) (by omega) i
      obtain ⟨l, hl, e2, m2⟩ := cyc_at (K := K) (by omega) j
      rw [e1, e2] at e
      rw [m1, m2]
      rcases Nat.lt_trichotomy k l with h1 | h1 | h1
      · exact absurd e ((twice_iff hl).1 (h.once l hl) k h1)
      · rw [h1]
      · exact absurd e.symm ((twice_iff hk).1 (h.once k hk) l h1)
    · intro i
      obtain ⟨k, hk, e, m⟩ := cyc_at (K := K) (by omega) i
      have := h.back k hk
      unfold backAt at this
      rw [e]
      rwa [cyc_mod (i := (k : Int) - 1) (j := i - 1) (by rw [← m, Int.emod_sub_emod]), cyc_mod (i := (k : Int) + 1) (j := i + 1) (by rw [← m, Int.emod_add_emod])] at this
    · intro i j hf
      obtain ⟨k, hk, e1, m1⟩ := cyc_at (K := K) (by omega) i
      obtain ⟨l, hl, e2, m2⟩ := cyc_at (K := K) (by omega) j
      have hd : (j - i) % (K.length : Int) = ((l : Int) - (k : Int)) % (K.length : Int) := by rw [← m1, ← m2, ← Int.sub_emod]
      have n1 : cyc K (i + 1) = cyc K ((k : Int) + 1) := cyc_mod (by rw [← m1, Int.emod_add_emod])
      have n2 : cyc K (j + 1) = cyc K ((l : Int) + 1) := cyc_mod (by rw [← m2, Int.emod_add_emod])
      unfold farC at hf
      rw [hd] at hf
      rw [e1, e2, n1, n2]
      rcases Nat.lt_trichotomy k l with h1 | h1 | h1
      · rw [Int.emod_eq_of_lt (by omega) (by omega)] at hf
        exact meets_iff.1 (h.meet k hk) l (by omega) hl (by omega)
      · subst h1; simp at hf
      · rw [show ((l : Int) - (k : Int)) = ((l : Int) - (k : Int) + (K.length : Int)) - (K.length : Int) by omega, Int.sub_emod_right, Int.emod_eq_of_lt (by omega) (by omega)] at hf
        rw [meet_swap]
        exact meets_iff.1 (h.meet l hl) k (by omega) hk (by omega)
  · rintro ⟨h1, h2, h⟩
    refine ⟨h1, h2, fun i hi => ?_, fun i hi => ?_, fun i hi => ?_, fun i hi => ?_⟩
    · have := h.ok (i : Int)
      rwa [cyc_nat hi] at this
    · rw [twice_iff hi]
      intro j hj e
      rw [← cyc_nat hi, ← cyc_nat (K := K) (k := j) (by omega)] at e
      have := h.one _ _ e
      rw [Int.emod_eq_of_lt (by omega) (by omega), Int.emod_eq_of_lt (by omega) (by omega)] at this
      omega
    · have := h.back (i : Int)
      rw [cyc_nat hi] at this
      exact this
    · rw [meets_iff]
      intro k a b c
      have := h.meet (i : Int) (k : Int) (by
        unfold farC
        rw [Int.emod_eq_of_lt (by omega) (by omega)]
        omega)
      rwa [cyc_nat hi, cyc_nat b] at this
theorem fine_rot (K : List Pt) (s : Int) : fineQ (rotF K s) ↔ fineQ K := by
  rw [fine_cyc, fine_cyc, rot_len]
  have e : cyc (rotF K s) = fun i => cyc K (s + i) := funext (rot_cyc K s)
  rw [e]
  constructor
  · rintro ⟨a, b, h⟩
    refine ⟨a, b, ?_⟩
    have := h.shift (-s)
    simp only [show ∀ i : Int, s + (-s + i) = i from fun i => by omega] at this
    exact this
  · rintro ⟨a, b, h⟩
    exact ⟨a, b, h.shift s⟩
theorem fine_rev (K : List Pt) : fineQ K.reverse ↔ fineQ K := by
  rw [fine_cyc, fine_cyc, List.length_reverse]
  have e : cyc K.reverse = fun i => cyc K (-1 - i) := funext (rev_cyc K)
  rw [e]
  constructor
  · rintro ⟨a, b, h⟩
    refine ⟨a, b, ?_⟩
    have := h.flip (by omega)
    simp only [show ∀ i : Int, -1 - (-1 - i) = i from fun i => by omega] at this
    exact this
  · rintro ⟨a, b, h⟩
    exact ⟨a, b, h.flip (by omega)⟩
end

section
set_option linter.unusedVariables false
set_option linter.unusedSimpArgs false
open Go.RowKit

def cmpC (p q : Pt) : Int := cmpF p.1 p.2 q.1 q.2
theorem cmpC_zero {p q : Pt} : cmpC p q = 0 ↔ p = q := by
  unfold cmpC cmpF
  constructor
  · intro h
    split at h
    · omega
    · split at h
      · exact Prod.ext (by omega) (by omega)
      · omega
  · rintro rfl; simp
theorem cmpC_neg (p q : Pt) : cmpC q p = - cmpC p q := by
  unfold cmpC cmpF; repeat' split
  all_goals omega
theorem cmpC_cases (p q : Pt) : cmpC p q = -1 ∨ cmpC p q = 0 ∨ cmpC p q = 1 := by
  unfold cmpC cmpF; repeat' split
  all_goals omega
theorem cmpC_trans {p q r : Pt} (h1 : cmpC p q ≤ 0) (h2 : cmpC q r ≤ 0) : cmpC p r ≤ 0 := by
  unfold cmpC cmpF at *; repeat' split
  all_goals (repeat' split at h1) <;> (repeat' split at h2) <;> omega
/-- The place of the least point, of the first k ones. -/
def leastN (K : List Pt) : Nat → Nat
  | 0 => 0
  | k + 1 => if cmpC (K.getD k (0, 0)) (K.getD (leastN K k) (0, 0)) < 0 then k else leastN K k
def leastF (K : List Pt) : Nat := leastN K K.length
theorem least_lt {K : List Pt} : ∀ k, leastN K k < k ∨ (k = 0 ∧ leastN K k = 0)
  | 0 => .inr ⟨rfl, rfl⟩
  | k + 1 => by
    unfold leastN
    left
    split
    · omega
    · rcases least_lt (K := K) k with h | h <;> omega
theorem least_le {K : List Pt} : ∀ k i, i < k → cmpC (K.getD (leastN K k) (0, 0)) (K.getD i (0, 0)) ≤ 0
  | 0, i, h => by omega
  | k + 1, i, h => by
    unfold leastN
    by_cases hik : i = k
    · subst hik
      split
      · rw [cmpC_zero.2 rfl]; decide
      · rw [cmpC_neg]; omega
    · have := least_le (K := K) k i (by omega)
      split
      · exact cmpC_trans (by omega) this
      · exact this
theorem least_in {K : List Pt} (hn : 0 < K.length) : leastF K < K.length := by
  rcases least_lt (K := K) K.length with h | h
  · exact h
  · omega
/-- i is the place of a least point, round. -/
def LeastC (K : List Pt) (i : Int) : Prop := ∀ j, cmpC (cyc K i) (cyc K j) ≤ 0
theorem least_c {K : List Pt} (hn : 0 < K.length) : LeastC K (leastF K : Nat) := by
  intro j
  obtain ⟨k, hk, e, _⟩ := cyc_at hn j
  rw [e, cyc_nat (least_in hn)]
  exact least_le _ _ hk
theorem least_one {K : List Pt} (h : fineQ K) {i j : Int} (hi : LeastC K i) (hj : LeastC K j) : i % (K.length : Int) = j % (K.length : Int) := by
  have h1 := hi j
  have h2 := hj i
  rw [cmpC_neg] at h2
  exact (fine_cyc.1 h).2.2.one _ _ (cmpC_zero.1 (by omega))
theorem leastC_rot {K : List Pt} {s i : Int} : LeastC (rotF K s) i ↔ LeastC K (s + i) := by
  unfold LeastC
  constructor
  · intro h j
    have := h (j - s)
    rwa [rot_cyc, rot_cyc, show s + (j - s) = j by omega] at this
  · intro h j
    rw [rot_cyc, rot_cyc]
    exact h _
theorem leastC_rev {K : List Pt} {i : Int} : LeastC K.reverse i ↔ LeastC K (-1 - i) := by
  unfold LeastC
  constructor
  · intro h j
    have := h (-1 - j)
    rwa [rev_cyc, rev_cyc, show -1 - (-1 - j) = j by omega] at this
  · intro h j
    rw [rev_cyc, rev_cyc]
    exact h _
/-- The turn at a place. -/
def turnAt (K : List Pt) (i : Int) : Int := turnC (cyc K (i - 1)) (cyc K i) (cyc K (i + 1))
theorem turnAt_mod {K : List Pt} {i j : Int} (h : i % (K.length : Int) = j % (K.length : Int)) : turnAt K i = turnAt K j := by
  unfold turnAt
  rw [cyc_mod h, cyc_mod (i := i - 1) (j := j - 1) (by rw [Int.sub_emod, h, ← Int.sub_emod]), cyc_mod (i := i + 1) (j := j + 1) (by rw [Int.add_emod, h, ← Int.add_emod])]
open Classical in
/-- The way round; 0 of no ring. -/
noncomputable def signF (K : List Pt) : Int := if fineQ K then turnAt K (leastF K : Nat) else 0
theorem sign_not {K : List Pt} (h : ¬ fineQ K) : signF K = 0 := by unfold signF; rw [if_neg h]
theorem sign_eq {K : List Pt} (h : fineQ K) {i : Int} (hi : LeastC K i) : signF K = turnAt K i := by
  unfold signF
  rw [if_pos h]
  exact turnAt_mod (least_one h (least_c (by have := h.few; omega)) hi)
theorem sign_rot (K : List Pt) (s : Int) : signF (rotF K s) = signF K := by
  by_cases h : fineQ K
  · have hl := least_c (K := K) (by have := h.few; omega)
    have hl2 : LeastC (rotF K s) ((leastF K : Nat) - s) := leastC_rot.2 (by rwa [show s + ((leastF K : Nat) - s : Int) = (leastF K : Nat) by omega])
    rw [sign_eq ((fine_rot K s).2 h) hl2, sign_eq h hl]
    unfold turnAt
    rw [rot_cyc, rot_cyc, rot_cyc]
    congr 2 <;> omega
  · rw [sign_not h, sign_not (fun k => h ((fine_rot K s).1 k))]
theorem sign_rev (K : List Pt) : signF K.reverse = - signF K := by
  by_cases h : fineQ K
  · have hl := least_c (K := K) (by have := h.few; omega)
    have hl2 : LeastC K.reverse (-1 - (leastF K : Nat)) := leastC_rev.2 (by rwa [show (-1 - (-1 - (leastF K : Nat)) : Int) = (leastF K : Nat) by omega])
    rw [sign_eq ((fine_rev K).2 h) hl2, sign_eq h hl]
    unfold turnAt
    rw [rev_cyc, rev_cyc, rev_cyc, ← turnC_swap]
    congr 2 <;> omega
  · rw [sign_not h, sign_not (fun k => h ((fine_rev K).1 k))]; rfl
theorem sgn_three (z : Int) : sgn z = 1 ∨ sgn z = -1 ∨ (sgn z = 0 ∧ z = 0) := by
  rcases sgn_cases z with ⟨a, b⟩ | ⟨a, b⟩ | ⟨a, b⟩
  · exact .inl b
  · exact .inr (.inr ⟨b, a⟩)
  · exact .inr (.inl b)
theorem btw_least {n a b : Int} (h : btw n a b) (h1 : n ≤ a) (h2 : n ≤ b) : n = a ∨ n = b := by unfold btw at h; omega
theorem sign_one {K : List Pt} (h : fineQ K) : signF K = 1 ∨ signF K = -1 := by
  have hn : 0 < K.length := by have := h.few; omega
  have hl := least_c (K := K) hn
  obtain ⟨f1, f2, hc⟩ := fine_cyc.1 h
  rw [sign_eq h hl]
  unfold turnAt
  generalize ((leastF K : Nat) : Int) = m at *
  have b := hc.back m
  have o1 := hc.ok (m - 1)
  have o2 := hc.ok m
  have o3 := hc.ok (m + 1)
  have l1 := hl (m - 1)
  have l2 := hl (m + 1)
  have n1 : cyc K (m - 1) ≠ cyc K m := by
    intro e
    have := hc.one _ _ e
    have k : (m - 1 - m) % (K.length : Int) = 0 := by rw [Int.sub_emod, this, Int.sub_self]; simp
    rw [show m - 1 - m = (K.length : Int) - 1 - (K.length : Int) by omega, Int.sub_emod_right, Int.emod_eq_of_lt (by omega) (by omega)] at k
    omega
  have n2 : cyc K (m + 1) ≠ cyc K m := by
    intro e
    have := hc.one _ _ e
    have k : (m + 1 - m) % (K.length : Int) = 0 := by rw [Int.sub_emod, this, Int.sub_self]; simp
    rw [show m + 1 - m = 1 by omega, Int.emod_eq_of_lt (by omega) (by omega)] at k
    omega
  have n3 : cyc K (m + 1) ≠ cyc K (m - 1) := by
    intro e
    have := hc.one _ _ e
    have k : (m + 1 - (m - 1)) % (K.length : Int) = 0 := by rw [Int.sub_emod, this, Int.sub_self]; simp
    rw [show m + 1 - (m - 1) = 2 by omega, Int.emod_eq_of_lt (by omega) (by omega)] at k
    omega
  unfold backC at b
  rw [turnC_eq o1 o2 o3] at b ⊢
  rcases sgn_three (detQ (cyc K (m - 1)) (cyc K m) (cyc K (m + 1))) with e | e | ⟨e, e0⟩
  · exact .inl e
  · exact .inr e
  · exfalso
    rw [e] at b
    simp at b
    unfold onC onB at b
    simp only [Bool.and_eq_true, decide_eq_true_eq] at b
    obtain ⟨_, h1, h2, h3⟩ := b
    generalize cyc K (m - 1) = p at *
    generalize cyc K m = q at *
    generalize cyc K (m + 1) = r at *
    obtain ⟨px, py⟩ := p
    obtain ⟨qx, qy⟩ := q
    obtain ⟨rx, ry⟩ := r
    unfold cmpC cmpF at l1 l2
    simp only at *
    have l1' : qy < py ∨ (qy = py ∧ qx ≤ px) := by
      split at l1
      · omega
      · split at l1
        · omega
        · omega
    have l2' : qy < ry ∨ (qy = ry ∧ qx ≤ rx) := by
      split at l2
      · omega
      · split at l2
        · omega
        · omega
    have n1' : px ≠ qx ∨ py ≠ qy := by
      by_cases k1 : px = qx
      · exact .inr fun k2 => n1 (by rw [k1, k2])
      · exact .inl k1
    have n2' : rx ≠ qx ∨ ry ≠ qy := by
      by_cases k1 : rx = qx
      · exact .inr fun k2 => n2 (by rw [k1, k2])
      · exact .inl k1
    unfold detP at h1
    have hy := btw_least h3 (by omega) (by omega)
    rcases hy with hy | hy
    · have hd : (qx - px) * (ry - qy) = 0 := by rw [hy]; rw [hy] at h1; grind
      rcases Int.mul_eq_zero.1 hd with k | k
      · omega
      · unfold btw at h2
        omega
    · have hd : (qy - py) * (qx - rx) = 0 := by rw [hy]; rw [hy] at h1; grind
      rcases Int.mul_eq_zero.1 hd with k | k
      · unfold btw at h2; omega
      · omega

open Classical in
/-- The normal ring; none of no ring. -/
noncomputable def normF (K : List Pt) : List Pt :=
  if fineQ K then (if signF K < 0 then rotF K.reverse (leastF K.reverse : Nat) else rotF K (leastF K : Nat)) else []
theorem norm_not {K : List Pt} (h : ¬ fineQ K) : normF K = [] := by unfold normF; rw [if_neg h]
/-- What a normal ring of K is. -/
structure IsNorm (K N : List Pt) : Prop where
  of : ∃ s, N = rotF K s ∨ N = rotF K.reverse s
  left : signF N = 1
  first : LeastC N 0
theorem norm_is {K : List Pt} (h : fineQ K) : IsNorm K (normF K) := by
  have hn : 0 < K.length := by have := h.few; omega
  unfold normF
  rw [if_pos h]
  by_cases hs : signF K < 0
  · rw [if_pos hs]
    refine ⟨⟨_, .inr rfl⟩, ?_, ?_⟩
    · rw [sign_rot, sign_rev]
      rcases sign_one h with e | e <;> omega
    · rw [leastC_rot]
      have := least_c (K := K.reverse) (by simpa using hn)
      rwa [Int.add_zero]
  · rw [if_neg hs]
    refine ⟨⟨_, .inl rfl⟩, ?_, ?_⟩
    · rw [sign_rot]
      rcases sign_one h with e | e <;> omega
    · rw [leastC_rot]
      have := least_c (K := K) hn
      rwa [Int.add_zero]
theorem norm_len {K N : List Pt} (h : IsNorm K N) : N.length = K.length := by
  obtain ⟨s, rfl | rfl⟩ := h.of
  · exact rot_len _ _
  · rw [rot_len, List.length_reverse]
theorem norm_fine {K N : List Pt} (hk : fineQ K) (h : IsNorm K N) : fineQ N := by
  obtain ⟨s, rfl | rfl⟩ := h.of
  · exact (fine_rot _ _).2 hk
  · exact (fine_rot _ _).2 ((fine_rev _).2 hk)
theorem rot_same {K : List Pt} (h : fineQ K) {s t : Int} (hs : LeastC (rotF K s) 0) (ht : LeastC (rotF K t) 0) : rotF K s = rotF K t := by
  rw [leastC_rot, Int.add_zero] at hs ht
  exact rot_mod (least_one h hs ht)
theorem norm_one {K N M : List Pt} (hk : fineQ K) (h1 : IsNorm K N) (h2 : IsNorm K M) : N = M := by
  obtain ⟨s, rfl | rfl⟩ := h1.of <;> obtain ⟨t, rfl | rfl⟩ := h2.of
  · exact rot_same hk h1.first h2.first
  · have a := h1.left
    have b := h2.left
    rw [sign_rot] at a b
    rw [sign_rev] at b
    omega
  · have a := h1.left
    have b := h2.left
    rw [sign_rot] at a b
    rw [sign_rev] at a
    omega
  · exact rot_same ((fine_rev K).2 hk) h1.first h2.first
theorem norm_eq {K N : List Pt} (hk : fineQ K) (h : IsNorm K N) : normF K = N := norm_one hk (norm_is hk) h
theorem isNorm_rot {K N : List Pt} {s : Int} (h : IsNorm (rotF K s) N) : IsNorm K N := by
  refine ⟨?_, h.left, h.first⟩
  obtain ⟨t, rfl | rfl⟩ := h.of
  · exact ⟨_, .inl (rot_rot K s t)⟩
  · exact ⟨_, .inr (by rw [rev_rot, rot_rot])⟩
theorem isNorm_rev {K N : List Pt} (h : IsNorm K.reverse N) : IsNorm K N := by
  refine ⟨?_, h.left, h.first⟩
  obtain ⟨t, rfl | rfl⟩ := h.of
  · exact ⟨_, .inr rfl⟩
  · exact ⟨_, .inl (by rw [List.reverse_reverse])⟩
theorem norm_rot (K : List Pt) (s : Int) : normF (rotF K s) = normF K := by
  by_cases h : fineQ K
  · exact (norm_eq h (isNorm_rot (norm_is ((fine_rot K s).2 h)))).symm
  · rw [norm_not h, norm_not (fun k => h ((fine_rot K s).1 k))]
theorem norm_rev (K : List Pt) : normF K.reverse = normF K := by
  by_cases h : fineQ K
  · exact (norm_eq h (isNorm_rev (norm_is ((fine_rev K).2 h)))).symm
  · rw [norm_not h, norm_not (fun k => h ((fine_rev K).1 k))]
theorem norm_norm (K : List Pt) : normF (normF K) = normF K := by
  by_cases h : fineQ K
  · obtain ⟨s, e | e⟩ := (norm_is h).of
    · rw [e, norm_rot, e]
    · rw [e, norm_rot, norm_rev, e]
  · rw [norm_not h]; exact norm_not (fun k => absurd k.few (by decide))

/-- The same ring. -/
def SameF (a b : List Pt) : Prop := fineQ a ∧ fineQ b ∧ ∃ s, a = rotF b s ∨ a = rotF b.reverse s
theorem same_norm {a b : List Pt} : SameF a b ↔ fineQ a ∧ fineQ b ∧ normF a = normF b := by
  constructor
  · rintro ⟨ha, hb, s, rfl | rfl⟩
    · exact ⟨ha, hb, norm_rot _ _⟩
    · exact ⟨ha, hb, by rw [norm_rot, norm_rev]⟩
  · rintro ⟨ha, hb, e⟩
    refine ⟨ha, hb, ?_⟩
    obtain ⟨s, h1⟩ := (norm_is ha).of
    obtain ⟨t, h2⟩ := (norm_is hb).of
    rw [e] at h1
    have back : ∀ (x y : List Pt) (p q : Int), rotF x p = rotF y q → x = rotF y (q - p) := by
      intro x y p q k
      have := congrArg (fun z => rotF z (-p)) k
      simp only [rot_rot] at this
      rw [show p + -p = 0 by omega, rot_zero] at this
      rw [this, Int.sub_eq_add_neg]
    rcases h1 with h1 | h1 <;> rcases h2 with h2 | h2
    · exact ⟨_, .inl (back _ _ _ _ (h1.symm.trans h2))⟩
    · exact ⟨_, .inr (back _ _ _ _ (h1.symm.trans h2))⟩
    · have := back _ _ _ _ (h1.symm.trans h2)
      exact ⟨_, .inr (by rw [← List.reverse_reverse a, this, rev_rot])⟩
    · have := back _ _ _ _ (h1.symm.trans h2)
      exact ⟨_, .inl (by rw [← List.reverse_reverse a, this, rev_rot, List.reverse_reverse])⟩
theorem same_self {a : List Pt} (h : fineQ a) : SameF a a := ⟨h, h, 0, .inl (rot_zero a).symm⟩
theorem same_comm {a b : List Pt} : SameF a b ↔ SameF b a := by
  rw [same_norm, same_norm]
  exact ⟨fun ⟨x, y, z⟩ => ⟨y, x, z.symm⟩, fun ⟨x, y, z⟩ => ⟨y, x, z.symm⟩⟩
/-- Of a ring that may be neighbours' edges touch, no others meet. -/
theorem edge_next {K : List Pt} (h : fineQ K) (i : Int) : meetQ (cyc K (i - 1)) (cyc K i) (cyc K i) (cyc K (i + 1)) = 1 := by
  obtain ⟨f1, f2, hc⟩ := fine_cyc.1 h
  have b := hc.back i
  have o1 := hc.ok (i - 1)
  have o2 := hc.ok i
  have o3 := hc.ok (i + 1)
  have n1 : cyc K (i - 1) ≠ cyc K i := by
    intro e
    have := hc.one _ _ e
    have k : (i - 1 - i) % (K.length : Int) = 0 := by rw [Int.sub_emod, this, Int.sub_self]; simp
    rw [show i - 1 - i = (K.length : Int) - 1 - (K.length : Int) by omega, Int.sub_emod_right, Int.emod_eq_of_lt (by omega) (by omega)] at k
    omega
  have n2 : cyc K i ≠ cyc K (i + 1) := by
    intro e
    have := hc.one _ _ e
    have k : (i - (i + 1)) % (K.length : Int) = 0 := by rw [Int.sub_emod, this, Int.sub_self]; simp
    rw [show i - (i + 1) = (K.length : Int) - 1 - (K.length : Int) by omega, Int.sub_emod_right, Int.emod_eq_of_lt (by omega) (by omega)] at k
    omega
  unfold okC at o1 o2 o3
  generalize cyc K (i - 1) = p at *
  generalize cyc K i = q at *
  generalize cyc K (i + 1) = r at *
  have m1 : mayQ p q = true := by unfold mayQ; rw [o1, o2]; simp [n1]
  have m2 : mayQ q r = true := by unfold mayQ; rw [o2, o3]; simp [n2]
  unfold meetQ
  rw [m1, m2]
  simp only [Bool.and_self, if_true]
  unfold backC at b
  rw [turnC_eq o1 o2 o3, Bool.and_eq_false_iff] at b
  have hon : detQ p q r ≠ 0 ∨ onQ q p r := by
    rcases b with b | b
    · left
      intro e
      rw [decide_eq_false_iff_not, e] at b
      exact b rfl
    · right
      unfold onC onB at b
      rw [o1, o2, o3] at b
      simpa [onQ] using b
  rcases hon with hd | hd
  · have hcnt : cntQ p q q r = 1 := by
      unfold cntQ
      rw [ind_zero (P := onQ p q r) (fun k => hd (by have := onQ_det k; rw [detQ_round] at this; exact this)), ind_one (P := onQ q q r) onQ_left, ind_zero (P := onQ q p q ∧ ¬ q = p ∧ ¬ q = q) (fun k => k.2.2 rfl), ind_zero (P := onQ r p q ∧ ¬ r = p ∧ ¬ r = q) (fun k => hd (onQ_det k.1))]
    unfold howQ
    rw [hcnt]; rfl
  · by_cases hpr : p = r
    · subst hpr
      exfalso
      have := hd
      unfold onQ onF btw at this
      exact n1 (Prod.ext (by omega) (by omega))
    · exact how_parts hd (Ne.symm n1) n2
theorem edge_far {K : List Pt} (h : fineQ K) {i j : Int} (hf : farC (K.length : Int) i j) : meetQ (cyc K i) (cyc K (i + 1)) (cyc K j) (cyc K (j + 1)) = 0 := (fine_cyc.1 h).2.2.meet i j hf
end

section
set_option linter.unusedVariables false
set_option linter.unusedSimpArgs false
open Go.RowKit

/-- Points from c on, a step d each. -/
def sideL (c d : Pt) (k : Nat) : List Pt := (List.range k).map (fun j : Nat => (c.1 + (j : Int) * d.1, c.2 + (j : Int) * d.2))
theorem side_len (c d : Pt) (k : Nat) : (sideL c d k).length = k := by simp [sideL]
theorem side_get {c d : Pt} {k j : Nat} (h : j < k) : (sideL c d k).getD j (0, 0) = (c.1 + (j : Int) * d.1, c.2 + (j : Int) * d.2) := by
  unfold sideL
  rw [List.getD_eq_getElem?_getD, List.getElem?_map, List.getElem?_range h]; rfl
theorem side_next (c d : Pt) (k : Nat) : sideL c d (k + 1) = sideL c d k ++ [(c.1 + (k : Int) * d.1, c.2 + (k : Int) * d.2)] := by
  unfold sideL; rw [List.range_succ, List.map_append]; rfl
def boxL (x y s : Int) (m0 m1 m2 m3 : Nat) : List Pt :=
  ((sideL (x, y) (1, 0) (m0 + 1) ++ sideL (x + s, y) (0, 1) (m1 + 1)) ++ sideL (x + s, y + s) (-1, 0) (m2 + 1)) ++ sideL (x, y + s) (0, -1) (m3 + 1)
theorem boxL_len (x y s : Int) (m0 m1 m2 m3 : Nat) : (boxL x y s m0 m1 m2 m3).length = m0 + m1 + m2 + m3 + 4 := by
  unfold boxL; simp only [List.length_append, side_len]; omega
theorem getD_left {A B : List Pt} {i : Nat} (h : i < A.length) : (A ++ B).getD i (0, 0) = A.getD i (0, 0) := by
  rw [List.getD_eq_getElem?_getD, List.getD_eq_getElem?_getD, List.getElem?_append_left h]
theorem getD_right {A B : List Pt} {i : Nat} (h : A.length ≤ i) : (A ++ B).getD i (0, 0) = B.getD (i - A.length) (0, 0) := by
  rw [List.getD_eq_getElem?_getD, List.getD_eq_getElem?_getD, List.getElem?_append_right h]
variable {x y s : Int} {m0 m1 m2 m3 : Nat}
theorem box_0 {i : Nat} (h : i ≤ m0) : (boxL x y s m0 m1 m2 m3).getD i (0, 0) = (x + (i : Int), y) := by
  unfold boxL
  rw [getD_left (by simp only [List.length_append, side_len]; omega), getD_left (by simp only [List.length_append, side_len]; omega), getD_left (by rw [side_len]; omega), side_get (by omega)]
  simp
theorem box_1 {i : Nat} (h : i ≤ m1) : (boxL x y s m0 m1 m2 m3).getD (m0 + 1 + i) (0, 0) = (x + s, y + (i : Int)) := by
  unfold boxL
  rw [getD_left (by simp only [List.length_append, side_len]; omega), getD_left (by simp only [List.length_append, side_len]; omega), getD_right (by rw [side_len]; omega), side_len, show m0 + 1 + i - (m0 + 1) = i by omega, side_get (by omega)]
  simp
theorem box_2 {i : Nat} (h : i ≤ m2) : (boxL x y s m0 m1 m2 m3).getD (m0 + 1 + (m1 + 1) + i) (0, 0) = (x + s - (i : Int), y + s) := by
  unfold boxL
  rw [getD_left (by simp only [List.length_append, side_len]; omega), getD_right (by simp only [List.length_append, side_len]; omega), List.length_append, side_len, side_len, show m0 + 1 + (m1 + 1) + i - (m0 + 1 + (m1 + 1)) = i by omega, side_get (by omega)]
  simp only [Int.mul_neg, Int.mul_one, Int.mul_zero, Int.add_zero]
  rw [Int.sub_eq_add_neg]
theorem box_3 {i : Nat} (h : i ≤ m3) : (boxL x y s m0 m1 m2 m3).getD (m0 + 1 + (m1 + 1) + (m2 + 1) + i) (0, 0) = (x, y + s - (i : Int)) := by
  unfold boxL
  rw [getD_right (by simp only [List.length_append, side_len]; omega), List.length_append, List.length_append, side_len, side_len, side_len, show m0 + 1 + (m1 + 1) + (m2 + 1) + i - (m0 + 1 + (m1 + 1) + (m2 + 1)) = i by omega, side_get (by omega)]
  simp only [Int.mul_neg, Int.mul_one, Int.mul_zero, Int.add_zero]
  rw [Int.sub_eq_add_neg]
/-- The edges of the ring of a box: on which side, from where to where. -/
inductive Edge (x y s : Int) (m0 m1 m2 m3 : Nat) (i : Nat) (p q : Pt) : Prop
  | e0 (u v : Int) (hu : u = (i : Int)) (hi : i ≤ m0) (hv : (v = u + 1 ∧ i < m0) ∨ (v = s ∧ i = m0)) (hp : p = (x + u, y)) (hq : q = (x + v, y))
  | e1 (u v : Int) (hu : u + (m0 + 1 : Nat) = (i : Int)) (hu0 : 0 ≤ u) (hi : i ≤ m0 + 1 + m1) (hv : (v = u + 1 ∧ i < m0 + 1 + m1) ∨ (v = s ∧ i = m0 + 1 + m1)) (hp : p = (x + s, y + u)) (hq : q = (x + s, y + v))
  | e2 (u v : Int) (hu : u + (m0 + 1 + (m1 + 1) : Nat) = (i : Int)) (hu0 : 0 ≤ u) (hi : i ≤ m0 + 1 + (m1 + 1) + m2) (hv : (v = u + 1 ∧ i < m0 + 1 + (m1 + 1) + m2) ∨ (v = s ∧ i = m0 + 1 + (m1 + 1) + m2)) (hp : p = (x + s - u, y + s)) (hq : q = (x + s - v, y + s))
  | e3 (u v : Int) (hu : u + (m0 + 1 + (m1 + 1) + (m2 + 1) : Nat) = (i : Int)) (hu0 : 0 ≤ u) (hi : i ≤ m0 + 1 + (m1 + 1) + (m2 + 1) + m3) (hv : (v = u + 1 ∧ i < m0 + 1 + (m1 + 1) + (m2 + 1) + m3) ∨ (v = s ∧ i = m0 + 1 + (m1 + 1) + (m2 + 1) + m3)) (hp : p = (x, y + s - u)) (hq : q = (x, y + s - v))
theorem edge_at {i : Nat} (h : i < m0 + m1 + m2 + m3 + 4) : Edge x y s m0 m1 m2 m3 i ((boxL x y s m0 m1 m2 m3).getD i (0, 0)) (cyc (boxL x y s m0 m1 m2 m3) ((i : Int) + 1)) := by
  have nx : ∀ k : Nat, k < m0 + m1 + m2 + m3 + 4 → k = i + 1 → cyc (boxL x y s m0 m1 m2 m3) ((i : Int) + 1) = (boxL x y s m0 m1 m2 m3).getD k (0, 0) := by
    intro k hk e
    rw [show (i : Int) + 1 = (k : Int) by omega, cyc_nat (by rw [boxL_len]; exact hk)]
  by_cases h0 : i ≤ m0
  · refine .e0 i (if i < m0 then (i : Int) + 1 else s) rfl h0 (by split <;> omega) (box_0 h0) ?_
    by_cases k : i < m0
    · rw [if_pos k, nx (i + 1) (by omega) rfl, box_0 (by omega)]; rfl
    · rw [if_neg k, nx (m0 + 1 + 0) (by omega) (by omega), box_1 (by omega)]; simp
  by_cases h1 : i ≤ m0 + 1 + m1
  · obtain ⟨j, rfl⟩ : ∃ j, i = m0 + 1 + j := ⟨i - (m0 + 1), by omega⟩
    refine .e1 j (if j < m1 then (j : Int) + 1 else s) (by omega) (by omega) h1 (by split <;> omega) (box_1 (by omega)) ?_
    by_cases k : j < m1
    · rw [if_pos k, nx (m0 + 1 + (j + 1)) (by omega) (by omega), box_1 (by omega)]; rfl
    · rw [if_neg k, nx (m0 + 1 + (m1 + 1) + 0) (by omega) (by omega), box_2 (by omega)]; simp
  by_cases h2 : i ≤ m0 + 1 + (m1 + 1) + m2
  · obtain ⟨j, rfl⟩ : ∃ j, i = m0 + 1 + (m1 + 1) + j := ⟨i - (m0 + 1 + (m1 + 1)), by omega⟩
    refine .e2 j (if j < m2 then (j : Int) + 1 else s) (by omega) (by omega) h2 (by split <;> omega) (box_2 (by omega)) ?_
    by_cases k : j < m2
    · rw [if_pos k, nx (m0 + 1 + (m1 + 1) + (j + 1)) (by omega) (by omega), box_2 (by omega)]; rfl
    · rw [if_neg k, nx (m0 + 1 + (m1 + 1) + (m2 + 1) + 0) (by omega) (by omega), box_3 (by omega)]
      refine Prod.ext ?_ ?_ <;> simp only <;> omega
  · obtain ⟨j, rfl⟩ : ∃ j, i = m0 + 1 + (m1 + 1) + (m2 + 1) + j := ⟨i - (m0 + 1 + (m1 + 1) + (m2 + 1)), by omega⟩
    refine .e3 j (if j < m3 then (j : Int) + 1 else s) (by omega) (by omega) (by omega) (by split <;> omega) (box_3 (by omega)) ?_
    by_cases k : j < m3
    · rw [if_pos k, nx (m0 + 1 + (m1 + 1) + (m2 + 1) + (j + 1)) (by omega) (by omega), box_3 (by omega)]; rfl
    · have e : cyc (boxL x y s m0 m1 m2 m3) (((m0 + 1 + (m1 + 1) + (m2 + 1) + j : Nat) : Int) + 1) = cyc (boxL x y s m0 m1 m2 m3) ((0 : Nat) : Int) := by
        have := cyc_add (boxL x y s m0 m1 m2 m3) ((0 : Nat) : Int)
        rw [boxL_len] at this
        rw [← this]
        congr 1; omega
      rw [if_neg k, e, cyc_nat (by rw [boxL_len]; omega), box_0 (by omega)]
      refine Prod.ext ?_ ?_ <;> simp only <;> omega
theorem box_ok (hs : 12 ≤ s) (h0 : m0 ≤ 10) (h1 : m1 ≤ 10) (h2 : m2 ≤ 10) (h3 : m3 ≤ 10) (hlo : okC (x, y) = true) (hhi : okC (x + s, y + s) = true) {i : Nat} {p q : Pt} (h : Edge x y s m0 m1 m2 m3 i p q) : okC p = true ∧ okC q = true := by
  unfold okC at *
  rw [okP_iff] at *
  simp only at hlo hhi
  rw [okP_iff]
  cases h with
  | e0 u v hu hi hv hp hq => subst hp hq; simp only; omega
  | e1 u v hu hu0 hi hv hp hq => subst hp hq; simp only; omega
  | e2 u v hu hu0 hi hv hp hq => subst hp hq; simp only; omega
  | e3 u v hu hu0 hi hv hp hq => subst hp hq; simp only; omega
theorem box_once (hs : 12 ≤ s) (h0 : m0 ≤ 10) (h1 : m1 ≤ 10) (h2 : m2 ≤ 10) (h3 : m3 ≤ 10) {i j : Nat} {p q a b : Pt} (hij : j < i) (h : Edge x y s m0 m1 m2 m3 i p q) (k : Edge x y s m0 m1 m2 m3 j a b) : a ≠ p := by
  intro e
  rcases h with ⟨u, v, hu, hi, hv, rfl, rfl⟩ | ⟨u, v, hu, hu0, hi, hv, rfl, rfl⟩ | ⟨u, v, hu, hu0, hi, hv, rfl, rfl⟩ | ⟨u, v, hu, hu0, hi, hv, rfl, rfl⟩ <;> rcases k with ⟨u', v', hu', hi', hv', rfl, rfl⟩ | ⟨u', v', hu', hu0', hi', hv', rfl, rfl⟩ | ⟨u', v', hu', hu0', hi', hv', rfl, rfl⟩ | ⟨u', v', hu', hu0', hi', hv', rfl, rfl⟩ <;> injection e with e1 e2 <;> omega
/-- Edges that are no neighbours lie in boxes apart. -/
theorem box_apart (hs : 12 ≤ s) (h0 : m0 ≤ 10) (h1 : m1 ≤ 10) (h2 : m2 ≤ 10) (h3 : m3 ≤ 10) {i j : Nat} {p q a b : Pt} (hij : i + 2 ≤ j) (hx : ¬ (i = 0 ∧ j = m0 + m1 + m2 + m3 + 3)) (h : Edge x y s m0 m1 m2 m3 i p q) (k : Edge x y s m0 m1 m2 m3 j a b) :
    ¬ ((min a.1 b.1 ≤ max p.1 q.1 ∧ min p.1 q.1 ≤ max a.1 b.1) ∧ (min a.2 b.2 ≤ max p.2 q.2 ∧ min p.2 q.2 ≤ max a.2 b.2)) := by
  cases h <;> cases k <;> subst_vars <;> simp only <;> omega
theorem straight {p q r : Pt} (ha : okC p = true) (hb : okC q = true) (hc : okC r = true) (h : onQ q p r) : backC p q r = false := by
  unfold backC onC onB
  unfold okC at *
  unfold onQ at h
  rw [ha, hb, hc, decide_eq_true h]; simp
theorem left_turn {p q r : Pt} (ha : okC p = true) (hb : okC q = true) (hc : okC r = true) (h : 0 < detQ p q r) : backC p q r = false ∧ turnC p q r = 1 := by
  have e : turnC p q r = 1 := by
    rw [turnC_eq ha hb hc]
    rcases sgn_cases (detQ p q r) with ⟨_, k⟩ | ⟨_, k⟩ | ⟨_, k⟩
    · exact k
    · omega
    · omega
  exact ⟨by unfold backC; rw [e]; rfl, e⟩
theorem mul_pos' {a b : Int} (ha : 0 < a) (hb : 0 < b) : 0 < a * b := Int.mul_pos ha hb
/-- An edge and the next one: straight on, or to the left. -/
theorem box_bend (hs : 12 ≤ s) (h0 : m0 ≤ 10) (h1 : m1 ≤ 10) (h2 : m2 ≤ 10) (h3 : m3 ≤ 10) {i j : Nat} {p q r : Pt} (hij : j = i + 1 ∨ (j = 0 ∧ i = m0 + m1 + m2 + m3 + 3)) (h : Edge x y s m0 m1 m2 m3 i p q) (k : Edge x y s m0 m1 m2 m3 j q r) : onQ q p r ∨ 0 < detQ p q r := by
  have on (a b c d e f : Int) (h1 : (a = c ∧ c = e) ∨ (b = d ∧ d = f)) (h2 : btw c a e) (h3 : btw d b f) : onQ (c, d) (a, b) (e, f) := by
    refine ⟨?_, h2, h3⟩
    unfold detP
    simp only
    rcases h1 with ⟨rfl, rfl⟩ | ⟨rfl, rfl⟩ <;> simp
  cases h with
  | e0 u v hu hi hv hp hq =>
    cases k with
    | e0 u' v' hu' hi' hv' hp' hq' => left; subst hp hq hq'; exact on _ _ _ _ _ _ (.inr ⟨rfl, rfl⟩) (by unfold btw; omega) (by unfold btw; omega)
    | e1 u' v' hu' hu0' hi' hv' hp' hq' =>
      right; subst hp hq hq'
      injection hp' with e1 e2
      have : 0 < (v - u) * v' := mul_pos' (by omega) (by omega)
      unfold detQ detP; simp only
      rw [show (x + v - (x + u)) * (y + v' - y) - (y - y) * (x + s - (x + u)) = (v - u) * v' by grind]; exact this
    | e2 u' v' hu' hu0' hi' hv' hp' hq' => exfalso; subst hq; injection hp' with e1 e2; omega
    | e3 u' v' hu' hu0' hi' hv' hp' hq' => exfalso; subst hq; injection hp' with e1 e2; omega
  | e1 u v hu hu0 hi hv hp hq =>
    cases k with
    | e0 u' v' hu' hi' hv' hp' hq' => exfalso; subst hq; injection hp' with e1 e2; omega
    | e1 u' v' hu' hu0' hi' hv' hp' hq' => left; subst hp hq hq'; exact on _ _ _ _ _ _ (.inl ⟨rfl, rfl⟩) (by unfold btw; omega) (by unfold btw; omega)
    | e2 u' v' hu' hu0' hi' hv' hp' hq' =>
      right; subst hp hq hq'
      injection hp' with e1 e2
      have : 0 < (v - u) * v' := mul_pos' (by omega) (by omega)
      unfold detQ detP; simp only
      rw [show (x + s - (x + s)) * (y + s - (y + u)) - (y + v - (y + u)) * (x + s - v' - (x + s)) = (v - u) * v' by grind]; exact this
    | e3 u' v' hu' hu0' hi' hv' hp' hq' => exfalso; subst hq; injection hp' with e1 e2; omega
  | e2 u v hu hu0 hi hv hp hq =>
    cases k with
    | e0 u' v' hu' hi' hv' hp' hq' => exfalso; subst hq; injection hp' with e1 e2; omega
    | e1 u' v' hu' hu0' hi' hv' hp' hq' => exfalso; subst hq; injection hp' with e1 e2; omega
    | e2 u' v' hu' hu0' hi' hv' hp' hq' => left; subst hp hq hq'; exact on _ _ _ _ _ _ (.inr ⟨rfl, rfl⟩) (by unfold btw; omega) (by unfold btw; omega)
    | e3 u' v' hu' hu0' hi' hv' hp' hq' =>
      right; subst hp hq hq'
      injection hp' with e1 e2
      have : 0 < (v - u) * v' := mul_pos' (by omega) (by omega)
      unfold detQ detP; simp only
      rw [show (x + s - v - (x + s - u)) * (y + s - v' - (y + s)) - (y + s - (y + s)) * (x - (x + s - u)) = (v - u) * v' by grind]; exact this
  | e3 u v hu hu0 hi hv hp hq =>
    cases k with
    | e0 u' v' hu' hi' hv' hp' hq' =>
      right; subst hp hq hq'
      injection hp' with e1 e2
      have : 0 < (v - u) * v' := mul_pos' (by omega) (by omega)
      unfold detQ detP; simp only
      rw [show (x - x) * (y - (y + s - u)) - (y + s - v - (y + s - u)) * (x + v' - x) = (v - u) * v' by grind]; exact this
    | e1 u' v' hu' hu0' hi' hv' hp' hq' => exfalso; subst hq; injection hp' with e1 e2; omega
    | e2 u' v' hu' hu0' hi' hv' hp' hq' => exfalso; subst hq; injection hp' with e1 e2; omega
    | e3 u' v' hu' hu0' hi' hv' hp' hq' => left; subst hp hq hq'; exact on _ _ _ _ _ _ (.inl ⟨rfl, rfl⟩) (by unfold btw; omega) (by unfold btw; omega)
theorem meet_apart {a b c d : Pt} (hab : a ≠ b) (hcd : c ≠ d) (h : ¬ ((min c.1 d.1 ≤ max a.1 b.1 ∧ min a.1 b.1 ≤ max c.1 d.1) ∧ (min c.2 d.2 ≤ max a.2 b.2 ∧ min a.2 b.2 ≤ max c.2 d.2))) : meetQ a b c d = 0 := by
  unfold meetQ
  split
  · apply Decidable.byContradiction
    intro k
    exact h (meet_boxes ((how_not hab hcd).1 k))
  · rfl
theorem box_fine (hs : 12 ≤ s) (h0 : m0 ≤ 10) (h1 : m1 ≤ 10) (h2 : m2 ≤ 10) (h3 : m3 ≤ 10) (hlo : okC (x, y) = true) (hhi : okC (x + s, y + s) = true) : fineQ (boxL x y s m0 m1 m2 m3) := by
  have hn := boxL_len x y s m0 m1 m2 m3
  have E : ∀ {i : Nat}, i < m0 + m1 + m2 + m3 + 4 → _ := fun {i} h => edge_at (x := x) (y := y) (s := s) (m0 := m0) (m1 := m1) (m2 := m2) (m3 := m3) (i := i) h
  have P : ∀ i : Nat, i < m0 + m1 + m2 + m3 + 4 → ∃ j : Nat, j < m0 + m1 + m2 + m3 + 4 ∧ (i = j + 1 ∨ (i = 0 ∧ j = m0 + m1 + m2 + m3 + 3)) ∧ cyc (boxL x y s m0 m1 m2 m3) ((i : Int) - 1) = (boxL x y s m0 m1 m2 m3).getD j (0, 0) ∧ cyc (boxL x y s m0 m1 m2 m3) ((j : Int) + 1) = (boxL x y s m0 m1 m2 m3).getD i (0, 0) := by
    intro i hi
    by_cases k : i = 0
    · subst k
      refine ⟨m0 + m1 + m2 + m3 + 3, by omega, .inr ⟨rfl, rfl⟩, ?_, ?_⟩
      · rw [← cyc_nat (by rw [hn]; omega), ← cyc_add, hn]
        congr 1 <;> omega
      · rw [← cyc_nat (by rw [hn]; omega), ← cyc_add _ (((0 : Nat) : Int)), hn]
        congr 1 <;> omega
    · refine ⟨i - 1, by omega, .inl (by omega), ?_, ?_⟩
      · rw [← cyc_nat (by rw [hn]; omega)]; congr 1; omega
      · rw [← cyc_nat (by rw [hn]; omega)]; congr 1; omega
  refine ⟨by omega, by omega, fun i hi => ?_, fun i hi => ?_, fun i hi => ?_, fun i hi => ?_⟩
  · exact (box_ok hs h0 h1 h2 h3 hlo hhi (E (by omega))).1
  · rw [twice_iff hi]
    intro j hj
    exact box_once hs h0 h1 h2 h3 hj (E (by omega)) (E (by omega))
  · obtain ⟨j, hj, hij, e1, e2⟩ := P i (by omega)
    unfold backAt
    have A := E (i := j) hj
    have B := E (i := i) (by omega)
    rw [e2] at A
    rw [e1]
    have o1 := box_ok hs h0 h1 h2 h3 hlo hhi A
    have o2 := box_ok hs h0 h1 h2 h3 hlo hhi B
    rcases box_bend hs h0 h1 h2 h3 hij A B with h | h
    · exact straight o1.1 o1.2 o2.2 h
    · exact (left_turn o1.1 o1.2 o2.2 h).1
  · rw [meets_iff]
    intro k a b c
    have A := E (i := i) (by omega)
    have B := E (i := k) (by omega)
    refine meet_apart ?_ ?_ (box_apart hs h0 h1 h2 h3 a (by omega) A B)
    · intro e
      have : ∀ {i p q}, Edge x y s m0 m1 m2 m3 i p q → p ≠ q := by
        intro i p q h e
        rcases h with ⟨u, v, hu, hi, hv, rfl, rfl⟩ | ⟨u, v, hu, hu0, hi, hv, rfl, rfl⟩ | ⟨u, v, hu, hu0, hi, hv, rfl, rfl⟩ | ⟨u, v, hu, hu0, hi, hv, rfl, rfl⟩ <;> injection e with e1 e2 <;> omega
      exact this A e
    · intro e
      have : ∀ {i p q}, Edge x y s m0 m1 m2 m3 i p q → p ≠ q := by
        intro i p q h e
        rcases h with ⟨u, v, hu, hi, hv, rfl, rfl⟩ | ⟨u, v, hu, hu0, hi, hv, rfl, rfl⟩ | ⟨u, v, hu, hu0, hi, hv, rfl, rfl⟩ | ⟨u, v, hu, hu0, hi, hv, rfl, rfl⟩ <;> injection e with e1 e2 <;> omega
      exact this B e
theorem box_sign (hs : 12 ≤ s) (h0 : m0 ≤ 10) (h1 : m1 ≤ 10) (h2 : m2 ≤ 10) (h3 : m3 ≤ 10) (hlo : okC (x, y) = true) (hhi : okC (x + s, y + s) = true) : signF (boxL x y s m0 m1 m2 m3) = 1 := by
  have hf := box_fine (m0 := m0) (m1 := m1) (m2 := m2) (m3 := m3) hs h0 h1 h2 h3 hlo hhi
  have hn := boxL_len x y s m0 m1 m2 m3
  have E : ∀ {i : Nat}, i < m0 + m1 + m2 + m3 + 4 → _ := fun {i} h => edge_at (x := x) (y := y) (s := s) (m0 := m0) (m1 := m1) (m2 := m2) (m3 := m3) (i := i) h
  have first : cyc (boxL x y s m0 m1 m2 m3) ((0 : Nat) : Int) = (x, y) := by
    rw [cyc_nat (by rw [hn]; omega), box_0 (by omega)]; simp
  have hl : LeastC (boxL x y s m0 m1 m2 m3) ((0 : Nat) : Int) := by
    intro j
    obtain ⟨k, hk, e, _⟩ := cyc_at (K := boxL x y s m0 m1 m2 m3) (by omega) j
    rw [e, first]
    clear e
    have := E (i := k) (by omega)
    generalize (boxL x y s m0 m1 m2 m3).getD k (0, 0) = p at *
    generalize cyc (boxL x y s m0 m1 m2 m3) ((k : Int) + 1) = q at *
    unfold cmpC cmpF
    rcases this with ⟨u, v, hu, hi, hv, rfl, rfl⟩ | ⟨u, v, hu, hu0, hi, hv, rfl, rfl⟩ | ⟨u, v, hu, hu0, hi, hv, rfl, rfl⟩ | ⟨u, v, hu, hu0, hi, hv, rfl, rfl⟩ <;> simp only <;> (repeat' split) <;> (first | omega | (exfalso; simp at *; omega))
  rw [sign_eq hf hl]
  unfold turnAt
  have e1 : cyc (boxL x y s m0 m1 m2 m3) (((0 : Nat) : Int) - 1) = (boxL x y s m0 m1 m2 m3).getD (m0 + m1 + m2 + m3 + 3) (0, 0) := by
    rw [← cyc_nat (by rw [hn]; omega), ← cyc_add _ (((0 : Nat) : Int) - 1), hn]; congr 1 <;> omega
  have A := E (i := m0 + m1 + m2 + m3 + 3) (by omega)
  have B := E (i := 0) (by omega)
  have e2 : cyc (boxL x y s m0 m1 m2 m3) (((m0 + m1 + m2 + m3 + 3 : Nat) : Int) + 1) = cyc (boxL x y s m0 m1 m2 m3) ((0 : Nat) : Int) := by
    rw [← cyc_add _ (((0 : Nat) : Int)), hn]; congr 1 <;> omega
  rw [e2] at A
  rw [← cyc_nat (by rw [hn]; omega)] at B
  rw [e1]
  rw [first] at A B ⊢
  have o1 := box_ok hs h0 h1 h2 h3 hlo hhi A
  have o2 := box_ok hs h0 h1 h2 h3 hlo hhi B
  refine (left_turn o1.1 o1.2 o2.2 ?_).2
  rcases A with ⟨u, v, hu, hi, hv, hp, hq⟩ | ⟨u, v, hu, hu0, hi, hv, hp, hq⟩ | ⟨u, v, hu, hu0, hi, hv, hp, hq⟩ | ⟨u, v, hu, hu0, hi, hv, hp, hq⟩
  · omega
  · omega
  · omega
  rcases B with ⟨u', v', hu', hi', hv', hp', hq'⟩ | ⟨u', v', hu', hu0', hi', hv', hp', hq'⟩ | ⟨u', v', hu', hu0', hi', hv', hp', hq'⟩ | ⟨u', v', hu', hu0', hi', hv', hp', hq'⟩
  · rw [hp, hq']
    have : 0 < (s - u) * v' := mul_pos' (by omega) (by omega)
    unfold detQ detP; simp only
    rw [show (x - x) * (y - (y + s - u)) - (y - (y + s - u)) * (x + v' - x) = (s - u) * v' by grind]; exact this
  · omega
  · omega
  · omega
/-- The crossed box. -/
theorem box_crossed (hs : 0 < s) (hlo : okC (x, y) = true) (hhi : okC (x + s, y + s) = true) : checkF [(x, y), (x + s, y + s), (x + s, y), (x, y + s)] = (193, 0) := by
  have o1 : okC (x + s, y) = true := by unfold okC at *; rw [okP_iff] at *; simp only at *; omega
  have o2 : okC (x, y + s) = true := by unfold okC at *; rw [okP_iff] at *; simp only at *; omega
  have hp : 0 < s * s := Int.mul_pos hs hs
  have T : ∀ {a p b : Pt}, okC a = true → okC p = true → okC b = true → detQ a p b ≠ 0 → backC a p b = false := by
    intro a p b ha hq hb hd
    unfold backC
    rw [turnC_eq ha hq hb]
    rcases sgn_three (detQ a p b) with e | e | ⟨_, e⟩
    · rw [e]; rfl
    · rw [e]; rfl
    · exact absurd e hd
  have d1 : detQ (x, y + s) (x, y) (x + s, y + s) = s * s := by unfold detQ detP; simp only; grind
  have d2 : detQ (x, y) (x + s, y + s) (x + s, y) = - (s * s) := by unfold detQ detP; simp only; grind
  have d3 : detQ (x + s, y + s) (x + s, y) (x, y + s) = - (s * s) := by unfold detQ detP; simp only; grind
  have d4 : detQ (x + s, y) (x, y + s) (x, y) = s * s := by unfold detQ detP; simp only; grind
  have f1 : firstQ (fun i => !okC ([(x, y), (x + s, y + s), (x + s, y), (x, y + s)].getD i (0, 0))) 4 = none := by
    rw [first_none]
    intro i hi
    match i, hi with
    | 0, _ => simp [hlo]
    | 1, _ => simp [hhi]
    | 2, _ => simp [o1]
    | 3, _ => simp [o2]
  have f2 : firstQ (twiceAt [(x, y), (x + s, y + s), (x + s, y), (x, y + s)]) 4 = none := by
    rw [first_none]
    intro i hi
    unfold twiceAt
    rw [decide_eq_false_iff_not]
    match i, hi with
    | 0, _ => simp
    | 1, _ => simp; omega
    | 2, _ => simp; omega
    | 3, _ => simp; omega
  have f3 : firstQ (backAt [(x, y), (x + s, y + s), (x + s, y), (x, y + s)]) 4 = none := by
    rw [first_none]
    intro i hi
    match i, hi with
    | 0, _ =>
      have h := T o2 hlo hhi (by rw [d1]; omega)
      exact h
    | 1, _ =>
      have h := T hlo hhi o1 (by rw [d2]; omega)
      exact h
    | 2, _ =>
      have h := T hhi o1 o2 (by rw [d3]; omega)
      exact h
    | 3, _ =>
      have h := T o1 o2 hlo (by rw [d4]; omega)
      unfold backAt
      rw [show cyc [(x, y), (x + s, y + s), (x + s, y), (x, y + s)] (((3 : Nat) : Int) + 1) = (x, y) by unfold cyc; simp]
      exact h
  have hm : meetQ (x, y) (x + s, y + s) (x + s, y) (x, y + s) = 2 := by
    have m1 : mayQ (x, y) (x + s, y + s) = true := by unfold mayQ; unfold okC at hlo hhi; rw [hlo, hhi]; simp; omega
    have m2 : mayQ (x + s, y) (x, y + s) = true := by unfold mayQ; unfold okC at o1 o2; rw [o1, o2]; simp; omega
    unfold meetQ
    rw [m1, m2]
    refine (how_cross (may_ne m1) (may_ne m2)).2 ?_
    have c1 : detQ (x, y) (x + s, y + s) (x, y + s) = s * s := by unfold detQ detP; simp only; grind
    have c2 : detQ (x + s, y) (x, y + s) (x + s, y + s) = - (s * s) := by unfold detQ detP; simp only; grind
    unfold crossQ oppo
    rw [d2, c1, d4, c2]
    omega
  have f4 : firstQ (meetsAt [(x, y), (x + s, y + s), (x + s, y), (x, y + s)]) 4 = some 0 := by
    have : meetsAt [(x, y), (x + s, y + s), (x + s, y), (x, y + s)] 0 = true := by
      unfold meetsAt
      rw [List.any_eq_true]
      refine ⟨2, by simp, ?_⟩
      unfold meetTwo
      rw [show cyc [(x, y), (x + s, y + s), (x + s, y), (x, y + s)] (((0 : Nat) : Int) + 1) = (x + s, y + s) from rfl, show cyc [(x, y), (x + s, y + s), (x + s, y), (x, y + s)] (((2 : Nat) : Int) + 1) = (x, y + s) from rfl]
      simp [hm]
    unfold firstQ
    rw [show List.range 4 = [0, 1, 2, 3] from rfl, List.find?_cons, this]
  unfold checkF
  simp only [List.length_cons, List.length_nil]
  rw [f1, f2, f3, f4]
  rfl
end
end Go.Proofs.Ytmofejcafbjlnaa

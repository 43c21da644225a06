/- Rings: mathematics: points round a list, a ring begun elsewhere, and the other way round; which faults there are. Rings: mathematics: the least point, the way round, the normal one, the same ones. Parity: mathematics: which edges count for a point, how many of a list do. Parity: mathematics: boxes, three points, bounds. Regions: parity over rings; of a box that is cut by a line just one of the two parts has each point. Regions: rings that meet in more than points; what is wrong with a region; regions that are the same. -/
import Derived.Test.YtegliapkbapigaaGreatCrMath
import Derived.Test.YtegliapkbapigaaGreatPtU
import Derived.Test.YtegliapkbapigaaGreatPtTwo
namespace Go.Proofs.YtegliapkbapigaaGreat
section
set_option linter.unusedVariables false
set_option linter.unusedSimpArgs false
open Go.RowKit

abbrev Pt := Int × Int
/-- The i-th point, round the list. -/
def cyc (K : List Pt) (i : Int) : Pt := K.getD (i % (K.length : Int)).toNat (0, 0)
theorem cyc_mod {K : List Pt} {i j : Int} (h : i % (K.length : Int) = j % (K.length : Int)) : cyc K i = cyc K j := by unfold cyc; rw [h]
theorem cyc_nat {K : List Pt} {k : Nat} (h : k < K.length) : cyc K (k : Int) = K.getD k (0, 0) := by
  unfold cyc; rw [Int.emod_eq_of_lt (by omega) (by omega)]; rfl
theorem cyc_add (K : List Pt) (i : Int) : cyc K (i + (K.length : Int)) = cyc K i := cyc_mod (by rw [Int.add_emod_right])
theorem cyc_at {K : List Pt} (hn : 0 < K.length) (i : Int) : ∃ k : Nat, k < K.length ∧ cyc K i = K.getD k (0, 0) ∧ i % (K.length : Int) = (k : Int) := by
  have h1 := Int.emod_nonneg i (b := (K.length : Int)) (by omega)
  have h2 := Int.emod_lt_of_pos i (b := (K.length : Int)) (by omega)
  exact ⟨(i % (K.length : Int)).toNat, by omega, rfl, by omega⟩
theorem list_cyc {K M : List Pt} (hl : K.length = M.length) (h : ∀ k : Nat, k < K.length → cyc K (k : Int) = cyc M (k : Int)) : K = M := by
  apply List.ext_getElem hl
  intro k h1 h2
  have := h k h1
  rw [cyc_nat h1, cyc_nat h2, List.getD_eq_getElem?_getD, List.getD_eq_getElem?_getD, List.getElem?_eq_getElem h1, List.getElem?_eq_getElem h2] at this
  simpa using this
/-- The list begun elsewhere. -/
def rotF (K : List Pt) (s : Int) : List Pt := (List.range K.length).map (fun k : Nat => cyc K (s + (k : Int)))
theorem rot_len (K : List Pt) (s : Int) : (rotF K s).length = K.length := by simp [rotF]
theorem rot_getD {K : List Pt} {s : Int} {k : Nat} (h : k < K.length) : (rotF K s).getD k (0, 0) = cyc K (s + (k : Int)) := by
  unfold rotF
  rw [List.getD_eq_getElem?_getD, List.getElem?_map, List.getElem?_range h]; rfl
theorem rot_cyc (K : List Pt) (s i : Int) : cyc (rotF K s) i = cyc K (s + i) := by
  by_cases hn : 0 < K.length
  · obtain ⟨k, hk, e, hm⟩ := cyc_at (K := rotF K s) (by rw [rot_len]; exact hn) i
    rw [rot_len] at hk hm
    rw [e, rot_getD hk, ← hm]
    refine cyc_mod ?_
    rw [Int.add_emod_emod]
  · have : K = [] := by cases K with | nil => rfl | cons a l => simp at hn
    subst this
    simp [rotF, cyc]
theorem rev_cyc (K : List Pt) (i : Int) : cyc K.reverse i = cyc K (-1 - i) := by
  by_cases hn : 0 < K.length
  · obtain ⟨k, hk, e, hm⟩ := cyc_at (K := K.reverse) (by simpa using hn) i
    rw [List.length_reverse] at hk hm
    have e2 : cyc K (-1 - i) = cyc K ((K.length - 1 - k : Nat) : Int) := by
      refine cyc_mod ?_
      have e3 : ((K.length - 1 - k : Nat) : Int) = (K.length : Int) - 1 - (k : Int) := by omega
      rw [e3, ← hm, show -1 - i = (-1) - i from rfl, show (K.length : Int) - 1 - i % (K.length : Int) = (-1 - i % (K.length : Int)) + (K.length : Int) by omega, Int.add_emod_right, Int.sub_emod_emod]
    rw [e, e2, cyc_nat (by omega), List.getD_eq_getElem?_getD, List.getD_eq_getElem?_getD, List.getElem?_reverse (by omega)]
  · have : K = [] := by cases K with | nil => rfl | cons a l => simp at hn
    subst this
    simp [cyc]
theorem rot_rot (K : List Pt) (a b : Int) : rotF (rotF K a) b = rotF K (a + b) := by
  refine list_cyc (by simp [rot_len]) fun k _ => ?_
  rw [rot_cyc, rot_cyc, rot_cyc, Int.add_assoc]
theorem rot_zero (K : List Pt) : rotF K 0 = K := by
  refine list_cyc (rot_len K 0) fun k _ => ?_
  rw [rot_cyc, Int.zero_add]
theorem rot_mod {K : List Pt} {a b : Int} (h : a % (K.length : Int) = b % (K.length : Int)) : rotF K a = rotF K b := by
  refine list_cyc (by simp [rot_len]) fun k _ => ?_
  rw [rot_cyc, rot_cyc]
  refine cyc_mod ?_
  rw [Int.add_emod, h, ← Int.add_emod]
theorem rev_rot (K : List Pt) (s : Int) : (rotF K s).reverse = rotF K.reverse (-s) := by
  refine list_cyc (by simp [rot_len]) fun k _ => ?_
  rw [rev_cyc, rot_cyc, rot_cyc, rev_cyc]
  congr 1; omega

/-- Far from each other, round n. -/
def farC (n i j : Int) : Prop := (j - i) % n ≠ 0 ∧ (j - i) % n ≠ 1 ∧ (j - i) % n ≠ n - 1
def turnC (a p b : Pt) : Int := turnF a.1 a.2 p.1 p.2 b.1 b.2
def onC (p a b : Pt) : Bool := onB p.1 p.2 a.1 a.2 b.1 b.2
def okC (p : Pt) : Bool := okP p.1 p.2
def backC (a p b : Pt) : Bool := decide (turnC a p b = 0) && !onC p a b
theorem turnC_eq {a p b : Pt} (ha : okC a = true) (hp : okC p = true) (hb : okC b = true) : turnC a p b = sgn (detQ a p b) := by
  unfold okC at *
  unfold turnC turnF
  rw [ha, hp, hb]; rfl
theorem turnC_swap (a p b : Pt) : turnC b p a = - turnC a p b := by
  unfold turnC turnF
  have e : detP b.1 b.2 p.1 p.2 a.1 a.2 = - detP a.1 a.2 p.1 p.2 b.1 b.2 := by unfold detP; grind
  by_cases h : (okP a.1 a.2 && okP p.1 p.2 && okP b.1 b.2) = true
  · rw [if_pos h, if_pos (by simp only [Bool.and_eq_true] at h ⊢; exact ⟨⟨h.2, h.1.2⟩, h.1.1⟩), e]
    exact Int.sign_neg _
  · rw [if_neg h, if_neg (by simp only [Bool.and_eq_true] at h ⊢; intro k; exact h ⟨⟨k.2, k.1.2⟩, k.1.1⟩)]; rfl
theorem onC_back (p a b : Pt) : onC p b a = onC p a b := by
  unfold onC onB
  rw [Bool.eq_iff_iff]
  simp only [Bool.and_eq_true, decide_eq_true_eq]
  rw [on_back p.1 p.2 b.1 b.2 a.1 a.2]
  constructor <;> exact fun h => ⟨⟨⟨h.1.1.1, h.1.2⟩, h.1.1.2⟩, h.2⟩
theorem backC_swap (a p b : Pt) : backC b p a = backC a p b := by
  unfold backC
  rw [onC_back, turnC_swap]
  congr 1
  exact decide_eq_decide.2 (by omega)
/-- A ring that may be, by its points round. -/
structure RingC (n : Int) (c : Int → Pt) : Prop where
  ok : ∀ i, okC (c i) = true
  one : ∀ i j, c i = c j → i % n = j % n
  back : ∀ i, backC (c (i - 1)) (c i) (c (i + 1)) = false
  meet : ∀ i j, farC n i j → meetQ (c i) (c (i + 1)) (c j) (c (j + 1)) = 0
theorem RingC.shift {n : Int} {c : Int → Pt} (h : RingC n c) (s : Int) : RingC n (fun i => c (s + i)) where
  ok i := h.ok _
  one i j e := by
    have := h.one _ _ e
    have h2 : (s + i - s) % n = (s + j - s) % n := by rw [Int.sub_emod, this, ← Int.sub_emod]
    rwa [show s + i - s = i by omega, show s + j - s = j by omega] at h2
  back i := by
    have := h.back (s + i)
    rwa [show s + i - 1 = s + (i - 1) by omega, show s + i + 1 = s + (i + 1) by omega] at this
  meet i j hf := by
    have := h.meet (s + i) (s + j) (by unfold farC at *; rwa [show s + j - (s + i) = j - i by omega])
    rwa [show s + i + 1 = s + (i + 1) by omega, show s + j + 1 = s + (j + 1) by omega] at this
theorem far_neg {n x : Int} (hn : 3 ≤ n) (h : x % n ≠ 0 ∧ x % n ≠ 1 ∧ x % n ≠ n - 1) : (-x) % n ≠ 0 ∧ (-x) % n ≠ 1 ∧ (-x) % n ≠ n - 1 := by
  have h1 := Int.emod_nonneg x (b := n) (by omega)
  have h2 := Int.emod_lt_of_pos x (b := n) (by omega)
  have e : (-x) % n = n - x % n := by
    have e1 : (-x) % n = (n - x % n) % n := by
      rw [Int.sub_emod, Int.emod_emod, Int.emod_self, ← Int.zero_emod n, ← Int.sub_emod]
      simp
    rw [e1, Int.emod_eq_of_lt (by omega) (by omega)]
  omega
theorem far_symm {n i j : Int} (hn : 3 ≤ n) (h : farC n i j) : farC n j i := by
  have := far_neg hn h
  rwa [show -(j - i) = i - j by omega] at this
theorem RingC.flip {n : Int} {c : Int → Pt} (hn : 3 ≤ n) (h : RingC n c) : RingC n (fun i => c (-1 - i)) where
  ok i := h.ok _
  one i j e := by
    have := h.one _ _ e
    have h2 : (-1 - (-1 - i)) % n = (-1 - (-1 - j)) % n := by rw [Int.sub_emod, this, ← Int.sub_emod]
    rwa [show -1 - (-1 - i) = i by omega, show -1 - (-1 - j) = j by omega] at h2
  back i := by
    have := h.back (-1 - i)
    rw [← backC_swap] at this
    rwa [show -1 - i + 1 = -1 - (i - 1) by omega, show -1 - i - 1 = -1 - (i + 1) by omega] at this
  meet i j hf := by
    have := h.meet (-1 - (i + 1)) (-1 - (j + 1)) (by
      have := far_symm hn hf
      unfold farC at *
      rwa [show -1 - (j + 1) - (-1 - (i + 1)) = i - j by omega])
    rw [show -1 - (i + 1) + 1 = -1 - i by omega, show -1 - (j + 1) + 1 = -1 - j by omega] at this
    rw [← meet_flip, ← meet_flip'] at this
    exact this

/-- Does a point stand ahead of itself? -/
def twiceAt (K : List Pt) (i : Nat) : Bool := decide (K.getD i (0, 0) ∈ K.take i)
def backAt (K : List Pt) (i : Nat) : Bool := backC (cyc K ((i : Int) - 1)) (K.getD i (0, 0)) (cyc K ((i : Int) + 1))
def meetTwo (K : List Pt) (i k : Nat) : Bool := !decide (i = 0 ∧ k = K.length - 1) && !decide (meetQ (K.getD i (0, 0)) (cyc K ((i : Int) + 1)) (K.getD k (0, 0)) (cyc K ((k : Int) + 1)) = 0)
def meetsAt (K : List Pt) (i : Nat) : Bool := (List.range K.length).any (fun k => decide (i + 2 ≤ k) && meetTwo K i k)
/-- The first place of n at which something is so. -/
def firstQ (f : Nat → Bool) (n : Nat) : Option Nat := (List.range n).find? f
def orFault (o : Option Nat) (e : Int) (r : Int × Nat) : Int × Nat := match o with | some i => (e, i) | none => r
/-- What is wrong with points as a ring, and at which. -/
def checkF (K : List Pt) : Int × Nat :=
  if 200 < K.length then (3, 0) else if K.length < 3 then (190, 0) else
  orFault (firstQ (fun i => !okC (K.getD i (0, 0))) K.length) 2 (orFault (firstQ (twiceAt K) K.length) 191 (orFault (firstQ (backAt K) K.length) 192 (orFault (firstQ (meetsAt K) K.length) 193 (0, 0))))
theorem first_none {f : Nat → Bool} {n : Nat} : firstQ f n = none ↔ ∀ i, i < n → f i = false := by
  unfold firstQ
  rw [List.find?_eq_none]
  simp
structure fineQ (K : List Pt) : Prop where
  few : 3 ≤ K.length
  long : K.length ≤ 200
  ok : ∀ i, i < K.length → okC (K.getD i (0, 0)) = true
  once : ∀ i, i < K.length → twiceAt K i = false
  back : ∀ i, i < K.length → backAt K i = false
  meet : ∀ i, i < K.length → meetsAt K i = false
theorem or_zero {o : Option Nat} {e : Int} {r : Int × Nat} (he : e ≠ 0) : (orFault o e r).1 = 0 ↔ o = none ∧ r.1 = 0 := by
  cases o with
  | none => simp [orFault]
  | some i => simp [orFault, he]
theorem check_fine {K : List Pt} : (checkF K).1 = 0 ↔ fineQ K := by
  unfold checkF
  by_cases h1 : 200 < K.length
  · rw [if_pos h1]; exact ⟨fun h => absurd h (by decide), fun h => absurd h.long (by omega)⟩
  rw [if_neg h1]
  by_cases h2 : K.length < 3
  · rw [if_pos h2]; exact ⟨fun h => absurd h (by decide), fun h => absurd h.few (by omega)⟩
  rw [if_neg h2, or_zero (by decide), or_zero (by decide), or_zero (by decide), or_zero (by decide), first_none, first_none, first_none, first_none]
  constructor
  · rintro ⟨a, b, c, d, _⟩
    exact ⟨by omega, by omega, fun i hi => by simpa using a i hi, b, c, d⟩
  · intro h
    exact ⟨fun i hi => by rw [h.ok i hi]; rfl, h.once, h.back, h.meet, rfl⟩
theorem or_at {o : Option Nat} {e : Int} {r : Int × Nat} (he : e ≠ 0) (hr : r.1 = 0 → r.2 = 0) (h : (orFault o e r).1 = 0) : (orFault o e r).2 = 0 := by
  cases o with
  | none => exact hr h
  | some i => exact absurd h he
theorem check_at {K : List Pt} (h : (checkF K).1 = 0) : checkF K = (0, 0) := by
  refine Prod.ext h ?_
  revert h
  unfold checkF
  split
  · intro h; rfl
  · split
    · intro h; rfl
    · exact or_at (by decide) (or_at (by decide) (or_at (by decide) (or_at (by decide) (fun _ => rfl))))

theorem twice_iff {K : List Pt} {i : Nat} (hi : i < K.length) : twiceAt K i = false ↔ ∀ j, j < i → K.getD j (0, 0) ≠ K.getD i (0, 0) := by
  unfold twiceAt
  rw [decide_eq_false_iff_not]
  constructor
  · intro h j hj e
    apply h
    rw [← e, List.getD_eq_getElem?_getD, List.getElem?_eq_getElem (by omega)]
    simp only [Option.getD_some]
    rw [List.mem_iff_getElem]
    exact ⟨j, by rw [List.length_take]; omega, by rw [List.getElem_take]⟩
  · intro h hm
    rw [List.mem_iff_getElem] at hm
    obtain ⟨j, hj, e⟩ := hm
    rw [List.length_take] at hj
    rw [List.getElem_take] at e
    refine h j (by omega) ?_
    rw [← e, List.getD_eq_getElem?_getD, List.getElem?_eq_getElem (by omega)]
    rfl
theorem meets_iff {K : List Pt} {i : Nat} : meetsAt K i = false ↔ ∀ k, i + 2 ≤ k → k < K.length → ¬ (i = 0 ∧ k = K.length - 1) → meetQ (K.getD i (0, 0)) (cyc K ((i : Int) + 1)) (K.getD k (0, 0)) (cyc K ((k : Int) + 1)) = 0 := by
  unfold meetsAt meetTwo
  rw [List.any_eq_false]
  constructor
  · intro h k h1 h2 h3
    have := h k (by simpa using h2)
    rw [decide_eq_true h1, decide_eq_false h3] at this
    simpa using this
  · intro h k hk
    rw [List.mem_range] at hk
    by_cases h1 : i + 2 ≤ k
    · by_cases h3 : i = 0 ∧ k = K.length - 1
      · rw [decide_eq_true h3]; simp
      · rw [h k h1 hk h3]; simp
    · rw [decide_eq_false h1]; simp
/-- A ring may be just if it may be by its points round. -/
theorem fine_cyc {K : List Pt} : fineQ K ↔ 3 ≤ K.length ∧ K.length ≤ 200 ∧ RingC (K.length : Int) (cyc K) := by
  constructor
  · intro h
    have hn := h.few
    refine ⟨h.few, h.long, ?_, ?_, ?_, ?_⟩
    · intro i
      obtain ⟨k, hk, e, _⟩ := cyc_at (K := K) (by omega) i
      rw [e]; exact h.ok k hk
    · intro i j e
      obtain ⟨k, hk, e1, m1⟩ := cyc_at (K := K) (by omega) i
      obtain ⟨l, hl, e2, m2⟩ := cyc_at (K := K) (by omega) j
      rw [e1, e2] at e
      rw [m1, m2]
      rcases Nat.lt_trichotomy k l with h1 | h1 | h1
      · exact absurd e ((twice_iff hl).1 (h.once l hl) k h1)
      · rw [h1]
      · exact absurd e.symm ((twice_iff hk).1 (h.once k hk) l h1)
    · intro i
      obtain ⟨k, hk, e, m⟩ := cyc_at (K := K) (by omega) i
      have := h.back k hk
      unfold backAt at this
      rw [e]
      rwa [cyc_mod (i := (k : Int) - 1) (j := i - 1) (by rw [← m, Int.emod_sub_emod]), cyc_mod (i := (k : Int) + 1) (j := i + 1) (by rw [← m, Int.emod_add_emod])] at this
    · intro i j hf
      obtain ⟨k, hk, e1, m1⟩ := cyc_at (K := K) (by omega) i
      obtain ⟨l, hl, e2, m2⟩ := cyc_at (K := K) (by omega) j
      have hd : (j - i) % (K.length : Int) = ((l : Int) - (k : Int)) % (K.length : Int) := by rw [← m1, ← m2, ← Int.sub_emod]
      have n1 : cyc K (i + 1) = cyc K ((k : Int) + 1) := cyc_mod (by rw [← m1, Int.emod_add_emod])
      have n2 : cyc K (j + 1) = cyc K ((l : Int) + 1) := cyc_mod (by rw [← m2, Int.emod_add_emod])
      unfold farC at hf
      rw [hd] at hf
      rw [e1, e2, n1, n2]
      rcases Nat.lt_trichotomy k l with h1 | h1 | h1
      · rw [Int.emod_eq_of_lt (by omega) (by omega)] at hf
        exact meets_iff.1 (h.meet k hk) l (by omega) hl (by omega)
      · subst h1; simp at hf
      · rw [show ((l : Int) - (k : Int)) = ((l : Int) - (k : Int) + (K.length : Int)) - (K.length : Int) by omega, Int.sub_emod_right, Int.emod_eq_of_lt (by omega) (by omega)] at hf
        rw [meet_swap]
        exact meets_iff.1 (h.meet l hl) k (by omega) hk (by omega)
  · rintro ⟨h1, h2, h⟩
    refine ⟨h1, h2, fun i hi => ?_, fun i hi => ?_, fun i hi => ?_, fun i hi => ?_⟩
    · have := h.ok (i : Int)
      rwa [cyc_nat hi] at this
    · rw [twice_iff hi]
      intro j hj e
      rw [← cyc_nat hi, ← cyc_nat (K := K) (k := j) (by omega)] at e
      have := h.one _ _ e
      rw [Int.emod_eq_of_lt (by omega) (by omega), Int.emod_eq_of_lt (by omega) (by omega)] at this
      omega
    · have := h.back (i : Int)
      rw [cyc_nat hi] at this
      exact this
    · rw [meets_iff]
      intro k a b c
      have := h.meet (i : Int) (k : Int) (by
        unfold farC
        rw [Int.emod_eq_of_lt (by omega) (by omega)]
        omega)
      rwa [cyc_nat hi, cyc_nat b] at this
theorem fine_rot (K : List Pt) (s : Int) : fineQ (rotF K s) ↔ fineQ K := by
  rw [fine_cyc, fine_cyc, rot_len]
  have e : cyc (rotF K s) = fun i => cyc K (s + i) := funext (rot_cyc K s)
  rw [e]
  constructor
  · rintro ⟨a, b, h⟩
    refine ⟨a, b, ?_⟩
    have := h.shift (-s)
    simp only [show ∀ i : Int, s + (-s + i) = i from fun i => by omega] at this
    exact this
  · rintro ⟨a, b, h⟩
    exact ⟨a, b, h.shift s⟩
theorem fine_rev (K : List Pt) : fineQ K.reverse ↔ fineQ K := by
  rw [fine_cyc, fine_cyc, List.length_reverse]
  have e : cyc K.reverse = fun i => cyc K (-1 - i) := funext (rev_cyc K)
  rw [e]
  constructor
  · rintro ⟨a, b, h⟩
    refine ⟨a, b, ?_⟩
    have := h.flip (by omega)
    simp only [show ∀ i : Int, -1 - (-1 - i) = i from fun i => by omega] at this
    exact this
  · rintro ⟨a, b, h⟩
    exact ⟨a, b, h.flip (by omega)⟩
end

section
set_option linter.unusedVariables false
set_option linter.unusedSimpArgs false
open Go.RowKit

def cmpC (p q : Pt) : Int := cmpF p.1 p.2 q.1 q.2
theorem cmpC_zero {p q : Pt} : cmpC p q = 0 ↔ p = q := by
  unfold cmpC cmpF
  constructor
  · intro h
    split at h
    · omega
    · split at h
      · exact Prod.ext (by omega) (by omega)
      · omega
  · rintro rfl; simp
theorem cmpC_neg (p q : Pt) : cmpC q p = - cmpC p q := by
  unfold cmpC cmpF; repeat' split
  all_goals omega
theorem cmpC_cases (p q : Pt) : cmpC p q = -1 ∨ cmpC p q = 0 ∨ cmpC p q = 1 := by
  unfold cmpC cmpF; repeat' split
  all_goals omega
theorem cmpC_trans {p q r : Pt} (h1 : cmpC p q ≤ 0) (h2 : cmpC q r ≤ 0) : cmpC p r ≤ 0 := by
  unfold cmpC cmpF at *; repeat' split
  all_goals (repeat' split at h1) <;> (repeat' split at h2) <;> omega
/-- The place of the least point, of the first k ones. -/
def leastN (K : List Pt) : Nat → Nat
  | 0 => 0
  | k + 1 => if cmpC (K.getD k (0, 0)) (K.getD (leastN K k) (0, 0)) < 0 then k else leastN K k
def leastF (K : List Pt) : Nat := leastN K K.length
theorem least_lt {K : List Pt} : ∀ k, leastN K k < k ∨ (k = 0 ∧ leastN K k = 0)
  | 0 => .inr ⟨rfl, rfl⟩
  | k + 1 => by
    unfold leastN
    left
    split
    · omega
    · rcases least_lt (K := K) k with h | h <;> omega
theorem least_le {K : List Pt} : ∀ k i, i < k → cmpC (K.getD (leastN K k) (0, 0)) (K.getD i (0, 0)) ≤ 0
  | 0, i, h => by omega
  | k + 1, i, h => by
    unfold leastN
    by_cases hik : i = k
    · subst hik
      split
      · rw [cmpC_zero.2 rfl]; decide
      · rw [cmpC_neg]; omega
    · have := least_le (K := K) k i (by omega)
      split
      · exact cmpC_trans (by omega) this
      · exact this
theorem least_in {K : List Pt} (hn : 0 < K.length) : leastF K < K.length := by
  rcases least_lt (K := K) K.length with h | h
  · exact h
  · omega
/-- i is the place of a least point, round. -/
def LeastC (K : List Pt) (i : Int) : Prop := ∀ j, cmpC (cyc K i) (cyc K j) ≤ 0
theorem least_c {K : List Pt} (hn : 0 < K.length) : LeastC K (leastF K : Nat) := by
  intro j
  obtain ⟨k, hk, e, _⟩ := cyc_at hn j
  rw [e, cyc_nat (least_in hn)]
  exact least_le _ _ hk
theorem least_one {K : List Pt} (h : fineQ K) {i j : Int} (hi : LeastC K i) (hj : LeastC K j) : i % (K.length : Int) = j % (K.length : Int) := by
  have h1 := hi j
  have h2 := hj i
  rw [cmpC_neg] at h2
  exact (fine_cyc.1 h).2.2.one _ _ (cmpC_zero.1 (by omega))
theorem leastC_rot {K : List Pt} {s i : Int} : LeastC (rotF K s) i ↔ LeastC K (s + i) := by
  unfold LeastC
  constructor
  · intro h j
    have := h (j - s)
    rwa [rot_cyc, rot_cyc, show s + (j - s) = j by omega] at this
  · intro h j
    rw [rot_cyc, rot_cyc]
    exact h _
theorem leastC_rev {K : List Pt} {i : Int} : LeastC K.reverse i ↔ LeastC K (-1 - i) := by
  unfold LeastC
  constructor
  · intro h j
    have := h (-1 - j)
    rwa [rev_cyc, rev_cyc, show -1 - (-1 - j) = j by omega] at this
  · intro h j
    rw [rev_cyc, rev_cyc]
    exact h _
/-- The turn at a place. -/
def turnAt (K : List Pt) (i : Int) : Int := turnC (cyc K (i - 1)) (cyc K i) (cyc K (i + 1))
theorem turnAt_mod {K : List Pt} {i j : Int} (h : i % (K.length : Int) = j % (K.length : Int)) : turnAt K i = turnAt K j := by
  unfold turnAt
  rw [cyc_mod h, cyc_mod (i := i - 1) (j := j - 1) (by rw [Int.sub_emod, h, ← Int.sub_emod]), cyc_mod (i := i + 1) (j := j + 1) (by rw [Int.add_emod, h, ← Int.add_emod])]
open Classical in
/-- The way round; 0 of no ring. -/
noncomputable def signF (K : List Pt) : Int := if fineQ K then turnAt K (leastF K : Nat) else 0
theorem sign_not {K : List Pt} (h : ¬ fineQ K) : signF K = 0 := by unfold signF; rw [if_neg h]
theorem sign_eq {K : List Pt} (h : fineQ K) {i : Int} (hi : LeastC K i) : signF K = turnAt K i := by
  unfold signF
  rw [if_pos h]
  exact turnAt_mod (least_one h (least_c (by have := h.few; omega)) hi)
theorem sign_rot (K : List Pt) (s : Int) : signF (rotF K s) = signF K := by
  by_cases h : fineQ K
  · have hl := least_c (K := K) (by have := h.few; omega)
    have hl2 : LeastC (rotF K s) ((leastF K : Nat) - s) := leastC_rot.2 (by rwa [show s + ((leastF K : Nat) - s : Int) = (leastF K : Nat) by omega])
    rw [sign_eq ((fine_rot K s).2 h) hl2, sign_eq h hl]
    unfold turnAt
    rw [rot_cyc, rot_cyc, rot_cyc]
    congr 2 <;> omega
  · rw [sign_not h, sign_not (fun k => h ((fine_rot K s).1 k))]
theorem sign_rev (K : List Pt) : signF K.reverse = - signF K := by
  by_cases h : fineQ K
  · have hl := least_c (K := K) (by have := h.few; omega)
    have hl2 : LeastC K.reverse (-1 - (leastF K : Nat)) := leastC_rev.2 (by rwa [show (-1 - (-1 - (leastF K : Nat)) : Int) = (leastF K : Nat) by omega])
    rw [sign_eq ((fine_rev K).2 h) hl2, sign_eq h hl]
    unfold turnAt
    rw [rev_cyc, rev_cyc, rev_cyc, ← turnC_swap]
    congr 2 <;> omega
  · rw [sign_not h, sign_not (fun k => h ((fine_rev K).1 k))]; rfl
theorem sgn_three (z : Int) : sgn z = 1 ∨ sgn z = -1 ∨ (sgn z = 0 ∧ z = 0) := by
  rcases sgn_cases z with ⟨a, b⟩ | ⟨a, b⟩ | ⟨a, b⟩
  · exact .inl b
  · exact .inr (.inr ⟨b, a⟩)
  · exact .inr (.inl b)
theorem btw_least {n a b : Int} (h : btw n a b) (h1 : n ≤ a) (h2 : n ≤ b) : n = a ∨ n = b := by unfold btw at h; omega
theorem sign_one {K : List Pt} (h : fineQ K) : signF K = 1 ∨ signF K = -1 := by
  have hn : 0 < K.length := by have := h.few; omega
  have hl := least_c (K := K) hn
  obtain ⟨f1, f2, hc⟩ := fine_cyc.1 h
  rw [sign_eq h hl]
  unfold turnAt
  generalize ((leastF K : Nat) : Int) = m at *
  have b := hc.back m
  have o1 := hc.ok (m - 1)
  have o2 := hc.ok m
  have o3 := hc.ok (m + 1)
  have l1 := hl (m - 1)
  have l2 := hl (m + 1)
  have n1 : cyc K (m - 1) ≠ cyc K m := by
    intro e
    have := hc.one _ _ e
    have k : (m - 1 - m) % (K.length : Int) = 0 := by rw [Int.sub_emod, this, Int.sub_self]; simp
    rw [show m - 1 - m = (K.length : Int) - 1 - (K.length : Int) by omega, Int.sub_emod_right, Int.emod_eq_of_lt (by omega) (by omega)] at k
    omega
  have n2 : cyc K (m + 1) ≠ cyc K m := by
    intro e
    have := hc.one _ _ e
    have k : (m + 1 - m) % (K.length : Int) = 0 := by rw [Int.sub_emod, this, Int.sub_self]; simp
    rw [show m + 1 - m = 1 by omega, Int.emod_eq_of_lt (by omega) (by omega)] at k
    omega
  have n3 : cyc K (m + 1) ≠ cyc K (m - 1) := by
    intro e
    have := hc.one _ _ e
    have k : (m + 1 - (m - 1)) % (K.length : Int) = 0 := by rw [Int.sub_emod, this, Int.sub_self]; simp
    rw [show m + 1 - (m - 1) = 2 by omega, Int.emod_eq_of_lt (by omega) (by omega)] at k
    omega
  unfold backC at b
  rw [turnC_eq o1 o2 o3] at b ⊢
  rcases sgn_three (detQ (cyc K (m - 1)) (cyc K m) (cyc K (m + 1))) with e | e | ⟨e, e0⟩
  · exact .inl e
  · exact .inr e
  · exfalso
    rw [e] at b
    simp at b
    unfold onC onB at b
    simp only [Bool.and_eq_true, decide_eq_true_eq] at b
    obtain ⟨_, h1, h2, h3⟩ := b
    generalize cyc K (m - 1) = p at *
    generalize cyc K m = q at *
    generalize cyc K (m + 1) = r at *
    obtain ⟨px, py⟩ := p
    obtain ⟨qx, qy⟩ := q
    obtain ⟨rx, ry⟩ := r
    unfold cmpC cmpF at l1 l2
    simp only at *
    have l1' : qy < py ∨ (qy = py ∧ qx ≤ px) := by
      split at l1
      · omega
      · split at l1
        · omega
        · omega
    have l2' : qy < ry ∨ (qy = ry ∧ qx ≤ rx) := by
      split at l2
      · omega
      · split at l2
        · omega
        · omega
    have n1' : px ≠ qx ∨ py ≠ qy := by
      by_cases k1 : px = qx
      · exact .inr fun k2 => n1 (by rw [k1, k2])
      · exact .inl k1
    have n2' : rx ≠ qx ∨ ry ≠ qy := by
      by_cases k1 : rx = qx
      · exact .inr fun k2 => n2 (by rw [k1, k2])
      · exact .inl k1
    unfold detP at h1
    have hy := btw_least h3 (by omega) (by omega)
    rcases hy with hy | hy
    · have hd : (qx - px) * (ry - qy) = 0 := by rw [hy]; rw [hy] at h1; grind
      rcases Int.mul_eq_zero.1 hd with k | k
      · omega
      · unfold btw at h2
        omega
    · have hd : (qy - py) * (qx - rx) = 0 := by rw [hy]; rw [hy] at h1; grind
      rcases Int.mul_eq_zero.1 hd with k | k
      · unfold btw at h2; omega
      · omega

open Classical in
/-- The normal ring; none of no ring. -/
noncomputable def normF (K : List Pt) : List Pt :=
  if fineQ K then (if signF K < 0 then rotF K.reverse (leastF K.reverse : Nat) else rotF K (leastF K : Nat)) else []
theorem norm_not {K : List Pt} (h : ¬ fineQ K) : normF K = [] := by unfold normF; rw [if_neg h]
/-- What a normal ring of K is. -/
structure IsNorm (K N : List Pt) : Prop where
  of : ∃ s, N = rotF K s ∨ N = rotF K.reverse s
  left : signF N = 1
  first : LeastC N 0
theorem norm_is {K : List Pt} (h : fineQ K) : IsNorm K (normF K) := by
  have hn : 0 < K.length := by have := h.few; omega
  unfold normF
  rw [if_pos h]
  by_cases hs : signF K < 0
  · rw [if_pos hs]
    refine ⟨⟨_, .inr rfl⟩, ?_, ?_⟩
    · rw [sign_rot, sign_rev]
      rcases sign_one h with e | e <;> omega
    · rw [leastC_rot]
      have := least_c (K := K.reverse) (by simpa using hn)
      rwa [Int.add_zero]
  · rw [if_neg hs]
    refine ⟨⟨_, .inl rfl⟩, ?_, ?_⟩
    · rw [sign_rot]
      rcases sign_one h with e | e <;> omega
    · rw [leastC_rot]
      have := least_c (K := K) hn
      rwa [Int.add_zero]
theorem norm_len {K N : List Pt} (h : IsNorm K N) : N.length = K.length := by
  obtain ⟨s, rfl | rfl⟩ := h.of
  · exact rot_len _ _
  · rw [rot_len, List.length_reverse]
theorem norm_fine {K N : List Pt} (hk : fineQ K) (h : IsNorm K N) : fineQ N := by
  obtain ⟨s, rfl | rfl⟩ := h.of
  · exact (fine_rot _ _).2 hk
  · exact (fine_rot _ _).2 ((fine_rev _).2 hk)
theorem rot_same {K : List Pt} (h : fineQ K) {s t : Int} (hs : LeastC (rotF K s) 0) (ht : LeastC (rotF K t) 0) : rotF K s = rotF K t := by
  rw [leastC_rot, Int.add_zero] at hs ht
  exact rot_mod (least_one h hs ht)
theorem norm_one {K N M : List Pt} (hk : fineQ K) (h1 : IsNorm K N) (h2 : IsNorm K M) : N = M := by
  obtain ⟨s, rfl | rfl⟩ := h1.of <;> obtain ⟨t, rfl | rfl⟩ := h2.of
  · exact rot_same hk h1.first h2.first
  · have a := h1.left
    have b := h2.left
    rw [sign_rot] at a b
    rw [sign_rev] at b
    omega
  · have a := h1.left
    have b := h2.left
    rw [sign_rot] at a b
    rw [sign_rev] at a
    omega
  · exact rot_same ((fine_rev K).2 hk) h1.first h2.first
theorem norm_eq {K N : List Pt} (hk : fineQ K) (h : IsNorm K N) : normF K = N := norm_one hk (norm_is hk) h
theorem isNorm_rot {K N : List Pt} {s : Int} (h : IsNorm (rotF K s) N) : IsNorm K N := by
  refine ⟨?_, h.left, h.first⟩
  obtain ⟨t, rfl | rfl⟩ := h.of
  · exact ⟨_, .inl (rot_rot K s t)⟩
  · exact ⟨_, .inr (by rw [rev_rot, rot_rot])⟩
theorem isNorm_rev {K N : List Pt} (h : IsNorm K.reverse N) : IsNorm K N := by
  refine ⟨?_, h.left, h.first⟩
  obtain ⟨t, rfl | rfl⟩ := h.of
  · exact ⟨_, .inr rfl⟩
  · exact ⟨_, .inl (by rw [List.reverse_reverse])⟩
theorem norm_rot (K : List Pt) (s : Int) : normF (rotF K s) = normF K := by
  by_cases h : fineQ K
  · exact (norm_eq h (isNorm_rot (norm_is ((fine_rot K s).2 h)))).symm
  · rw [norm_not h, norm_not (fun k => h ((fine_rot K s).1 k))]
theorem norm_rev (K : List Pt) : normF K.reverse = normF K := by
  by_cases h : fineQ K
  · exact (norm_eq h (isNorm_rev (norm_is ((fine_rev K).2 h)))).symm
  · rw [norm_not h, norm_not (fun k => h ((fine_rev K).1 k))]
theorem norm_norm (K : List Pt) : normF (normF K) = normF K := by
  by_cases h : fineQ K
  · obtain ⟨s, e | e⟩ := (norm_is h).of
    · rw [e, norm_rot, e]
    · rw [e, norm_rot, norm_rev, e]
  · rw [norm_not h]; exact norm_not (fun k => absurd k.few (by decide))

/-- The same ring. -/
def SameF (a b : List Pt) : Prop := fineQ a ∧ fineQ b ∧ ∃ s, a = rotF b s ∨ a = rotF b.reverse s
theorem same_norm {a b : List Pt} : SameF a b ↔ fineQ a ∧ fineQ b ∧ normF a = normF b := by
  constructor
  · rintro ⟨ha, hb, s, rfl | rfl⟩
    · exact ⟨ha, hb, norm_rot _ _⟩
    · exact ⟨ha, hb, by rw [norm_rot, norm_rev]⟩
  · rintro ⟨ha, hb, e⟩
    refine ⟨ha, hb, ?_⟩
    obtain ⟨s, h1⟩ := (norm_is ha).of
    obtain ⟨t, h2⟩ := (norm_is hb).of
    rw [e] at h1
    have back : ∀ (x y : List Pt) (p q : Int), rotF x p = rotF y q → x = rotF y (q - p) := by
      intro x y p q k
      have := congrArg (fun z => rotF z (-p)) k
      simp only [rot_rot] at this
      rw [show p + -p = 0 by omega, rot_zero] at this
      rw [this, Int.sub_eq_add_neg]
    rcases h1 with h1 | h1 <;> rcases h2 with h2 | h2
    · exact ⟨_, .inl (back _ _ _ _ (h1.symm.trans h2))⟩
    · exact ⟨_, .inr (back _ _ _ _ (h1.symm.trans h2))⟩
    · have := back _ _ _ _ (h1.symm.trans h2)
      exact ⟨_, .inr (by rw [← List.reverse_reverse a, this, rev_rot])⟩
    · have := back _ _ _ _ (h1.symm.trans h2)
      exact ⟨_, .inl (by rw [← List.reverse_reverse a, this, rev_rot, List.reverse_reverse])⟩
theorem same_self {a : List Pt} (h : fineQ a) : SameF a a := ⟨h, h, 0, .inl (rot_zero a).symm⟩
theorem same_comm {a b : List Pt} : SameF a b ↔ SameF b a := by
  rw [same_norm, same_norm]
  exact ⟨fun ⟨x, y, z⟩ => ⟨y, x, z.symm⟩, fun ⟨x, y, z⟩ => ⟨y, x, z.symm⟩⟩
/-- Of a ring that may be neighbours' edges touch, no others meet. -/
theorem edge_next {K : List Pt} (h : fineQ K) (i : Int) : meetQ (cyc K (i - 1)) (cyc K i) (cyc K i) (cyc K (i + 1)) = 1 := by
  obtain ⟨f1, f2, hc⟩ := fine_cyc.1 h
  have b := hc.back i
  have o1 := hc.ok (i - 1)
  have o2 := hc.ok i
  have o3 := hc.ok (i + 1)
  have n1 : cyc K (i - 1) ≠ cyc K i := by
    intro e
    have := hc.one _ _ e
    have k : (i - 1 - i) % (K.length : Int) = 0 := by rw [Int.sub_emod, this, Int.sub_self]; simp
    rw [show i - 1 - i = (K.length : Int) - 1 - (K.length : Int) by omega, Int.sub_emod_right, Int.emod_eq_of_lt (by omega) (by omega)] at k
    omega
  have n2 : cyc K i ≠ cyc K (i + 1) := by
    intro e
    have := hc.one _ _ e
    have k : (i - (i + 1)) % (K.length : Int) = 0 := by rw [Int.sub_emod, this, Int.sub_self]; simp
    rw [show i - (i + 1) = (K.length : Int) - 1 - (K.length : Int) by omega, Int.sub_emod_right, Int.emod_eq_of_lt (by omega) (by omega)] at k
    omega
  unfold okC at o1 o2 o3
  generalize cyc K (i - 1) = p at *
  generalize cyc K i = q at *
  generalize cyc K (i + 1) = r at *
  have m1 : mayQ p q = true := by unfold mayQ; rw [o1, o2]; simp [n1]
  have m2 : mayQ q r = true := by unfold mayQ; rw [o2, o3]; simp [n2]
  unfold meetQ
  rw [m1, m2]
  simp only [Bool.and_self, if_true]
  unfold backC at b
  rw [turnC_eq o1 o2 o3, Bool.and_eq_false_iff] at b
  have hon : detQ p q r ≠ 0 ∨ onQ q p r := by
    rcases b with b | b
    · left
      intro e
      rw [decide_eq_false_iff_not, e] at b
      exact b rfl
    · right
      unfold onC onB at b
      rw [o1, o2, o3] at b
      simpa [onQ] using b
  rcases hon with hd | hd
  · have hcnt : cntQ p q q r = 1 := by
      unfold cntQ
      rw [ind_zero (P := onQ p q r) (fun k => hd (by have := onQ_det k; rw [detQ_round] at this; exact this)), ind_one (P := onQ q q r) onQ_left, ind_zero (P := onQ q p q ∧ ¬ q = p ∧ ¬ q = q) (fun k => k.2.2 rfl), ind_zero (P := onQ r p q ∧ ¬ r = p ∧ ¬ r = q) (fun k => hd (onQ_det k.1))]
    unfold howQ
    rw [hcnt]; rfl
  · by_cases hpr : p = r
    · subst hpr
      exfalso
      have := hd
      unfold onQ onF btw at this
      exact n1 (Prod.ext (by omega) (by omega))
    · exact how_parts hd (Ne.symm n1) n2
theorem edge_far {K : List Pt} (h : fineQ K) {i j : Int} (hf : farC (K.length : Int) i j) : meetQ (cyc K i) (cyc K (i + 1)) (cyc K j) (cyc K (j + 1)) = 0 := (fine_cyc.1 h).2.2.meet i j hf
end

section
set_option linter.unusedVariables false
set_option linter.unusedSimpArgs false
open Go.RowKit

/-- Does an edge count for a point, its lower end given first? -/
def upC (p a b : Pt) : Bool := decide (a.2 ≤ p.2) && decide (p.2 < b.2) && decide (turnC a b p = 1)
def countC (p a b : Pt) : Bool := if b.2 < a.2 then upC p b a else upC p a b
theorem count_swap (p a b : Pt) : countC p b a = countC p a b := by
  unfold countC
  by_cases h1 : b.2 < a.2
  · rw [if_neg (by omega), if_pos h1]
  · rw [if_neg h1]
    by_cases h2 : a.2 < b.2
    · rw [if_pos h2]
    · rw [if_neg h2]
      have e : ∀ x y : Pt, x.2 = y.2 → upC p x y = false := by
        intro x y h
        unfold upC
        rw [Bool.and_eq_false_iff, Bool.and_eq_false_iff, decide_eq_false_iff_not, decide_eq_false_iff_not]
        left
        omega
      rw [e b a (by omega), e a b (by omega)]
def oneN (b : Bool) : Nat := if b then 1 else 0
/-- How many edges of a way count. -/
def pathN (p : Pt) : List Pt → Nat
  | [] => 0
  | [_] => 0
  | a :: b :: L => oneN (countC p a b) + pathN p (b :: L)
theorem path_join (p m : Pt) : ∀ (A B : List Pt), pathN p (A ++ m :: B) = pathN p (A ++ [m]) + pathN p (m :: B)
  | [], B => by simp [pathN]
  | [a], B => by simp [pathN]
  | a :: b :: A, B => by
    have := path_join p m (b :: A) B
    simp only [List.cons_append, pathN] at this ⊢
    omega
theorem path_rev (p : Pt) : ∀ L : List Pt, pathN p L.reverse = pathN p L
  | [] => rfl
  | [a] => rfl
  | a :: b :: L => by
    have ih := path_rev p (b :: L)
    rw [List.reverse_cons, List.reverse_cons, List.append_assoc]
    rw [show [b] ++ [a] = b :: [a] from rfl, path_join, ← List.reverse_cons, ih]
    simp only [pathN]
    rw [count_swap]
    omega
/-- How many edges of a list count. -/
def crossN (p : Pt) : List Pt → Nat
  | [] => 0
  | a :: L => pathN p (a :: L ++ [a])
def inQ (p : Pt) (K : List Pt) : Bool := decide (crossN p K % 2 = 1)
theorem cross_swap_parts (p : Pt) : ∀ A B : List Pt, crossN p (A ++ B) = crossN p (B ++ A)
  | [], B => by simp
  | a :: A, [] => by simp
  | a :: A, b :: B => by
    show pathN p (a :: A ++ b :: B ++ [a]) = pathN p (b :: B ++ a :: A ++ [b])
    rw [show a :: A ++ b :: B ++ [a] = (a :: A) ++ b :: (B ++ [a]) by simp, show b :: B ++ a :: A ++ [b] = (b :: B) ++ a :: (A ++ [b]) by simp, path_join p b (a :: A), path_join p a (b :: B), Nat.add_comm]
    rfl
theorem cross_rev (p : Pt) (K : List Pt) : crossN p K.reverse = crossN p K := by
  cases K with
  | nil => rfl
  | cons a L =>
    rw [List.reverse_cons, cross_swap_parts]
    show pathN p (a :: L.reverse ++ [a]) = pathN p (a :: L ++ [a])
    rw [← path_rev p (a :: L ++ [a])]
    simp
theorem rot_dt (K : List Pt) (k : Nat) (hk : k ≤ K.length) : rotF K (k : Int) = K.drop k ++ K.take k := by
  refine List.ext_getElem (by simp [rot_len]; omega) fun i h1 h2 => ?_
  rw [rot_len] at h1
  have e := rot_getD (K := K) (s := (k : Int)) h1
  rw [List.getD_eq_getElem?_getD, List.getElem?_eq_getElem (by rw [rot_len]; exact h1)] at e
  simp only [Option.getD_some] at e
  rw [e]
  by_cases h : i < K.length - k
  · rw [List.getElem_append_left (by rw [List.length_drop]; exact h), List.getElem_drop]
    rw [show (k : Int) + (i : Int) = ((k + i : Nat) : Int) by omega, cyc_nat (by omega), List.getD_eq_getElem?_getD, List.getElem?_eq_getElem (by omega)]
    rfl
  · rw [List.getElem_append_right (by rw [List.length_drop]; omega), List.getElem_take]
    have h3 : i - (K.drop k).length < K.length := by rw [List.length_drop]; omega
    rw [cyc_mod (i := (k : Int) + (i : Int)) (j := ((i - (K.drop k).length : Nat) : Int)) (by
      rw [List.length_drop, show (k : Int) + (i : Int) = ((i - (K.length - k) : Nat) : Int) + (K.length : Int) by omega, Int.add_emod_right]), cyc_nat h3, List.getD_eq_getElem?_getD, List.getElem?_eq_getElem h3]
    rfl
theorem cross_rot (p : Pt) (K : List Pt) (s : Int) : crossN p (rotF K s) = crossN p K := by
  by_cases hn : 0 < K.length
  · obtain ⟨k, hk, _, hm⟩ := cyc_at (K := K) hn s
    rw [rot_mod (b := (k : Int)) (by rw [hm, Int.emod_eq_of_lt (by omega) (by omega)]), rot_dt K k (by omega), cross_swap_parts, List.take_append_drop]
  · have : K = [] := by cases K with | nil => rfl | cons a l => simp at hn
    subst this
    rfl
theorem path_le (p : Pt) : ∀ L : List Pt, pathN p L ≤ L.length - 1
  | [] => by simp [pathN]
  | [a] => by simp [pathN]
  | a :: b :: L => by
    have := path_le p (b :: L)
    simp only [pathN, List.length_cons] at this ⊢
    unfold oneN
    split <;> omega
theorem cross_le (p : Pt) (K : List Pt) : crossN p K ≤ K.length := by
  cases K with
  | nil => exact Nat.le_refl _
  | cons a L =>
    have := path_le p (a :: L ++ [a])
    simp only [List.length_append, List.length_cons, List.length_nil] at this
    show pathN p (a :: L ++ [a]) ≤ _
    simp only [List.length_cons]
    omega
/-- As the loop reckons: the first k edges. -/
def crossK (p : Pt) (K : List Pt) : Nat → Nat
  | 0 => 0
  | k + 1 => crossK p K k + oneN (countC p (K.getD k (0, 0)) (K.getD ((k + 1) % K.length) (0, 0)))
theorem path_take (p : Pt) (K : List Pt) : ∀ k, k + 1 ≤ K.length → crossK p K k = pathN p (K.take (k + 1))
  | 0, h => by
    cases K with
    | nil => rfl
    | cons a L => rfl
  | k + 1, h => by
    have ih := path_take p K k (by omega)
    have e1 : K.take (k + 1) = K.take k ++ [K[k]'(by omega)] := by rw [List.take_succ_eq_append_getElem]
    have e2 : K.take (k + 1 + 1) = K.take k ++ K[k]'(by omega) :: [K[k + 1]'(by omega)] := by
      rw [List.take_succ_eq_append_getElem (show k + 1 < K.length by omega), e1, List.append_assoc]; rfl
    rw [e2, path_join, ← e1, ← ih]
    simp only [crossK, pathN]
    rw [Nat.mod_eq_of_lt (by omega), List.getD_eq_getElem?_getD, List.getD_eq_getElem?_getD, List.getElem?_eq_getElem (by omega), List.getElem?_eq_getElem (by omega)]
    rfl
theorem cross_all (p : Pt) (K : List Pt) : crossK p K K.length = crossN p K := by
  cases K with
  | nil => rfl
  | cons a L =>
    show crossK p (a :: L) (L.length + 1) = pathN p (a :: L ++ [a])
    have h := path_take p (a :: L) L.length (by simp)
    rw [List.take_of_length_le (by simp)] at h
    simp only [crossK]
    rw [h]
    have hl : ∃ A z, a :: L = A ++ [z] := ⟨(a :: L).dropLast, (a :: L).getLast (by simp), (List.dropLast_concat_getLast (by simp)).symm⟩
    obtain ⟨A, z, e⟩ := hl
    have hz : (a :: L).getD L.length (0, 0) = z := by
      have : L.length = A.length := by have := congrArg List.length e; simp at this; omega
      rw [e, this, List.getD_eq_getElem?_getD, List.getElem?_append_right (Nat.le_refl _)]; simp
    have ha : (a :: L).getD ((L.length + 1) % (a :: L).length) (0, 0) = a := by
      rw [List.length_cons, Nat.mod_self]; rfl
    rw [hz, ha, e, List.append_assoc, show [z] ++ [a] = z :: [a] from rfl, path_join p z A [a]]
    simp [pathN]
/-- Two lists with a part in common, and the list round both. -/
def joinL (a : Pt) (L : List Pt) (b : Pt) (M : List Pt) : List Pt := a :: L ++ b :: M
theorem cross_joinL (p a b : Pt) (L M : List Pt) : crossN p (joinL a L b M) = pathN p (a :: L ++ [b]) + pathN p (b :: M ++ [a]) := by
  show pathN p (a :: L ++ b :: M ++ [a]) = _
  rw [show a :: L ++ b :: M ++ [a] = (a :: L) ++ b :: (M ++ [a]) by simp, path_join p b (a :: L) (M ++ [a])]; rfl
theorem cross_adds (p f t : Pt) (part one two : List Pt) : (crossN p (joinL f part t one) + crossN p (joinL t part.reverse f two)) % 2 = crossN p (joinL f two t one) % 2 := by
  rw [cross_joinL, cross_joinL, cross_joinL]
  have : pathN p (t :: part.reverse ++ [f]) = pathN p (f :: part ++ [t]) := by
    rw [← path_rev p (f :: part ++ [t])]; simp
  rw [this]; omega
theorem in_adds (p f t : Pt) (part one two : List Pt) : (inQ p (joinL f part t one) != inQ p (joinL t part.reverse f two)) = inQ p (joinL f two t one) := by
  have h := cross_adds p f t part one two
  unfold inQ
  rw [Bool.eq_iff_iff]
  simp only [bne_iff_ne, ne_eq, decide_eq_decide, decide_eq_true_eq]
  omega
theorem path_map (p : Pt) (f : Pt → Pt) (q : Pt) : ∀ K : List Pt, (∀ a ∈ K, ∀ b ∈ K, countC q (f a) (f b) = countC p a b) → pathN q (K.map f) = pathN p K
  | [], _ => rfl
  | [a], _ => rfl
  | a :: b :: L, h => by
    have ih := path_map p f q (b :: L) (fun x hx y hy => h x (List.mem_cons_of_mem _ hx) y (List.mem_cons_of_mem _ hy))
    simp only [List.map_cons, pathN] at ih ⊢
    rw [h a (by simp) b (by simp), ih]
theorem cross_map (p : Pt) (f : Pt → Pt) (q : Pt) (K : List Pt) (h : ∀ a ∈ K, ∀ b ∈ K, countC q (f a) (f b) = countC p a b) : crossN q (K.map f) = crossN p K := by
  cases K with
  | nil => rfl
  | cons a L =>
    show pathN q (f a :: L.map f ++ [f a]) = pathN p (a :: L ++ [a])
    have := path_map p f q (a :: L ++ [a]) (fun x hx y hy => h x (by simp at hx; simp; rcases hx with h | h | h <;> simp [h]) y (by simp at hy; simp; rcases hy with h | h | h <;> simp [h]))
    simpa using this
theorem count_mov {u p a b : Pt} (hp : okC p = true) (ha : okC a = true) (hb : okC b = true) (hp' : okC (movQ u p) = true) (ha' : okC (movQ u a) = true) (hb' : okC (movQ u b) = true) : countC (movQ u p) (movQ u a) (movQ u b) = countC p a b := by
  have e : ∀ x y : Pt, okC x = true → okC y = true → okC (movQ u x) = true → okC (movQ u y) = true → upC (movQ u p) (movQ u x) (movQ u y) = upC p x y := by
    intro x y h1 h2 h3 h4
    unfold upC
    rw [turnC_eq h3 h4 hp', turnC_eq h1 h2 hp]
    have : detQ (movQ u x) (movQ u y) (movQ u p) = detQ x y p := det_move _ _ _ _ _ _ _ _
    rw [this]
    congr 1
    congr 1
    · exact decide_eq_decide.2 (by unfold movQ; simp only; omega)
    · exact decide_eq_decide.2 (by unfold movQ; simp only; omega)
  unfold countC
  rw [e b a hb ha hb' ha', e a b ha hb ha' hb']
  by_cases h : b.2 < a.2
  · rw [if_pos h, if_pos (by unfold movQ; simp only; omega)]
  · rw [if_neg h, if_neg (by unfold movQ; simp only; omega)]
end

section
set_option linter.unusedVariables false
set_option linter.unusedSimpArgs false
open Go.RowKit

theorem sgn_one {z : Int} : sgn z = 1 ↔ 0 < z := by
  rcases sgn_cases z with ⟨a, b⟩ | ⟨a, b⟩ | ⟨a, b⟩ <;> rw [b] <;> omega
theorem sgn_neg1 {z : Int} : sgn z = -1 ↔ z < 0 := by
  rcases sgn_cases z with ⟨a, b⟩ | ⟨a, b⟩ | ⟨a, b⟩ <;> rw [b] <;> omega
/-- When an edge of points that may be counts. -/
theorem count_iff {p a b : Pt} (hp : okC p = true) (ha : okC a = true) (hb : okC b = true) : countC p a b = true ↔ (a.2 ≤ p.2 ∧ p.2 < b.2 ∧ 0 < detQ a b p) ∨ (b.2 ≤ p.2 ∧ p.2 < a.2 ∧ detQ a b p < 0) := by
  have e : detQ b a p = - detQ a b p := detQ_swap
  unfold countC upC
  by_cases h : b.2 < a.2
  · rw [if_pos h, turnC_eq hb ha hp]
    simp only [Bool.and_eq_true, decide_eq_true_eq]
    rw [sgn_one, e]
    omega
  · rw [if_neg h, turnC_eq ha hb hp]
    simp only [Bool.and_eq_true, decide_eq_true_eq]
    rw [sgn_one]
    omega
theorem one_true {b : Bool} (h : b = true) : oneN b = 1 := by rw [h]; rfl
theorem one_false {b : Bool} (h : ¬ b = true) : oneN b = 0 := by cases b <;> simp_all [oneN]
theorem cross_three (p a b c : Pt) : crossN p [a, b, c] = oneN (countC p a b) + (oneN (countC p b c) + (oneN (countC p c a) + 0)) := rfl
theorem cross_four (p a b c d : Pt) : crossN p [a, b, c, d] = oneN (countC p a b) + (oneN (countC p b c) + (oneN (countC p c d) + (oneN (countC p d a) + 0))) := rfl

/-- The ring of a box, and what is in it. -/
def boxR (lx ly hx hy : Int) : List Pt := [(lx, ly), (hx, ly), (hx, hy), (lx, hy)]
theorem vert_det (x y0 y1 px py : Int) : detQ (x, y0) (x, y1) (px, py) = (y1 - y0) * (x - px) := by unfold detQ detP; simp only; grind
theorem in_boxR {px py lx ly hx hy : Int} (hp : okC (px, py) = true) (hl : okC (lx, ly) = true) (hh : okC (hx, hy) = true) (h1 : lx < hx) (h2 : ly < hy) : inQ (px, py) (boxR lx ly hx hy) = inF px py lx ly hx hy := by
  have o1 : okC (hx, ly) = true := by unfold okC at *; rw [okP_iff] at *; simp only at *; omega
  have o2 : okC (lx, hy) = true := by unfold okC at *; rw [okP_iff] at *; simp only at *; omega
  have n1 : oneN (countC (px, py) (lx, ly) (hx, ly)) = 0 := one_false (by rw [count_iff hp hl o1]; simp only; omega)
  have n3 : oneN (countC (px, py) (hx, hy) (lx, hy)) = 0 := one_false (by rw [count_iff hp hh o2]; simp only; omega)
  have d1 : 0 < detQ (hx, ly) (hx, hy) (px, py) ↔ px < hx := by
    rw [vert_det]
    constructor
    · intro h
      apply Decidable.byContradiction
      intro k
      have := Int.mul_nonneg (show 0 ≤ hy - ly by omega) (show 0 ≤ px - hx by omega)
      have e : (hy - ly) * (hx - px) = - ((hy - ly) * (px - hx)) := by grind
      omega
    · intro h; exact Int.mul_pos (by omega) (by omega)
  have d2 : detQ (lx, hy) (lx, ly) (px, py) < 0 ↔ px < lx := by
    have e : detQ (lx, hy) (lx, ly) (px, py) = - ((hy - ly) * (lx - px)) := by rw [vert_det]; grind
    rw [e]
    constructor
    · intro h
      apply Decidable.byContradiction
      intro k
      have := Int.mul_nonneg (show 0 ≤ hy - ly by omega) (show 0 ≤ px - lx by omega)
      have e : (hy - ly) * (lx - px) = - ((hy - ly) * (px - lx)) := by grind
      omega
    · intro h; have := Int.mul_pos (show 0 < hy - ly by omega) (show 0 < lx - px by omega); omega
  unfold inQ boxR inF
  rw [cross_four, n1, n3]
  have c2 := count_iff hp o1 hh
  have c4 := count_iff hp o2 hl
  rw [d1] at c2
  rw [d2] at c4
  simp only at c2 c4
  refine decide_eq_decide.2 ?_
  by_cases k2 : countC (px, py) (hx, ly) (hx, hy) = true
  · rw [one_true k2]
    have := c2.1 k2
    by_cases k4 : countC (px, py) (lx, hy) (lx, ly) = true
    · rw [one_true k4]; have := c4.1 k4; omega
    · rw [one_false k4]
      have : ¬ (hy ≤ py ∧ py < ly ∧ 0 < detQ (lx, hy) (lx, ly) (px, py) ∨ ly ≤ py ∧ py < hy ∧ px < lx) := fun h => k4 (c4.2 h)
      omega
  · rw [one_false k2]
    have m2 : ¬ (ly ≤ py ∧ py < hy ∧ px < hx ∨ hy ≤ py ∧ py < ly ∧ detQ (hx, ly) (hx, hy) (px, py) < 0) := fun h => k2 (c2.2 h)
    by_cases k4 : countC (px, py) (lx, hy) (lx, ly) = true
    · have := c4.1 k4; omega
    · rw [one_false k4]; omega

/-- Three points: what the turns tell. -/
theorem tri_hi {d1 d2 d3 A B C : Int} (h : d1 * C + d2 * A + d3 * B = 0) (hA : 0 < A) (hB : B ≤ 0) (hC : C ≤ 0) : (d1 ≤ 0 → d3 ≤ 0 → d2 ≤ 0) ∧ (0 ≤ d1 → 0 ≤ d3 → 0 ≤ d2) := by
  constructor
  · intro h1 h3
    apply Decidable.byContradiction
    intro k
    have a := Int.mul_nonneg_of_nonpos_of_nonpos h1 hC
    have b := Int.mul_nonneg_of_nonpos_of_nonpos h3 hB
    have c := Int.mul_pos (show 0 < d2 by omega) hA
    omega
  · intro h1 h3
    apply Decidable.byContradiction
    intro k
    have a := Int.mul_nonneg h1 (show 0 ≤ -C by omega)
    have b := Int.mul_nonneg h3 (show 0 ≤ -B by omega)
    have c := Int.mul_pos (show 0 < -d2 by omega) hA
    have e1 : d1 * -C = -(d1 * C) := by grind
    have e2 : d3 * -B = -(d3 * B) := by grind
    have e3 : -d2 * A = -(d2 * A) := by grind
    omega
theorem tri_lo {d1 d2 d3 A B C : Int} (h : d1 * C + d2 * A + d3 * B = 0) (hA : A ≤ 0) (hB : 0 < B) (hC : 0 < C) : (d1 ≤ 0 → d3 ≤ 0 → d1 < 0 ∨ d3 < 0 → d2 ≤ 0) ∧ (0 ≤ d1 → 0 ≤ d3 → 0 < d1 ∨ 0 < d3 → 0 ≤ d2) := by
  constructor
  · intro h1 h3 hs
    apply Decidable.byContradiction
    intro k
    have c := Int.mul_nonneg (show 0 ≤ d2 by omega) (show 0 ≤ -A by omega)
    have e3 : d2 * -A = -(d2 * A) := by grind
    have a := Int.mul_nonneg (show 0 ≤ -d1 by omega) (show 0 ≤ C by omega)
    have b := Int.mul_nonneg (show 0 ≤ -d3 by omega) (show 0 ≤ B by omega)
    have e1 : -d1 * C = -(d1 * C) := by grind
    have e2 : -d3 * B = -(d3 * B) := by grind
    rcases hs with hs | hs
    · have := Int.mul_pos (show 0 < -d1 by omega) hC; omega
    · have := Int.mul_pos (show 0 < -d3 by omega) hB; omega
  · intro h1 h3 hs
    apply Decidable.byContradiction
    intro k
    have c := Int.mul_nonneg (show 0 ≤ -d2 by omega) (show 0 ≤ -A by omega)
    have e3 : -d2 * -A = d2 * A := by grind
    have a := Int.mul_nonneg h1 (show 0 ≤ C by omega)
    have b := Int.mul_nonneg h3 (show 0 ≤ B by omega)
    rcases hs with hs | hs
    · have := Int.mul_pos hs hC; omega
    · have := Int.mul_pos hs hB; omega
/-- How many edges of three count, by turns and heights. -/
def triN (d A B : Int) : Nat := if (A ≤ 0 ∧ 0 < B ∧ 0 < d) ∨ (B ≤ 0 ∧ 0 < A ∧ d < 0) then 1 else 0
theorem tri_in {d1 d2 d3 A B C u v : Int} (h : d1 * C + d2 * A + d3 * B = 0) (hD : d1 + d2 + d3 = u * (C - A) - v * (B - A)) (hp : 0 < d1 + d2 + d3) :
    (0 < d1 → 0 < d2 → 0 < d3 → (triN d1 A B + triN d2 B C + triN d3 C A) % 2 = 1) ∧ (d1 < 0 ∨ d2 < 0 ∨ d3 < 0 → (triN d1 A B + triN d2 B C + triN d3 C A) % 2 = 0) := by
  have r2 : d2 * A + d3 * B + d1 * C = 0 := by omega
  have r3 : d3 * B + d1 * C + d2 * A = 0 := by omega
  have r2' : d2 * A + d3 * B + d1 * C = 0 := by omega
  unfold triN
  rcases Int.lt_or_le 0 A with hA | hA <;> rcases Int.lt_or_le 0 B with hB | hB <;> rcases Int.lt_or_le 0 C with hC | hC
  · refine ⟨fun h1 h2 h3 => ?_, fun _ => ?_⟩
    · have := Int.mul_pos h1 hC; have := Int.mul_pos h2 hA; have := Int.mul_pos h3 hB; omega
    · rw [if_neg (by omega), if_neg (by omega), if_neg (by omega)]
  · have k := tri_lo (d1 := d3) (d2 := d1) (d3 := d2) (A := C) (B := A) (C := B) r3 hC hA hB
    refine ⟨fun h1 h2 h3 => ?_, fun hn => ?_⟩ <;> (repeat' split) <;> omega
  · have k := tri_lo (d1 := d2) (d2 := d3) (d3 := d1) (A := B) (B := C) (C := A) r2' hB hC hA
    refine ⟨fun h1 h2 h3 => ?_, fun hn => ?_⟩ <;> (repeat' split) <;> omega
  · have k := tri_hi h hA hB hC
    refine ⟨fun h1 h2 h3 => ?_, fun hn => ?_⟩ <;> (repeat' split) <;> omega
  · have k := tri_lo h hA hB hC
    refine ⟨fun h1 h2 h3 => ?_, fun hn => ?_⟩ <;> (repeat' split) <;> omega
  · have k := tri_hi (d1 := d2) (d2 := d3) (d3 := d1) (A := B) (B := C) (C := A) r2' hB hC hA
    refine ⟨fun h1 h2 h3 => ?_, fun hn => ?_⟩ <;> (repeat' split) <;> omega
  · have k := tri_hi (d1 := d3) (d2 := d1) (d3 := d2) (A := C) (B := A) (C := B) r3 hC hA hB
    refine ⟨fun h1 h2 h3 => ?_, fun hn => ?_⟩ <;> (repeat' split) <;> omega
  · refine ⟨fun h1 h2 h3 => ?_, fun _ => ?_⟩
    · exfalso
      have a := Int.mul_nonneg (show 0 ≤ d1 by omega) (show 0 ≤ -C by omega)
      have b := Int.mul_nonneg (show 0 ≤ d2 by omega) (show 0 ≤ -A by omega)
      have c := Int.mul_nonneg (show 0 ≤ d3 by omega) (show 0 ≤ -B by omega)
      have e1 : d1 * -C = -(d1 * C) := by grind
      have e2 : d2 * -A = -(d2 * A) := by grind
      have e3 : d3 * -B = -(d3 * B) := by grind
      have z : ∀ x y : Int, 0 < x → x * y = 0 → y = 0 := fun x y hx e => by
        rcases Int.mul_eq_zero.1 e with k | k
        · omega
        · exact k
      have zC := z d1 C h1 (by omega)
      have zA := z d2 A h2 (by omega)
      have zB := z d3 B h3 (by omega)
      subst zA zB zC
      simp at hD
      omega
    · rw [if_neg (by omega), if_neg (by omega), if_neg (by omega)]
theorem tri_sum (a b c p : Pt) : detQ a b p + detQ b c p + detQ c a p = detQ a b c := by unfold detQ detP; grind
theorem tri_bary (a b c p : Pt) : detQ a b p * (c.2 - p.2) + detQ b c p * (a.2 - p.2) + detQ c a p * (b.2 - p.2) = 0 := by unfold detQ detP; grind
theorem tri_det (a b c p : Pt) : detQ a b c = (b.1 - a.1) * ((c.2 - p.2) - (a.2 - p.2)) - (c.1 - a.1) * ((b.2 - p.2) - (a.2 - p.2)) := by unfold detQ detP; grind
theorem one_tri {p a b : Pt} (hp : okC p = true) (ha : okC a = true) (hb : okC b = true) : oneN (countC p a b) = triN (detQ a b p) (a.2 - p.2) (b.2 - p.2) := by
  have k := count_iff hp ha hb
  unfold triN
  by_cases h : countC p a b = true
  · rw [one_true h, if_pos (by have := k.1 h; omega)]
  · rw [one_false h, if_neg (fun e => h (k.2 (by omega)))]
/-- Inside a triangle. -/
theorem in_three {p a b c : Pt} (hp : okC p = true) (ht : turnC a b c = 1) :
    (turnC a b p = 1 → turnC b c p = 1 → turnC c a p = 1 → inQ p [a, b, c] = true) ∧ (turnC a b p = -1 ∨ turnC b c p = -1 ∨ turnC c a p = -1 → inQ p [a, b, c] = false) := by
  have hv : okC a = true ∧ okC b = true ∧ okC c = true := by
    unfold turnC turnF at ht
    split at ht
    · rename_i k
      rw [Bool.and_eq_true, Bool.and_eq_true] at k
      exact ⟨k.1.1, k.1.2, k.2⟩
    · omega
  obtain ⟨ha, hb, hc⟩ := hv
  rw [turnC_eq ha hb hc, sgn_one] at ht
  rw [turnC_eq ha hb hp, turnC_eq hb hc hp, turnC_eq hc ha hp, sgn_one, sgn_one, sgn_one, sgn_neg1, sgn_neg1, sgn_neg1]
  have s := tri_sum a b c p
  have k := tri_in (d1 := detQ a b p) (d2 := detQ b c p) (d3 := detQ c a p) (A := a.2 - p.2) (B := b.2 - p.2) (C := c.2 - p.2) (tri_bary a b c p) (s.trans (tri_det a b c p)) (by omega)
  unfold inQ
  rw [cross_three, one_tri hp ha hb, one_tri hp hb hc, one_tri hp hc ha]
  refine ⟨fun h1 h2 h3 => decide_eq_true (by have := k.1 h1 h2 h3; omega), fun h => decide_eq_false (by have := k.2 h; omega)⟩

/-- Where an edge counts, all lies to the left of its ends alone. -/
theorem edge_far_right {p a b : Pt} (h : 0 < detQ a b p) (h1 : a.2 ≤ p.2) (h2 : p.2 < b.2) : p.1 < a.1 ∨ p.1 < b.1 := by
  apply Decidable.byContradiction
  intro k
  have e : detQ a b p = -((b.2 - p.2) * (p.1 - a.1) + (p.2 - a.2) * (p.1 - b.1)) := by unfold detQ detP; grind
  have x := Int.mul_nonneg (show 0 ≤ b.2 - p.2 by omega) (show 0 ≤ p.1 - a.1 by omega)
  have y := Int.mul_nonneg (show 0 ≤ p.2 - a.2 by omega) (show 0 ≤ p.1 - b.1 by omega)
  omega
theorem edge_left {p a b : Pt} (h1 : a.2 ≤ p.2) (h2 : p.2 < b.2) (h3 : p.1 < a.1) (h4 : p.1 < b.1) : 0 < detQ a b p := by
  have e : detQ a b p = (b.2 - p.2) * (a.1 - p.1) + (p.2 - a.2) * (b.1 - p.1) := by unfold detQ detP; grind
  have x := Int.mul_pos (show 0 < b.2 - p.2 by omega) (show 0 < a.1 - p.1 by omega)
  have y := Int.mul_nonneg (show 0 ≤ p.2 - a.2 by omega) (show 0 ≤ b.1 - p.1 by omega)
  omega
/-- Which edges pass a height is told by their ends alone. -/
theorem path_par (p : Pt) (s : Pt → Bool) : ∀ (a : Pt) (L : List Pt) (z : Pt), (∀ x ∈ a :: L ++ [z], ∀ y ∈ a :: L ++ [z], countC p x y = (s x != s y)) → pathN p (a :: L ++ [z]) % 2 = oneN (s a != s z) % 2
  | a, [], z, h => by
    show (oneN (countC p a z) + 0) % 2 = _
    rw [h a (by simp) z (by simp)]; simp
  | a, b :: L, z, h => by
    have ih := path_par p s b L z (fun x hx y hy => h x (List.mem_cons_of_mem _ hx) y (List.mem_cons_of_mem _ hy))
    show (oneN (countC p a b) + pathN p (b :: L ++ [z])) % 2 = _
    rw [h a (by simp) b (by simp), Nat.add_mod, ih]
    cases s a <;> cases s b <;> cases s z <;> decide
theorem cross_par (p : Pt) (s : Pt → Bool) (K : List Pt) (h : ∀ x ∈ K, ∀ y ∈ K, countC p x y = (s x != s y)) : crossN p K % 2 = 0 := by
  cases K with
  | nil => rfl
  | cons a L =>
    show pathN p (a :: L ++ [a]) % 2 = 0
    have m : ∀ x, x ∈ a :: L ++ [a] → x ∈ a :: L := by intro x hx; simp at hx ⊢; rcases hx with h | h | h <;> simp [h]
    rw [path_par p s a L a (fun x hx y hy => h x (m x hx) y (m y hy))]
    cases s a <;> rfl
theorem path_some (p : Pt) : ∀ K : List Pt, 0 < pathN p K → ∃ a ∈ K, ∃ b ∈ K, countC p a b = true
  | [], h => by simp [pathN] at h
  | [a], h => by simp [pathN] at h
  | a :: b :: L, h => by
    by_cases hc : countC p a b = true
    · exact ⟨a, by simp, b, by simp, hc⟩
    · simp only [pathN, one_false hc, Nat.zero_add] at h
      obtain ⟨x, hx, y, hy, e⟩ := path_some p (b :: L) h
      exact ⟨x, List.mem_cons_of_mem _ hx, y, List.mem_cons_of_mem _ hy, e⟩
theorem cross_some (p : Pt) (K : List Pt) (h : 0 < crossN p K) : ∃ a ∈ K, ∃ b ∈ K, countC p a b = true := by
  cases K with
  | nil => exact absurd h (Nat.lt_irrefl 0)
  | cons a L =>
    obtain ⟨x, hx, y, hy, e⟩ := path_some p (a :: L ++ [a]) h
    have m : ∀ x, x ∈ a :: L ++ [a] → x ∈ a :: L := by intro x hx; simp at hx ⊢; rcases hx with h | h | h <;> simp [h]
    exact ⟨x, m x hx, y, m y hy, e⟩
/-- What is inside is in the bounds. -/
theorem in_bnd {p : Pt} {K : List Pt} (hp : okC p = true) (hK : ∀ a ∈ K, okC a = true) (h : inQ p K = true) : inF p.1 p.2 (lxF K K.length) (lyF K K.length) (hxF K K.length + 1) (hyF K K.length + 1) = true := by
  unfold inQ at h
  rw [decide_eq_true_eq] at h
  obtain ⟨a, ha, b, hb, hc⟩ := cross_some p K (by omega)
  have k := (count_iff hp (hK a ha) (hK b hb)).1 hc
  have l1 := ly_low ha
  have l2 := ly_low hb
  have g1 := hy_high ha
  have g2 := hy_high hb
  have r1 := hx_high ha
  have r2 := hx_high hb
  have hr : p.1 < a.1 ∨ p.1 < b.1 := by
    rcases k with ⟨k1, k2, k3⟩ | ⟨k1, k2, k3⟩
    · exact edge_far_right k3 k1 k2
    · have : 0 < detQ b a p := by rw [detQ_swap]; omega
      exact (edge_far_right this k1 k2).symm
  have hl : lxF K K.length ≤ p.1 := by
    apply Decidable.byContradiction
    intro q
    have := cross_par p (fun x => decide (p.2 < x.2)) K (fun x hx y hy => by
      have x1 := lx_low hx
      have y1 := lx_low hy
      have c := count_iff hp (hK x hx) (hK y hy)
      rw [Bool.eq_iff_iff, c]
      simp only [bne_iff_ne, ne_eq, decide_eq_decide]
      constructor
      · intro k; omega
      · intro k
        rcases Int.lt_or_le p.2 x.2 with h1 | h1
        · right
          have h2 : y.2 ≤ p.2 := by omega
          have := edge_left (p := p) h2 h1 (by omega) (by omega)
          rw [detQ_swap] at this
          exact ⟨h2, h1, by omega⟩
        · left
          have h2 : p.2 < y.2 := by omega
          exact ⟨h1, h2, edge_left h1 h2 (by omega) (by omega)⟩)
    omega
  unfold inF
  exact decide_eq_true (by omega)
end

section
set_option linter.unusedVariables false
set_option linter.unusedSimpArgs false

/-- An edge counts for no point that may not be. -/
theorem count_bad {p a b : Pt} (h : ¬ okC p = true) : countC p a b = false := by
  have t : ∀ x y, turnC x y p ≠ 1 := by
    intro x y
    unfold turnC turnF
    rw [if_neg (by unfold okC at h; simp only [Bool.and_eq_true]; exact fun k => h k.2)]
    decide
  unfold countC upC
  split <;> simp [t]
theorem cross_zero0 {p : Pt} {K : List Pt} (h : ∀ a ∈ K, ∀ b ∈ K, countC p a b = false) : crossN p K = 0 := by
  apply Decidable.byContradiction
  intro k
  obtain ⟨a, ha, b, hb, hc⟩ := cross_some p K (by omega)
  rw [h a ha b hb] at hc; cases hc
/-- A point out of a box is inside no list of points of it, its upper and right sides being out. -/
theorem in_out {p : Pt} {K : List Pt} {lx ly hx hy : Int} (hK : ∀ a ∈ K, okC a = true ∧ lx ≤ a.1 ∧ a.1 ≤ hx ∧ ly ≤ a.2 ∧ a.2 ≤ hy) (h : inF p.1 p.2 lx ly hx hy = false) : inQ p K = false := by
  unfold inQ
  rw [decide_eq_false_iff_not]
  by_cases hp : okC p = true
  · by_cases hl : p.1 < lx
    · rw [cross_par p (fun a => decide (a.2 ≤ p.2)) K (fun a ha b hb => ?_)]
      · decide
      · obtain ⟨oa, a1, a2, a3, a4⟩ := hK a ha
        obtain ⟨ob, b1, b2, b3, b4⟩ := hK b hb
        rw [Bool.eq_iff_iff, count_iff hp oa ob]
        constructor
        · rintro (⟨k1, k2, _⟩ | ⟨k1, k2, _⟩)
          · rw [decide_eq_true k1, decide_eq_false (show ¬ b.2 ≤ p.2 by omega)]; rfl
          · rw [decide_eq_true k1, decide_eq_false (show ¬ a.2 ≤ p.2 by omega)]; rfl
        · intro k
          by_cases k1 : a.2 ≤ p.2
          · by_cases k2 : b.2 ≤ p.2
            · rw [decide_eq_true k1, decide_eq_true k2] at k; cases k
            · exact .inl ⟨k1, by omega, edge_left k1 (by omega) (by omega) (by omega)⟩
          · by_cases k2 : b.2 ≤ p.2
            · refine .inr ⟨k2, by omega, ?_⟩
              have := edge_left (p := p) (a := b) (b := a) k2 (by omega) (by omega) (by omega)
              rw [detQ_swap] at this; omega
            · rw [decide_eq_false k1, decide_eq_false k2] at k; cases k
    · rw [cross_zero0 (fun a ha b hb => ?_)]
      · decide
      · obtain ⟨oa, a1, a2, a3, a4⟩ := hK a ha
        obtain ⟨ob, b1, b2, b3, b4⟩ := hK b hb
        apply Decidable.byContradiction
        intro k
        have k := (count_iff hp oa ob).1 (by simpa using k)
        have hr : (p.1 < a.1 ∨ p.1 < b.1) ∧ ly ≤ p.2 ∧ p.2 < hy := by
          rcases k with ⟨k1, k2, k3⟩ | ⟨k1, k2, k3⟩
          · exact ⟨edge_far_right k3 k1 k2, by omega, by omega⟩
          · have : 0 < detQ b a p := by rw [detQ_swap]; omega
            exact ⟨(edge_far_right this k1 k2).symm, by omega, by omega⟩
        unfold inF at h
        have : p.1 < hx := by omega
        simp at h
        omega
  · rw [cross_zero0 (fun a _ b _ => count_bad hp)]; decide

/-- The ring of a box, with a point on its left side and one on its right side. -/
def boxAB (lx ly hx hy fy ty : Int) : List Pt := joinL (lx, fy) [(lx, ly), (hx, ly)] (hx, ty) [(hx, hy), (lx, hy)]
theorem in_boxAB {px py lx ly hx hy fy ty : Int} (hl : okC (lx, ly) = true) (hh : okC (hx, hy) = true) (h1 : lx < hx) (h2 : ly < hy) (f1 : ly ≤ fy) (f2 : fy ≤ hy) (t1 : ly ≤ ty) (t2 : ty ≤ hy) (hb : inF px py lx ly hx hy = true) : inQ (px, py) (boxAB lx ly hx hy fy ty) = true := by
  have ok : ∀ u v : Int, lx ≤ u → u ≤ hx → ly ≤ v → v ≤ hy → okC (u, v) = true := by
    intro u v a b c d
    unfold okC okP okI at *
    simp only [Bool.and_eq_true, decide_eq_true_eq] at *
    omega
  unfold inF at hb
  simp only [Bool.and_eq_true, decide_eq_true_eq] at hb
  have hp : okC (px, py) = true := ok px py (by omega) (by omega) (by omega) (by omega)
  have c1 := (count_iff hp (ok lx fy (by omega) (by omega) (by omega) (by omega)) (ok lx ly (by omega) (by omega) (by omega) (by omega)))
  have c2 := (count_iff hp (ok lx ly (by omega) (by omega) (by omega) (by omega)) (ok hx ly (by omega) (by omega) (by omega) (by omega)))
  have c3 := (count_iff hp (ok hx ly (by omega) (by omega) (by omega) (by omega)) (ok hx ty (by omega) (by omega) (by omega) (by omega)))
  have c4 := (count_iff hp (ok hx ty (by omega) (by omega) (by omega) (by omega)) (ok hx hy (by omega) (by omega) (by omega) (by omega)))
  have c5 := (count_iff hp (ok hx hy (by omega) (by omega) (by omega) (by omega)) (ok lx hy (by omega) (by omega) (by omega) (by omega)))
  have c6 := (count_iff hp (ok lx hy (by omega) (by omega) (by omega) (by omega)) (ok lx fy (by omega) (by omega) (by omega) (by omega)))
  rw [vert_det] at c1 c3 c4 c6
  have e : crossN (px, py) (boxAB lx ly hx hy fy ty) = oneN (countC (px, py) (lx, fy) (lx, ly)) + (oneN (countC (px, py) (lx, ly) (hx, ly)) + (oneN (countC (px, py) (hx, ly) (hx, ty)) + (oneN (countC (px, py) (hx, ty) (hx, hy)) + (oneN (countC (px, py) (hx, hy) (lx, hy)) + (oneN (countC (px, py) (lx, hy) (lx, fy)) + 0))))) := rfl
  have n1 : ¬ countC (px, py) (lx, fy) (lx, ly) = true := by
    rw [c1]; simp only
    rintro (⟨a, b, c⟩ | ⟨a, b, c⟩)
    · omega
    · have := Int.mul_nonneg_of_nonpos_of_nonpos (show ly - fy ≤ 0 by omega) (show lx - px ≤ 0 by omega); omega
  have n2 : ¬ countC (px, py) (lx, ly) (hx, ly) = true := by
    rw [c2]; simp only
    rintro (⟨a, b, c⟩ | ⟨a, b, c⟩) <;> omega
  have n5 : ¬ countC (px, py) (hx, hy) (lx, hy) = true := by
    rw [c5]; simp only
    rintro (⟨a, b, c⟩ | ⟨a, b, c⟩) <;> omega
  have n6 : ¬ countC (px, py) (lx, hy) (lx, fy) = true := by
    rw [c6]; simp only
    rintro (⟨a, b, c⟩ | ⟨a, b, c⟩)
    · omega
    · have := Int.mul_nonneg_of_nonpos_of_nonpos (show fy - hy ≤ 0 by omega) (show lx - px ≤ 0 by omega); omega
  unfold inQ
  rw [decide_eq_true_eq, e, one_false n1, one_false n2, one_false n5, one_false n6]
  by_cases hy3 : py < ty
  · have k3 : countC (px, py) (hx, ly) (hx, ty) = true := c3.2 (.inl ⟨by simp only; omega, hy3, Int.mul_pos (by omega) (by omega)⟩)
    have k4 : ¬ countC (px, py) (hx, ty) (hx, hy) = true := by
      rw [c4]; simp only
      rintro (⟨a, b, c⟩ | ⟨a, b, c⟩) <;> omega
    rw [one_true k3, one_false k4]
  · have k4 : countC (px, py) (hx, ty) (hx, hy) = true := c4.2 (.inl ⟨by simp only; omega, by simp only; omega, Int.mul_pos (by omega) (by omega)⟩)
    have k3 : ¬ countC (px, py) (hx, ly) (hx, ty) = true := by
      rw [c3]; simp only
      rintro (⟨a, b, c⟩ | ⟨a, b, c⟩) <;> omega
    rw [one_true k4, one_false k3]
/-- Of the two parts of a box just one has each point of it, and neither another. -/
theorem in_tiles {p : Pt} {lx ly hx hy fy ty : Int} {cut : List Pt} (hl : okC (lx, ly) = true) (hh : okC (hx, hy) = true) (h1 : lx < hx) (h2 : ly < hy) (f1 : ly ≤ fy) (f2 : fy ≤ hy) (t1 : ly ≤ ty) (t2 : ty ≤ hy)
    (hc : ∀ a ∈ cut, lx ≤ a.1 ∧ a.1 ≤ hx ∧ ly ≤ a.2 ∧ a.2 ≤ hy) :
    (inF p.1 p.2 lx ly hx hy = true → inQ p ([(lx, ly), (hx, ly)] ++ ((lx, fy) :: cut ++ [(hx, ty)]).reverse) = !inQ p ([(hx, hy), (lx, hy)] ++ ((lx, fy) :: cut ++ [(hx, ty)]))) ∧
    (inF p.1 p.2 lx ly hx hy = false → inQ p ([(lx, ly), (hx, ly)] ++ ((lx, fy) :: cut ++ [(hx, ty)]).reverse) = false ∧ inQ p ([(hx, hy), (lx, hy)] ++ ((lx, fy) :: cut ++ [(hx, ty)])) = false) := by
  have ok : ∀ u v : Int, lx ≤ u → u ≤ hx → ly ≤ v → v ≤ hy → okC (u, v) = true := by
    intro u v a b c d
    unfold okC okP okI at *
    simp only [Bool.and_eq_true, decide_eq_true_eq] at *
    omega
  constructor
  · intro hb
    have e1 : inQ p ([(lx, ly), (hx, ly)] ++ ((lx, fy) :: cut ++ [(hx, ty)]).reverse) = inQ p (joinL (hx, ty) cut.reverse (lx, fy) [(lx, ly), (hx, ly)]) := by
      unfold inQ
      rw [cross_swap_parts]
      unfold joinL
      simp
    have e2 : inQ p ([(hx, hy), (lx, hy)] ++ ((lx, fy) :: cut ++ [(hx, ty)])) = inQ p (joinL (lx, fy) cut (hx, ty) [(hx, hy), (lx, hy)]) := by
      unfold inQ
      rw [cross_swap_parts]
      unfold joinL
      simp
    have k := in_adds p (lx, fy) (hx, ty) cut [(hx, hy), (lx, hy)] [(lx, ly), (hx, ly)]
    rw [← e1, ← e2, show inQ p (joinL (lx, fy) [(lx, ly), (hx, ly)] (hx, ty) [(hx, hy), (lx, hy)]) = true from in_boxAB hl hh h1 h2 f1 f2 t1 t2 hb] at k
    revert k
    cases inQ p ([(lx, ly), (hx, ly)] ++ ((lx, fy) :: cut ++ [(hx, ty)]).reverse) <;> cases inQ p ([(hx, hy), (lx, hy)] ++ ((lx, fy) :: cut ++ [(hx, ty)])) <;> simp
  · intro hb
    have all : ∀ a, a ∈ ((lx, fy) :: cut ++ [(hx, ty)]) → okC a = true ∧ lx ≤ a.1 ∧ a.1 ≤ hx ∧ ly ≤ a.2 ∧ a.2 ≤ hy := by
      intro a ha
      have hin : lx ≤ a.1 ∧ a.1 ≤ hx ∧ ly ≤ a.2 ∧ a.2 ≤ hy := by
        simp only [List.cons_append, List.mem_cons, List.mem_append, List.mem_nil_iff, or_false] at ha
        rcases ha with rfl | ha | rfl
        · exact ⟨by simp, by simp only; omega, f1, f2⟩
        · exact hc a ha
        · exact ⟨by simp only; omega, by simp, t1, t2⟩
      exact ⟨ok a.1 a.2 hin.1 hin.2.1 hin.2.2.1 hin.2.2.2, hin⟩
    refine ⟨in_out (fun a ha => ?_) hb, in_out (fun a ha => ?_) hb⟩
    · rw [List.mem_append] at ha
      rcases ha with ha | ha
      · simp only [List.mem_cons, List.mem_nil_iff, or_false] at ha
        rcases ha with rfl | rfl
        · exact ⟨hl, by simp, by simp only; omega, by simp, by simp only; omega⟩
        · exact ⟨ok _ _ (by omega) (by omega) (by omega) (by omega), by simp only; omega, by simp, by simp, by simp only; omega⟩
      · exact all a (List.mem_reverse.1 ha)
    · rw [List.mem_append] at ha
      rcases ha with ha | ha
      · simp only [List.mem_cons, List.mem_nil_iff, or_false] at ha
        rcases ha with rfl | rfl
        · exact ⟨hh, by simp only; omega, by simp, by simp only; omega, by simp⟩
        · exact ⟨ok _ _ (by omega) (by omega) (by omega) (by omega), by simp, by simp only; omega, by simp only; omega, by simp⟩
      · exact all a ha

/-- How many rings a point is inside, odd or even. -/
def regQ (p : Pt) (R : List (List Pt)) : Bool := decide ((R.filter (inQ p)).length % 2 = 1)
theorem reg_one (p : Pt) (K : List Pt) : regQ p [K] = inQ p K := by
  unfold regQ
  cases h : inQ p K <;> simp [h]
theorem reg_app (p : Pt) (R : List (List Pt)) (K : List Pt) : regQ p (R ++ [K]) = (regQ p R != inQ p K) := by
  unfold regQ
  rw [List.filter_append, List.length_append]
  cases h : inQ p K
  · simp [h]
  · simp only [List.filter_cons, h, if_true, List.filter_nil, List.length_cons, List.length_nil]
    rcases Nat.mod_two_eq_zero_or_one (R.filter (inQ p)).length with e | e
    · rw [decide_eq_false (show ¬ (R.filter (inQ p)).length % 2 = 1 by omega), decide_eq_true (show ((R.filter (inQ p)).length + (0 + 1)) % 2 = 1 by omega)]; rfl
    · rw [decide_eq_true e, decide_eq_false (show ¬ ((R.filter (inQ p)).length + (0 + 1)) % 2 = 1 by omega)]; rfl
end

section
set_option linter.unusedVariables false
set_option linter.unusedSimpArgs false

/-- Do two edges, by their numbers, meet in more than a point? -/
def overC (K M : List Pt) (i j : Int) : Prop := 2 ≤ meetQ (cyc K i) (cyc K (i + 1)) (cyc M j) (cyc M (j + 1))
/-- Do two rings? -/
def rMeet (K M : List Pt) : Bool := (List.range K.length).any fun i : Nat => (List.range M.length).any fun k : Nat => decide (2 ≤ meetQ (cyc K (i : Int)) (cyc K ((i : Int) + 1)) (cyc M (k : Int)) (cyc M ((k : Int) + 1)))
theorem rMeet_iff {K M : List Pt} : rMeet K M = true ↔ 0 < K.length ∧ 0 < M.length ∧ ∃ i j : Int, overC K M i j := by
  unfold rMeet
  rw [List.any_eq_true]
  constructor
  · rintro ⟨i, hi, h⟩
    rw [List.any_eq_true] at h
    obtain ⟨k, hk, h⟩ := h
    rw [List.mem_range] at hi hk
    exact ⟨by omega, by omega, i, k, by unfold overC; simpa using h⟩
  · rintro ⟨h1, h2, i, j, h⟩
    obtain ⟨k, hk, e1, m1⟩ := cyc_at (K := K) h1 i
    obtain ⟨l, hl, e2, m2⟩ := cyc_at (K := M) h2 j
    refine ⟨k, by simpa using hk, ?_⟩
    rw [List.any_eq_true]
    refine ⟨l, by simpa using hl, ?_⟩
    have a1 : cyc K ((k : Int)) = cyc K i := cyc_mod (by rw [← m1, Int.emod_emod])
    have a2 : cyc K ((k : Int) + 1) = cyc K (i + 1) := cyc_mod (by rw [← m1, Int.emod_add_emod])
    have b1 : cyc M ((l : Int)) = cyc M j := cyc_mod (by rw [← m2, Int.emod_emod])
    have b2 : cyc M ((l : Int) + 1) = cyc M (j + 1) := cyc_mod (by rw [← m2, Int.emod_add_emod])
    rw [a1, a2, b1, b2]
    exact decide_eq_true h
theorem rMeet_comm (K M : List Pt) : rMeet M K = rMeet K M := by
  rw [Bool.eq_iff_iff, rMeet_iff, rMeet_iff]
  constructor
  · rintro ⟨h1, h2, i, j, h⟩; exact ⟨h2, h1, j, i, by unfold overC at *; rw [meet_swap]; exact h⟩
  · rintro ⟨h1, h2, i, j, h⟩; exact ⟨h2, h1, j, i, by unfold overC at *; rw [meet_swap]; exact h⟩
theorem rMeet_rot (K M : List Pt) (s : Int) : rMeet (rotF K s) M = rMeet K M := by
  rw [Bool.eq_iff_iff, rMeet_iff, rMeet_iff, rot_len]
  constructor
  · rintro ⟨h1, h2, i, j, h⟩
    refine ⟨h1, h2, s + i, j, ?_⟩
    unfold overC at *
    rw [rot_cyc, rot_cyc] at h
    rwa [show s + i + 1 = s + (i + 1) by omega]
  · rintro ⟨h1, h2, i, j, h⟩
    refine ⟨h1, h2, i - s, j, ?_⟩
    unfold overC at *
    rw [rot_cyc, rot_cyc, show s + (i - s) = i by omega, show s + (i - s + 1) = i + 1 by omega]
    exact h
theorem rMeet_rev (K M : List Pt) : rMeet K.reverse M = rMeet K M := by
  rw [Bool.eq_iff_iff, rMeet_iff, rMeet_iff, List.length_reverse]
  constructor
  · rintro ⟨h1, h2, i, j, h⟩
    refine ⟨h1, h2, -1 - (i + 1), j, ?_⟩
    unfold overC at *
    rw [rev_cyc, rev_cyc] at h
    rw [← meet_flip]
    rwa [show -1 - (i + 1) + 1 = -1 - i by omega]
  · rintro ⟨h1, h2, i, j, h⟩
    refine ⟨h1, h2, -1 - (i + 1), j, ?_⟩
    unfold overC at *
    rw [rev_cyc, rev_cyc, ← meet_flip]
    rwa [show -1 - (-1 - (i + 1) + 1) = i by omega, show -1 - (-1 - (i + 1)) = i + 1 by omega]

theorem sum_perm {A B : List Nat} (h : A.Perm B) : A.sum = B.sum := by
  induction h with
  | nil => rfl
  | cons x _ ih => simp [ih]
  | swap x y l => simp; omega
  | trans _ _ a b => rw [a, b]
/-- How many points there are in all. -/
def allN (R : List (List Pt)) : Nat := (R.map List.length).sum
/-- A region that may be. -/
structure regFine (R : List (List Pt)) : Prop where
  few : 0 < R.length
  long : R.length ≤ 20
  many : allN R ≤ 400
  each : ∀ K ∈ R, fineQ K
  apart : R.Pairwise fun K M => rMeet K M = false
/-- Does the i-th ring meet a later one in more than points? -/
def ringsAt (R : List (List Pt)) (i : Nat) : Bool := (R.drop (i + 1)).any fun M => rMeet (R.getD i []) M
def badAt (R : List (List Pt)) (i : Nat) : Bool := !decide ((checkF (R.getD i [])).1 = 0)
/-- What is wrong with rings as a region, and with which. -/
def checkR (R : List (List Pt)) : Int × Nat :=
  if 20 < R.length then (3, 0) else if R.length = 0 then (2, 0) else if 400 < allN R then (211, 0) else
  match firstQ (badAt R) R.length with
  | some i => ((checkF (R.getD i [])).1, i)
  | none => orFault (firstQ (ringsAt R) R.length) 210 (0, 0)
theorem pairwise_at {α : Type} {r : α → α → Bool} {d : α} : ∀ {L : List α}, L.Pairwise (fun a b => r a b = false) ↔ ∀ i, i < L.length → (L.drop (i + 1)).any (r (L.getD i d)) = false
  | [] => by simp
  | a :: L => by
    rw [List.pairwise_cons, pairwise_at (L := L)]
    constructor
    · rintro ⟨h1, h2⟩ i hi
      cases i with
      | zero =>
        rw [List.any_eq_false]
        intro x hx
        simpa using h1 x (by simpa using hx)
      | succ i => exact h2 i (by simpa using hi)
    · intro h
      refine ⟨fun x hx => ?_, fun i hi => h (i + 1) (by simpa using hi)⟩
      have := h 0 (by simp)
      rw [List.any_eq_false] at this
      simpa using this x (by simpa using hx)
theorem checkR_fine {R : List (List Pt)} : (checkR R).1 = 0 ↔ regFine R := by
  unfold checkR
  by_cases h1 : 20 < R.length
  · rw [if_pos h1]; exact ⟨fun h => absurd h (by decide), fun h => absurd h.long (by omega)⟩
  rw [if_neg h1]
  by_cases h2 : R.length = 0
  · rw [if_pos h2]; exact ⟨fun h => absurd h (by decide), fun h => absurd h.few (by omega)⟩
  rw [if_neg h2]
  by_cases h3 : 400 < allN R
  · rw [if_pos h3]; exact ⟨fun h => absurd h (by decide), fun h => absurd h.many (by omega)⟩
  rw [if_neg h3]
  cases hb : firstQ (badAt R) R.length with
  | some i =>
    unfold firstQ at hb
    rw [List.find?_range_eq_some] at hb
    obtain ⟨b1, b2, _⟩ := hb
    unfold badAt at b1
    have b3 : ¬ (checkF (R.getD i [])).1 = 0 := by simpa using b1
    have hi : i < R.length := by simpa using b2
    refine ⟨fun h => absurd h b3, fun h => absurd (check_fine.2 (h.each _ ?_)) b3⟩
    rw [List.getD_eq_getElem?_getD, List.getElem?_eq_getElem hi]
    exact List.getElem_mem hi
  | none =>
    rw [first_none] at hb
    rw [or_zero (by decide), first_none]
    have he : ∀ K ∈ R, fineQ K := by
      intro K hK
      obtain ⟨i, hi, e⟩ := List.mem_iff_getElem.1 hK
      have := hb i hi
      unfold badAt at this
      rw [List.getD_eq_getElem?_getD, List.getElem?_eq_getElem hi] at this
      rw [← e]
      exact check_fine.1 (by simpa using this)
    constructor
    · rintro ⟨h, _⟩
      exact ⟨by omega, by omega, by omega, he, pairwise_at.2 h⟩
    · intro h
      exact ⟨pairwise_at.1 h.apart, rfl⟩
theorem regFine_perm {R S : List (List Pt)} (h : R.Perm S) : regFine R ↔ regFine S := by
  have key : ∀ {R S : List (List Pt)}, R.Perm S → regFine R → regFine S := by
    intro R S h f
    refine ⟨by rw [← h.length_eq]; exact f.few, by rw [← h.length_eq]; exact f.long, ?_, fun K hK => f.each K (h.mem_iff.2 hK), ?_⟩
    · have : allN S = allN R := by unfold allN; exact (sum_perm (h.map List.length)).symm
      rw [this]; exact f.many
    · exact (h.pairwise_iff (fun {a b} hab => by rw [rMeet_comm]; exact hab)).1 f.apart
  exact ⟨key h, key h.symm⟩
theorem regFine_map {R : List (List Pt)} {f : List Pt → List Pt} (hl : ∀ K, (f K).length = K.length) (hf : ∀ K, fineQ (f K) ↔ fineQ K) (hm : ∀ K M, rMeet (f K) (f M) = rMeet K M) : regFine (R.map f) ↔ regFine R := by
  have e : allN (R.map f) = allN R := by
    unfold allN
    rw [List.map_map]
    congr 1
    exact List.map_congr_left fun K _ => hl K
  constructor
  · intro h
    refine ⟨by simpa using h.few, by simpa using h.long, by rw [← e]; exact h.many, fun K hK => (hf K).1 (h.each _ (List.mem_map_of_mem hK)), ?_⟩
    have := h.apart
    rw [List.pairwise_map] at this
    exact this.imp fun {a b} hab => by rw [hm] at hab; exact hab
  · intro h
    refine ⟨by simpa using h.few, by simpa using h.long, by rw [e]; exact h.many, fun K hK => ?_, ?_⟩
    · obtain ⟨L, hL, rfl⟩ := List.mem_map.1 hK
      exact (hf L).2 (h.each L hL)
    · rw [List.pairwise_map]
      exact h.apart.imp fun {a b} hab => by rw [hm]; exact hab
/-- Two regions are the same: both may be, and their rings can be paired. -/
def sameR (A B : List (List Pt)) : Prop := regFine A ∧ regFine B ∧ (A.map normF).Perm (B.map normF)
theorem regQ_perm {p : Pt} {R S : List (List Pt)} (h : R.Perm S) : regQ p R = regQ p S := by
  unfold regQ
  rw [(h.filter (inQ p)).length_eq]
theorem regQ_map {p : Pt} {R : List (List Pt)} {f : List Pt → List Pt} (hf : ∀ K, inQ p (f K) = inQ p K) : regQ p (R.map f) = regQ p R := by
  unfold regQ
  rw [List.filter_map, List.length_map]
  congr 3
  exact congrArg _ (List.filter_congr fun K _ => hf K)
theorem in_rot (p : Pt) (K : List Pt) (s : Int) : inQ p (rotF K s) = inQ p K := by unfold inQ; rw [cross_rot]
theorem in_rev (p : Pt) (K : List Pt) : inQ p K.reverse = inQ p K := by unfold inQ; rw [cross_rev]
theorem in_bnd2 {p : Pt} {K L : List Pt} (hp : okC p = true) (hs : ∀ a ∈ K, a ∈ L) (hK : ∀ a ∈ L, okC a = true) (h : inQ p K = true) : inF p.1 p.2 (lxF L L.length) (lyF L L.length) (hxF L L.length + 1) (hyF L L.length + 1) = true := by
  unfold inQ at h
  rw [decide_eq_true_eq] at h
  obtain ⟨a, ha, b, hb, hc⟩ := cross_some p K (by omega)
  have k := (count_iff hp (hK a (hs a ha)) (hK b (hs b hb))).1 hc
  have l1 := ly_low (hs a ha)
  have l2 := ly_low (hs b hb)
  have g1 := hy_high (hs a ha)
  have g2 := hy_high (hs b hb)
  have r1 := hx_high (hs a ha)
  have r2 := hx_high (hs b hb)
  have hr : p.1 < a.1 ∨ p.1 < b.1 := by
    rcases k with ⟨k1, k2, k3⟩ | ⟨k1, k2, k3⟩
    · exact edge_far_right k3 k1 k2
    · have : 0 < detQ b a p := by rw [detQ_swap]; omega
      exact (edge_far_right this k1 k2).symm
  have hl : lxF L L.length ≤ p.1 := by
    apply Decidable.byContradiction
    intro q
    have := cross_par p (fun x => decide (p.2 < x.2)) K (fun x hx y hy => by
      have x1 := lx_low (hs x hx)
      have y1 := lx_low (hs y hy)
      have c := count_iff hp (hK x (hs x hx)) (hK y (hs y hy))
      rw [Bool.eq_iff_iff, c]
      simp only [bne_iff_ne, ne_eq, decide_eq_decide]
      constructor
      · intro k; omega
      · intro k
        rcases Int.lt_or_le p.2 x.2 with h1 | h1
        · right
          have h2 : y.2 ≤ p.2 := by omega
          have := edge_left (p := p) h2 h1 (by omega) (by omega)
          rw [detQ_swap] at this
          exact ⟨h2, h1, by omega⟩
        · left
          have h2 : p.2 < y.2 := by omega
          exact ⟨h1, h2, edge_left h1 h2 (by omega) (by omega)⟩)
    omega
  unfold inF
  exact decide_eq_true (by omega)
/-- What is in a region is in the bounds of all its points. -/
theorem reg_bnd {p : Pt} {R : List (List Pt)} (hK : ∀ a ∈ R.flatten, okC a = true) (h : regQ p R = true) : inF p.1 p.2 (lxF R.flatten R.flatten.length) (lyF R.flatten R.flatten.length) (hxF R.flatten R.flatten.length + 1) (hyF R.flatten R.flatten.length + 1) = true := by
  unfold regQ at h
  rw [decide_eq_true_eq] at h
  obtain ⟨K, hm⟩ : ∃ K, K ∈ R.filter (inQ p) := by
    cases e : R.filter (inQ p) with
    | nil => rw [e] at h; simp at h
    | cons K _ => exact ⟨K, by simp⟩
  rw [List.mem_filter] at hm
  by_cases hp : okC p = true
  · exact in_bnd2 hp (fun a ha => List.mem_flatten.2 ⟨K, hm.1, ha⟩) hK hm.2
  · have := hm.2
    unfold inQ at this
    rw [cross_zero0 (fun a _ b _ => count_bad hp)] at this
    cases this
end
end Go.Proofs.YtegliapkbapigaaGreat

/- Rings: mathematics: points round a list, a ring begun elsewhere, and the other way round; which faults there are. Rings: mathematics: the least point, the way round, the normal one, the same ones. -/
import Derived.Test.YtnpkhhchbahcpaaCrMath
import Derived.Test.YtnpkhhchbahcpaaPtU
namespace Go.Proofs.Ytnpkhhchbahcpaa
section
set_option linter.unusedVariables false
set_option linter.unusedSimpArgs false
open Go.RowKit

abbrev Pt := Int × Int
/-- The i-th point, round the list. -/
def cyc (K : List Pt) (i : Int) : Pt := K.getD (i % (K.length : Int)).toNat (0, 0)
theorem cyc_mod {K : List Pt} {i j : Int} (h : i % (K.length : Int) = j % (K.length : Int)) : cyc K i = cyc K j := by unfold cyc; rw [h]
theorem cyc_nat {K : List Pt} {k : Nat} (h : k < K.length) : cyc K (k : Int) = K.getD k (0, 0) := by
  unfold cyc; rw [Int.emod_eq_of_lt (by omega) (by omega)]; rfl
theorem cyc_add (K : List Pt) (i : Int) : cyc K (i + (K.length : Int)) = cyc K i := cyc_mod (by rw [Int.add_emod_right])
theorem cyc_at {K : List Pt} (hn : 0 < K.length) (i : Int) : ∃ k : Nat, k < K.length ∧ cyc K i = K.getD k (0, 0) ∧ i % (K.length : Int) = (k : Int) := by
  have h1 := Int.emod_nonneg i (b := (K.length : Int)) (by omega)
  have h2 := Int.emod_lt_of_pos i (b := (K.length : Int)) (by omega)
  exact ⟨(i % (K.length : Int)).toNat, by omega, rfl, by omega⟩
theorem list_cyc {K M : List Pt} (hl : K.length = M.length) (h : ∀ k : Nat, k < K.length → cyc K (k : Int) = cyc M (k : Int)) : K = M := by
  apply List.ext_getElem hl
  intro k h1 h2
  have := h k h1
  rw [cyc_nat h1, cyc_nat h2, List.getD_eq_getElem?_getD, List.getD_eq_getElem?_getD, List.getElem?_eq_getElem h1, List.getElem?_eq_getElem h2] at this
  simpa using this
/-- The list begun elsewhere. -/
def rotF (K : List Pt) (s : Int) : List Pt := (List.range K.length).map (fun k : Nat => cyc K (s + (k : Int)))
theorem rot_len (K : List Pt) (s : Int) : (rotF K s).length = K.length := by simp [rotF]
theorem rot_getD {K : List Pt} {s : Int} {k : Nat} (h : k < K.length) : (rotF K s).getD k (0, 0) = cyc K (s + (k : Int)) := by
  unfold rotF
  rw [List.getD_eq_getElem?_getD, List.getElem?_map, List.getElem?_range h]; rfl
theorem rot_cyc (K : List Pt) (s i : Int) : cyc (rotF K s) i = cyc K (s + i) := by
  by_cases hn : 0 < K.length
  · obtain ⟨k, hk, e, hm⟩ := cyc_at (K := rotF K s) (by rw [rot_len]; exact hn) i
    rw [rot_len] at hk hm
    rw [e, rot_getD hk, ← hm]
    refine cyc_mod ?_
    rw [Int.add_emod_emod]
  · have : K = [] := by cases K with | nil => rfl | cons a l => simp at hn
    subst this
    simp [rotF, cyc]
theorem rev_cyc (K : List Pt) (i : Int) : cyc K.reverse i = cyc K (-1 - i) := by
  by_cases hn : 0 < K.length
  · obtain ⟨k, hk, e, hm⟩ := cyc_at (K := K.reverse) (by simpa using hn) i
    rw [List.length_reverse] at hk hm
    have e2 : cyc K (-1 - i) = cyc K ((K.length - 1 - k : Nat) : Int) := by
      refine cyc_mod ?_
      have e3 : ((K.length - 1 - k : Nat) : Int) = (K.length : Int) - 1 - (k : Int) := by omega
      rw [e3, ← hm, show -1 - i = (-1) - i from rfl, show (K.length : Int) - 1 - i % (K.length : Int) = (-1 - i % (K.length : Int)) + (K.length : Int) by omega, Int.add_emod_right, Int.sub_emod_emod]
    rw [e, e2, cyc_nat (by omega), List.getD_eq_getElem?_getD, List.getD_eq_getElem?_getD, List.getElem?_reverse (by omega)]
  · have : K = [] := by cases K with | nil => rfl | cons a l => simp at hn
    subst this
    simp [cyc]
theorem rot_rot (K : List Pt) (a b : Int) : rotF (rotF K a) b = rotF K (a + b) := by
  refine list_cyc (by simp [rot_len]) fun k _ => ?_
  rw [rot_cyc, rot_cyc, rot_cyc, Int.add_assoc]
theorem rot_zero (K : List Pt) : rotF K 0 = K := by
  refine list_cyc (rot_len K 0) fun k _ => ?_
  rw [rot_cyc, Int.zero_add]
theorem rot_mod {K : List Pt} {a b : Int} (h : a % (K.length : Int) = b % (K.length : Int)) : rotF K a = rotF K b := by
  refine list_cyc (by simp [rot_len]) fun k _ => ?_
  rw [rot_cyc, rot_cyc]
  refine cyc_mod ?_
  rw [Int.add_emod, h, ← Int.add_emod]
theorem rev_rot (K : List Pt) (s : Int) : (rotF K s).reverse = rotF K.reverse (-s) := by
  refine list_cyc (by simp [rot_len]) fun k _ => ?_
  rw [rev_cyc, rot_cyc, rot_cyc, rev_cyc]
  congr 1; omega

/-- Far from each other, round n. -/
def farC (n i j : Int) : Prop := (j - i) % n ≠ 0 ∧ (j - i) % n ≠ 1 ∧ (j - i) % n ≠ n - 1
def turnC (a p b : Pt) : Int := turnF a.1 a.2 p.1 p.2 b.1 b.2
def onC (p a b : Pt) : Bool := onB p.1 p.2 a.1 a.2 b.1 b.2
def okC (p : Pt) : Bool := okP p.1 p.2
def backC (a p b : Pt) : Bool := decide (turnC a p b = 0) && !onC p a b
theorem turnC_eq {a p b : Pt} (ha : okC a = true) (hp : okC p = true) (hb : okC b = true) : turnC a p b = sgn (detQ a p b) := by
  unfold okC at *
  unfold turnC turnF
  rw [ha, hp, hb]; rfl
theorem turnC_swap (a p b : Pt) : turnC b p a = - turnC a p b := by
  unfold turnC turnF
  have e : detP b.1 b.2 p.1 p.2 a.1 a.2 = - detP a.1 a.2 p.1 p.2 b.1 b.2 := by unfold detP; grind
  by_cases h : (okP a.1 a.2 && okP p.1 p.2 && okP b.1 b.2) = true
  · rw [if_pos h, if_pos (by simp only [Bool.and_eq_true] at h ⊢; exact ⟨⟨h.2, h.1.2⟩, h.1.1⟩), e]
    exact Int.sign_neg _
  · rw [if_neg h, if_neg (by simp only [Bool.and_eq_true] at h ⊢; intro k; exact h ⟨⟨k.2, k.1.2⟩, k.1.1⟩)]; rfl
theorem onC_back (p a b : Pt) : onC p b a = onC p a b := by
  unfold onC onB
  rw [Bool.eq_iff_iff]
  simp only [Bool.and_eq_true, decide_eq_true_eq]
  rw [on_back p.1 p.2 b.1 b.2 a.1 a.2]
  constructor <;> exact fun h => ⟨⟨⟨h.1.1.1, h.1.2⟩, h.1.1.2⟩, h.2⟩
theorem backC_swap (a p b : Pt) : backC b p a = backC a p b := by
  unfold backC
  rw [onC_back, turnC_swap]
  congr 1
  exact decide_eq_decide.2 (by omega)
/-- A ring that may be, by its points round. -/
structure RingC (n : Int) (c : Int → Pt) : Prop where
  ok : ∀ i, okC (c i) = true
  one : ∀ i j, c i = c j → i % n = j % n
  back : ∀ i, backC (c (i - 1)) (c i) (c (i + 1)) = false
  meet : ∀ i j, farC n i j → meetQ (c i) (c (i + 1)) (c j) (c (j + 1)) = 0
theorem RingC.shift {n : Int} {c : Int → Pt} (h : RingC n c) (s : Int) : RingC n (fun i => c (s + i)) where
  ok i := h.ok _
  one i j e := by
    have := h.one _ _ e
    have h2 : (s + i - s) % n = (s + j - s) % n := by rw [Int.sub_emod, this, ← Int.sub_emod]
    rwa [show s + i - s = i by omega, show s + j - s = j by omega] at h2
  back i := by
    have := h.back (s + i)
    rwa [show s + i - 1 = s + (i - 1) by omega, show s + i + 1 = s + (i + 1) by omega] at this
  meet i j hf := by
    have := h.meet (s + i) (s + j) (by unfold farC at *; rwa [show s + j - (s + i) = j - i by omega])
    rwa [show s + i + 1 = s + (i + 1) by omega, show s + j + 1 = s + (j + 1) by omega] at this
theorem far_neg {n x : Int} (hn : 3 ≤ n) (h : x % n ≠ 0 ∧ x % n ≠ 1 ∧ x % n ≠ n - 1) : (-x) % n ≠ 0 ∧ (-x) % n ≠ 1 ∧ (-x) % n ≠ n - 1 := by
  have h1 := Int.emod_nonneg x (b := n) (by omega)
  have h2 := Int.emod_lt_of_pos x (b := n) (by omega)
  have e : (-x) % n = n - x % n := by
    have e1 : (-x) % n = (n - x % n) % n := by
      rw [Int.sub_emod, Int.emod_emod, Int.emod_self, ← Int.zero_emod n, ← Int.sub_emod]
      simp
    rw [e1, Int.emod_eq_of_lt (by omega) (by omega)]
  omega
theorem far_symm {n i j : Int} (hn : 3 ≤ n) (h : farC n i j) : farC n j i := by
  have := far_neg hn h
  rwa [show -(j - i) = i - j by omega] at this
theorem RingC.flip {n : Int} {c : Int → Pt} (hn : 3 ≤ n) (h : RingC n c) : RingC n (fun i => c (-1 - i)) where
  ok i := h.ok _
  one i j e := by
    have := h.one _ _ e
    have h2 : (-1 - (-1 - i)) % n = (-1 - (-1 - j)) % n := by rw [Int.sub_emod, this, ← Int.sub_emod]
    rwa [show -1 - (-1 - i) = i by omega, show -1 - (-1 - j) = j by omega] at h2
  back i := by
    have := h.back (-1 - i)
    rw [← backC_swap] at this
    rwa [show -1 - i + 1 = -1 - (i - 1) by omega, show -1 - i - 1 = -1 - (i + 1) by omega] at this
  meet i j hf := by
    have := h.meet (-1 - (i + 1)) (-1 - (j + 1)) (by
      have := far_symm hn hf
      unfold farC at *
      rwa [show -1 - (j + 1) - (-1 - (i + 1)) = i - j by omega])
    rw [show -1 - (i + 1) + 1 = -1 - i by omega, show -1 - (j + 1) + 1 = -1 - j by omega] at this
    rw [← meet_flip, ← meet_flip'] at this
    exact this

/-- Does a point stand ahead of itself? -/
def twiceAt (K : List Pt) (i : Nat) : Bool := decide (K.getD i (0, 0) ∈ K.take i)
def backAt (K : List Pt) (i : Nat) : Bool := backC (cyc K ((i : Int) - 1)) (K.getD i (0, 0)) (cyc K ((i : Int) + 1))
def meetTwo (K : List Pt) (i k : Nat) : Bool := !decide (i = 0 ∧ k = K.length - 1) && !decide (meetQ (K.getD i (0, 0)) (cyc K ((i : Int) + 1)) (K.getD k (0, 0)) (cyc K ((k : Int) + 1)) = 0)
def meetsAt (K : List Pt) (i : Nat) : Bool := (List.range K.length).any (fun k => decide (i + 2 ≤ k) && meetTwo K i k)
/-- The first place of n at which something is so. -/
def firstQ (f : Nat → Bool) (n : Nat) : Option Nat := (List.range n).find? f
def orFault (o : Option Nat) (e : Int) (r : Int × Nat) : Int × Nat := match o with | some i => (e, i) | none => r
/-- What is wrong with points as a ring, and at which. -/
def checkF (K : List Pt) : Int × Nat :=
  if 200 < K.length then (3, 0) else if K.length < 3 then (190, 0) else
  orFault (firstQ (fun i => !okC (K.getD i (0, 0))) K.length) 2 (orFault (firstQ (twiceAt K) K.length) 191 (orFault (firstQ (backAt K) K.length) 192 (orFault (firstQ (meetsAt K) K.length) 193 (0, 0))))
theorem first_none {f : Nat → Bool} {n : Nat} : firstQ f n = none ↔ ∀ i, i < n → f i = false := by
  unfold firstQ
  rw [List.find?_eq_none]
  simp
structure fineQ (K : List Pt) : Prop where
  few : 3 ≤ K.length
  long : K.length ≤ 200
  ok : ∀ i, i < K.length → okC (K.getD i (0, 0)) = true
  once : ∀ i, i < K.length → twiceAt K i = false
  back : ∀ i, i < K.length → backAt K i = false
  meet : ∀ i, i < K.length → meetsAt K i = false
theorem or_zero {o : Option Nat} {e : Int} {r : Int × Nat} (he : e ≠ 0) : (orFault o e r).1 = 0 ↔ o = none ∧ r.1 = 0 := by
  cases o with
  | none => simp [orFault]
  | some i => simp [orFault, he]
theorem check_fine {K : List Pt} : (checkF K).1 = 0 ↔ fineQ K := by
  unfold checkF
  by_cases h1 : 200 < K.length
  · rw [if_pos h1]; exact ⟨fun h => absurd h (by decide), fun h => absurd h.long (by omega)⟩
  rw [if_neg h1]
  by_cases h2 : K.length < 3
  · rw [if_pos h2]; exact ⟨fun h => absurd h (by decide), fun h => absurd h.few (by omega)⟩
  rw [if_neg h2, or_zero (by decide), or_zero (by decide), or_zero (by decide), or_zero (by decide), first_none, first_none, first_none, first_none]
  constructor
  · rintro ⟨a, b, c, d, _⟩
    exact ⟨by omega, by omega, fun i hi => by simpa using a i hi, b, c, d⟩
  · intro h
    exact ⟨fun i hi => by rw [h.ok i hi]; rfl, h.once, h.back, h.meet, rfl⟩
theorem or_at {o : Option Nat} {e : Int} {r : Int × Nat} (he : e ≠ 0) (hr : r.1 = 0 → r.2 = 0) (h : (orFault o e r).1 = 0) : (orFault o e r).2 = 0 := by
  cases o with
  | none => exact hr h
  | some i => exact absurd h he
theorem check_at {K : List Pt} (h : (checkF K).1 = 0) : checkF K = (0, 0) := by
  refine Prod.ext h ?_
  revert h
  unfold checkF
  split
  · intro h; rfl
  · split
    · intro h; rfl
    · exact or_at (by decide) (or_at (by decide) (or_at (by decide) (or_at (by decide) (fun _ => rfl))))

theorem twice_iff {K : List Pt} {i : Nat} (hi : i < K.length) : twiceAt K i = false ↔ ∀ j, j < i → K.getD j (0, 0) ≠ K.getD i (0, 0) := by
  unfold twiceAt
  rw [decide_eq_false_iff_not]
  constructor
  · intro h j hj e
    apply h
    rw [← e, List.getD_eq_getElem?_getD, List.getElem?_eq_getElem (by omega)]
    simp only [Option.getD_some]
    rw [List.mem_iff_getElem]
    exact ⟨j, by rw [List.length_take]; omega, by rw [List.getElem_take]⟩
  · intro h hm
    rw [List.mem_iff_getElem] at hm
    obtain ⟨j, hj, e⟩ := hm
    rw [List.length_take] at hj
    rw [List.getElem_take] at e
    refine h j (by omega) ?_
    rw [← e, List.getD_eq_getElem?_getD, List.getElem?_eq_getElem (by omega)]
    rfl
theorem meets_iff {K : List Pt} {i : Nat} : meetsAt K i = false ↔ ∀ k, i + 2 ≤ k → k < K.length → ¬ (i = 0 ∧ k = K.length - 1) → meetQ (K.getD i (0, 0)) (cyc K ((i : Int) + 1)) (K.getD k (0, 0)) (cyc K ((k : Int) + 1)) = 0 := by
  unfold meetsAt meetTwo
  rw [List.any_eq_false]
  constructor
  · intro h k h1 h2 h3
    have := h k (by simpa using h2)
    rw [decide_eq_true h1, decide_eq_false h3] at this
    simpa using this
  · intro h k hk
    rw [List.mem_range] at hk
    by_cases h1 : i + 2 ≤ k
    · by_cases h3 : i = 0 ∧ k = K.length - 1
      · rw [decide_eq_true h3]; simp
      · rw [h k h1 hk h3]; simp
    · rw [decide_eq_false h1]; simp
/-- A ring may be just if it may be by its points round. -/
theorem fine_cyc {K : List Pt} : fineQ K ↔ 3 ≤ K.length ∧ K.length ≤ 200 ∧ RingC (K.length : Int) (cyc K) := by
  constructor
  · intro h
    have hn := h.few
    refine ⟨h.few, h.long, ?_, ?_, ?_, ?_⟩
    · intro i
      obtain ⟨k, hk, e, _⟩ := cyc_at (K := K) (by omega) i
      rw [e]; exact h.ok k hk
    · intro i j e
      obtain ⟨k, hk, e1, m1⟩ := cyc_at (K := K) (by omega) i
      obtain ⟨l, hl, e2, m2⟩ := cyc_at (K := K) (by omega) j
      rw [e1, e2] at e
      rw [m1, m2]
      rcases Nat.lt_trichotomy k l with h1 | h1 | h1
      · exact absurd e ((twice_iff hl).1 (h.once l hl) k h1)
      · rw [h1]
      · exact absurd e.symm ((twice_iff hk).1 (h.once k hk) l h1)
    · intro i
      obtain ⟨k, hk, e, m⟩ := cyc_at (K := K) (by omega) i
      have := h.back k hk
      unfold backAt at this
      rw [e]
      rwa [cyc_mod (i := (k : Int) - 1) (j := i - 1) (by rw [← m, Int.emod_sub_emod]), cyc_mod (i := (k : Int) + 1) (j := i + 1) (by rw [← m, Int.emod_add_emod])] at this
    · intro i j hf
      obtain ⟨k, hk, e1, m1⟩ := cyc_at (K := K) (by omega) i
      obtain ⟨l, hl, e2, m2⟩ := cyc_at (K := K) (by omega) j
      have hd : (j - i) % (K.length : Int) = ((l : Int) - (k : Int)) % (K.length : Int) := by rw [← m1, ← m2, ← Int.sub_emod]
      have n1 : cyc K (i + 1) = cyc K ((k : Int) + 1) := cyc_mod (by rw [← m1, Int.emod_add_emod])
      have n2 : cyc K (j + 1) = cyc K ((l : Int) + 1) := cyc_mod (by rw [← m2, Int.emod_add_emod])
      unfold farC at hf
      rw [hd] at hf
      rw [e1, e2, n1, n2]
      rcases Nat.lt_trichotomy k l with h1 | h1 | h1
      · rw [Int.emod_eq_of_lt (by omega) (by omega)] at hf
        exact meets_iff.1 (h.meet k hk) l (by omega) hl (by omega)
      · subst h1; simp at hf
      · rw [show ((l : Int) - (k : Int)) = ((l : Int) - (k : Int) + (K.length : Int)) - (K.length : Int) by omega, Int.sub_emod_right, Int.emod_eq_of_lt (by omega) (by omega)] at hf
        rw [meet_swap]
        exact meets_iff.1 (h.meet l hl) k (by omega) hk (by omega)
  · rintro ⟨h1, h2, h⟩
    refine ⟨h1, h2, fun i hi => ?_, fun i hi => ?_, fun i hi => ?_, fun i hi => ?_⟩
    · have := h.ok (i : Int)
      rwa [cyc_nat hi] at this
    · rw [twice_iff hi]
      intro j hj e
      rw [← cyc_nat hi, ← cyc_nat (K := K) (k := j) (by omega)] at e
      have := h.one _ _ e
      rw [Int.emod_eq_of_lt (by omega) (by omega), Int.emod_eq_of_lt (by omega) (by omega)] at this
      omega
    · have := h.back (i : Int)
      rw [cyc_nat hi] at this
      exact this
    · rw [meets_iff]
      intro k a b c
      have := h.meet (i : Int) (k : Int) (by
        unfold farC
        rw [Int.emod_eq_of_lt (by omega) (by omega)]
        omega)
      rwa [cyc_nat hi, cyc_nat b] at this
theorem fine_rot (K : List Pt) (s : Int) : fineQ (rotF K s) ↔ fineQ K := by
  rw [fine_cyc, fine_cyc, rot_len]
  have e : cyc (rotF K s) = fun i => cyc K (s + i) := funext (rot_cyc K s)
  rw [e]
  constructor
  · rintro ⟨a, b, h⟩
    refine ⟨a, b, ?_⟩
    have := h.shift (-s)
    simp only [show ∀ i : Int, s + (-s + i) = i from fun i => by omega] at this
    exact this
  · rintro ⟨a, b, h⟩
    exact ⟨a, b, h.shift s⟩
theorem fine_rev (K : List Pt) : fineQ K.reverse ↔ fineQ K := by
  rw [fine_cyc, fine_cyc, List.length_reverse]
  have e : cyc K.reverse = fun i => cyc K (-1 - i) := funext (rev_cyc K)
  rw [e]
  constructor
  · rintro ⟨a, b, h⟩
    refine ⟨a, b, ?_⟩
    have := h.flip (by omega)
    simp only [show ∀ i : Int, -1 - (-1 - i) = i from fun i => by omega] at this
    exact this
  · rintro ⟨a, b, h⟩
    exact ⟨a, b, h.flip (by omega)⟩
end

section
set_option linter.unusedVariables false
set_option linter.unusedSimpArgs false
open Go.RowKit

def cmpC (p q : Pt) : Int := cmpF p.1 p.2 q.1 q.2
theorem cmpC_zero {p q : Pt} : cmpC p q = 0 ↔ p = q := by
  unfold cmpC cmpF
  constructor
  · intro h
    split at h
    · omega
    · split at h
      · exact Prod.ext (by omega) (by omega)
      · omega
  · rintro rfl; simp
theorem cmpC_neg (p q : Pt) : cmpC q p = - cmpC p q := by
  unfold cmpC cmpF; repeat' split
  all_goals omega
theorem cmpC_cases (p q : Pt) : cmpC p q = -1 ∨ cmpC p q = 0 ∨ cmpC p q = 1 := by
  unfold cmpC cmpF; repeat' split
  all_goals omega
theorem cmpC_trans {p q r : Pt} (h1 : cmpC p q ≤ 0) (h2 : cmpC q r ≤ 0) : cmpC p r ≤ 0 := by
  unfold cmpC cmpF at *; repeat' split
  all_goals (repeat' split at h1) <;> (repeat' split at h2) <;> omega
/-- The place of the least point, of the first k ones. -/
def leastN (K : List Pt) : Nat → Nat
  | 0 => 0
  | k + 1 => if cmpC (K.getD k (0, 0)) (K.getD (leastN K k) (0, 0)) < 0 then k else leastN K k
def leastF (K : List Pt) : Nat := leastN K K.length
theorem least_lt {K : List Pt} : ∀ k, leastN K k < k ∨ (k = 0 ∧ leastN K k = 0)
  | 0 => .inr ⟨rfl, rfl⟩
  | k + 1 => by
    unfold leastN
    left
    split
    · omega
    · rcases least_lt (K := K) k with h | h <;> omega
theorem least_le {K : List Pt} : ∀ k i, i < k → cmpC (K.getD (leastN K k) (0, 0)) (K.getD i (0, 0)) ≤ 0
  | 0, i, h => by omega
  | k + 1, i, h => by
    unfold leastN
    by_cases hik : i = k
    · subst hik
      split
      · rw [cmpC_zero.2 rfl]; decide
      · rw [cmpC_neg]; omega
    · have := least_le (K := K) k i (by omega)
      split
      · exact cmpC_trans (by omega) this
      · exact this
theorem least_in {K : List Pt} (hn : 0 < K.length) : leastF K < K.length := by
  rcases least_lt (K := K) K.length with h | h
  · exact h
  · omega
/-- i is the place of a least point, round. -/
def LeastC (K : List Pt) (i : Int) : Prop := ∀ j, cmpC (cyc K i) (cyc K j) ≤ 0
theorem least_c {K : List Pt} (hn : 0 < K.length) : LeastC K (leastF K : Nat) := by
  intro j
  obtain ⟨k, hk, e, _⟩ := cyc_at hn j
  rw [e, cyc_nat (least_in hn)]
  exact least_le _ _ hk
theorem least_one {K : List Pt} (h : fineQ K) {i j : Int} (hi : LeastC K i) (hj : LeastC K j) : i % (K.length : Int) = j % (K.length : Int) := by
  have h1 := hi j
  have h2 := hj i
  rw [cmpC_neg] at h2
  exact (fine_cyc.1 h).2.2.one _ _ (cmpC_zero.1 (by omega))
theorem leastC_rot {K : List Pt} {s i : Int} : LeastC (rotF K s) i ↔ LeastC K (s + i) := by
  unfold LeastC
  constructor
  · intro h j
    have := h (j - s)
    rwa [rot_cyc, rot_cyc, show s + (j - s) = j by omega] at this
  · intro h j
    rw [rot_cyc, rot_cyc]
    exact h _
theorem leastC_rev {K : List Pt} {i : Int} : LeastC K.reverse i ↔ LeastC K (-1 - i) := by
  unfold LeastC
  constructor
  · intro h j
    have := h (-1 - j)
    rwa [rev_cyc, rev_cyc, show -1 - (-1 - j) = j by omega] at this
  · intro h j
    rw [rev_cyc, rev_cyc]
    exact h _
/-- The turn at a place. -/
def turnAt (K : List Pt) (i : Int) : Int := turnC (cyc K (i - 1)) (cyc K i) (cyc K (i + 1))
theorem turnAt_mod {K : List Pt} {i j : Int} (h : i % (K.length : Int) = j % (K.length : Int)) : turnAt K i = turnAt K j := by
  unfold turnAt
  rw [cyc_mod h, cyc_mod (i := i - 1) (j := j - 1) (by rw [Int.sub_emod, h, ← Int.sub_emod]), cyc_mod (i := i + 1) (j := j + 1) (by rw [Int.add_emod, h, ← Int.add_emod])]
open Classical in
/-- The way round; 0 of no ring. -/
noncomputable def signF (K : List Pt) : Int := if fineQ K then turnAt K (leastF K : Nat) else 0
theorem sign_not {K : List Pt} (h : ¬ fineQ K) : signF K = 0 := by unfold signF; rw [if_neg h]
theorem sign_eq {K : List Pt} (h : fineQ K) {i : Int} (hi : LeastC K i) : signF K = turnAt K i := by
  unfold signF
  rw [if_pos h]
  exact turnAt_mod (least_one h (least_c (by have := h.few; omega)) hi)
theorem sign_rot (K : List Pt) (s : Int) : signF (rotF K s) = signF K := by
  by_cases h : fineQ K
  · have hl := least_c (K := K) (by have := h.few; omega)
    have hl2 : LeastC (rotF K s) ((leastF K : Nat) - s) := leastC_rot.2 (by rwa [show s + ((leastF K : Nat) - s : Int) = (leastF K : Nat) by omega])
    rw [sign_eq ((fine_rot K s).2 h) hl2, sign_eq h hl]
    unfold turnAt
    rw [rot_cyc, rot_cyc, rot_cyc]
    congr 2 <;> omega
  · rw [sign_not h, sign_not (fun k => h ((fine_rot K s).1 k))]
theorem sign_rev (K : List Pt) : signF K.reverse = - signF K := by
  by_cases h : fineQ K
  · have hl := least_c (K := K) (by have := h.few; omega)
    have hl2 : LeastC K.reverse (-1 - (leastF K : Nat)) := leastC_rev.2 (by rwa [show (-1 - (-1 - (leastF K : Nat)) : Int) = (leastF K : Nat) by omega])
    rw [sign_eq ((fine_rev K).2 h) hl2, sign_eq h hl]
    unfold turnAt
    rw [rev_cyc, rev_cyc, rev_cyc, ← turnC_swap]
    congr 2 <;> omega
  · rw [sign_not h, sign_not (fun k => h ((fine_rev K).1 k))]; rfl
theorem sgn_three (z : Int) : sgn z = 1 ∨ sgn z = -1 ∨ (sgn z = 0 ∧ z = 0) := by
  rcases sgn_cases z with ⟨a, b⟩ | ⟨a, b⟩ | ⟨a, b⟩
  · exact .inl b
  · exact .inr (.inr ⟨b, a⟩)
  · exact .inr (.inl b)
theorem btw_least {n a b : Int} (h : btw n a b) (h1 : n ≤ a) (h2 : n ≤ b) : n = a ∨ n = b := by unfold btw at h; omega
theorem sign_one {K : List Pt} (h : fineQ K) : signF K = 1 ∨ signF K = -1 := by
  have hn : 0 < K.length := by have := h.few; omega
  have hl := least_c (K := K) hn
  obtain ⟨f1, f2, hc⟩ := fine_cyc.1 h
  rw [sign_eq h hl]
  unfold turnAt
  generalize ((leastF K : Nat) : Int) = m at *
  have b := hc.back m
  have o1 := hc.ok (m - 1)
  have o2 := hc.ok m
  have o3 := hc.ok (m + 1)
  have l1 := hl (m - 1)
  have l2 := hl (m + 1)
  have n1 : cyc K (m - 1) ≠ cyc K m := by
    intro e
    have := hc.one _ _ e
    have k : (m - 1 - m) % (K.length : Int) = 0 := by rw [Int.sub_emod, this, Int.sub_self]; simp
    rw [show m - 1 - m = (K.length : Int) - 1 - (K.length : Int) by omega, Int.sub_emod_right, Int.emod_eq_of_lt (by omega) (by omega)] at k
    omega
  have n2 : cyc K (m + 1) ≠ cyc K m := by
    intro e
    have := hc.one _ _ e
    have k : (m + 1 - m) % (K.length : Int) = 0 := by rw [Int.sub_emod, this, Int.sub_self]; simp
    rw [show m + 1 - m = 1 by omega, Int.emod_eq_of_lt (by omega) (by omega)] at k
    omega
  have n3 : cyc K (m + 1) ≠ cyc K (m - 1) := by
    intro e
    have := hc.one _ _ e
    have k : (m + 1 - (m - 1)) % (K.length : Int) = 0 := by rw [Int.sub_emod, this, Int.sub_self]; simp
    rw [show m + 1 - (m - 1) = 2 by omega, Int.emod_eq_of_lt (by omega) (by omega)] at k
    omega
  unfold backC at b
  rw [turnC_eq o1 o2 o3] at b ⊢
  rcases sgn_three (detQ (cyc K (m - 1)) (cyc K m) (cyc K (m + 1))) with e | e | ⟨e, e0⟩
  · exact .inl e
  · exact .inr e
  · exfalso
    rw [e] at b
    simp at b
    unfold onC onB at b
    simp only [Bool.and_eq_true, decide_eq_true_eq] at b
    obtain ⟨_, h1, h2, h3⟩ := b
    generalize cyc K (m - 1) = p at *
    generalize cyc K m = q at *
    generalize cyc K (m + 1) = r at *
    obtain ⟨px, py⟩ := p
    obtain ⟨qx, qy⟩ := q
    obtain ⟨rx, ry⟩ := r
    unfold cmpC cmpF at l1 l2
    simp only at *
    have l1' : qy < py ∨ (qy = py ∧ qx ≤ px) := by
      split at l1
      · omega
      · split at l1
        · omega
        · omega
    have l2' : qy < ry ∨ (qy = ry ∧ qx ≤ rx) := by
      split at l2
      · omega
      · split at l2
        · omega
        · omega
    have n1' : px ≠ qx ∨ py ≠ qy := by
      by_cases k1 : px = qx
      · exact .inr fun k2 => n1 (by rw [k1, k2])
      · exact .inl k1
    have n2' : rx ≠ qx ∨ ry ≠ qy := by
      by_cases k1 : rx = qx
      · exact .inr fun k2 => n2 (by rw [k1, k2])
      · exact .inl k1
    unfold detP at h1
    have hy := btw_least h3 (by omega) (by omega)
    rcases hy with hy | hy
    · have hd : (qx - px) * (ry - qy) = 0 := by rw [hy]; rw [hy] at h1; grind
      rcases Int.mul_eq_zero.1 hd with k | k
      · omega
      · unfold btw at h2
        omega
    · have hd : (qy - py) * (qx - rx) = 0 := by rw [hy]; rw [hy] at h1; grind
      rcases Int.mul_eq_zero.1 hd with k | k
      · unfold btw at h2; omega
      · omega

open Classical in
/-- The normal ring; none of no ring. -/
noncomputable def normF (K : List Pt) : List Pt :=
  if fineQ K then (if signF K < 0 then rotF K.reverse (leastF K.reverse : Nat) else rotF K (leastF K : Nat)) else []
theorem norm_not {K : List Pt} (h : ¬ fineQ K) : normF K = [] := by unfold normF; rw [if_neg h]
/-- What a normal ring of K is. -/
structure IsNorm (K N : List Pt) : Prop where
  of : ∃ s, N = rotF K s ∨ N = rotF K.reverse s
  left : signF N = 1
  first : LeastC N 0
theorem norm_is {K : List Pt} (h : fineQ K) : IsNorm K (normF K) := by
  have hn : 0 < K.length := by have := h.few; omega
  unfold normF
  rw [if_pos h]
  by_cases hs : signF K < 0
  · rw [if_pos hs]
    refine ⟨⟨_, .inr rfl⟩, ?_, ?_⟩
    · rw [sign_rot, sign_rev]
      rcases sign_one h with e | e <;> omega
    · rw [leastC_rot]
      have := least_c (K := K.reverse) (by simpa using hn)
      rwa [Int.add_zero]
  · rw [if_neg hs]
    refine ⟨⟨_, .inl rfl⟩, ?_, ?_⟩
    · rw [sign_rot]
      rcases sign_one h with e | e <;> omega
    · rw [leastC_rot]
      have := least_c (K := K) hn
      rwa [Int.add_zero]
theorem norm_len {K N : List Pt} (h : IsNorm K N) : N.length = K.length := by
  obtain ⟨s, rfl | rfl⟩ := h.of
  · exact rot_len _ _
  · rw [rot_len, List.length_reverse]
theorem norm_fine {K N : List Pt} (hk : fineQ K) (h : IsNorm K N) : fineQ N := by
  obtain ⟨s, rfl | rfl⟩ := h.of
  · exact (fine_rot _ _).2 hk
  · exact (fine_rot _ _).2 ((fine_rev _).2 hk)
theorem rot_same {K : List Pt} (h : fineQ K) {s t : Int} (hs : LeastC (rotF K s) 0) (ht : LeastC (rotF K t) 0) : rotF K s = rotF K t := by
  rw [leastC_rot, Int.add_zero] at hs ht
  exact rot_mod (least_one h hs ht)
theorem norm_one {K N M : List Pt} (hk : fineQ K) (h1 : IsNorm K N) (h2 : IsNorm K M) : N = M := by
  obtain ⟨s, rfl | rfl⟩ := h1.of <;> obtain ⟨t, rfl | rfl⟩ := h2.of
  · exact rot_same hk h1.first h2.first
  · have a := h1.left
    have b := h2.left
    rw [sign_rot] at a b
    rw [sign_rev] at b
    omega
  · have a := h1.left
    have b := h2.left
    rw [sign_rot] at a b
    rw [sign_rev] at a
    omega
  · exact rot_same ((fine_rev K).2 hk) h1.first h2.first
theorem norm_eq {K N : List Pt} (hk : fineQ K) (h : IsNorm K N) : normF K = N := norm_one hk (norm_is hk) h
theorem isNorm_rot {K N : List Pt} {s : Int} (h : IsNorm (rotF K s) N) : IsNorm K N := by
  refine ⟨?_, h.left, h.first⟩
  obtain ⟨t, rfl | rfl⟩ := h.of
  · exact ⟨_, .inl (rot_rot K s t)⟩
  · exact ⟨_, .inr (by rw [rev_rot, rot_rot])⟩
theorem isNorm_rev {K N : List Pt} (h : IsNorm K.reverse N) : IsNorm K N := by
  refine ⟨?_, h.left, h.first⟩
  obtain ⟨t, rfl | rfl⟩ := h.of
  · exact ⟨_, .inr rfl⟩
  · exact ⟨_, .inl (by rw [List.reverse_reverse])⟩
theorem norm_rot (K : List Pt) (s : Int) : normF (rotF K s) = normF K := by
  by_cases h : fineQ K
  · exact (norm_eq h (isNorm_rot (norm_is ((fine_rot K s).2 h)))).symm
  · rw [norm_not h, norm_not (fun k => h ((fine_rot K s).1 k))]
theorem norm_rev (K : List Pt) : normF K.reverse = normF K := by
  by_cases h : fineQ K
  · exact (norm_eq h (isNorm_rev (norm_is ((fine_rev K).2 h)))).symm
  · rw [norm_not h, norm_not (fun k => h ((fine_rev K).1 k))]
theorem norm_norm (K : List Pt) : normF (normF K) = normF K := by
  by_cases h : fineQ K
  · obtain ⟨s, e | e⟩ := (norm_is h).of
    · rw [e, norm_rot, e]
    · rw [e, norm_rot, norm_rev, e]
  · rw [norm_not h]; exact norm_not (fun k => absurd k.few (by decide))

/-- The same ring. -/
def SameF (a b : List Pt) : Prop := fineQ a ∧ fineQ b ∧ ∃ s, a = rotF b s ∨ a = rotF b.reverse s
theorem same_norm {a b : List Pt} : SameF a b ↔ fineQ a ∧ fineQ b ∧ normF a = normF b := by
  constructor
  · rintro ⟨ha, hb, s, rfl | rfl⟩
    · exact ⟨ha, hb, norm_rot _ _⟩
    · exact ⟨ha, hb, by rw [norm_rot, norm_rev]⟩
  · rintro ⟨ha, hb, e⟩
    refine ⟨ha, hb, ?_⟩
    obtain ⟨s, h1⟩ := (norm_is ha).of
    obtain ⟨t, h2⟩ := (norm_is hb).of
    rw [e] at h1
    have back : ∀ (x y : List Pt) (p q : Int), rotF x p = rotF y q → x = rotF y (q - p) := by
      intro x y p q k
      have := congrArg (fun z => rotF z (-p)) k
      simp only [rot_rot] at this
      rw [show p + -p = 0 by omega, rot_zero] at this
      rw [this, Int.sub_eq_add_neg]
    rcases h1 with h1 | h1 <;> rcases h2 with h2 | h2
    · exact ⟨_, .inl (back _ _ _ _ (h1.symm.trans h2))⟩
    · exact ⟨_, .inr (back _ _ _ _ (h1.symm.trans h2))⟩
    · have := back _ _ _ _ (h1.symm.trans h2)
      exact ⟨_, .inr (by rw [← List.reverse_reverse a, this, rev_rot])⟩
    · have := back _ _ _ _ (h1.symm.trans h2)
      exact ⟨_, .inl (by rw [← List.reverse_reverse a, this, rev_rot, List.reverse_reverse])⟩
theorem same_self {a : List Pt} (h : fineQ a) : SameF a a := ⟨h, h, 0, .inl (rot_zero a).symm⟩
theorem same_comm {a b : List Pt} : SameF a b ↔ SameF b a := by
  rw [same_norm, same_norm]
  exact ⟨fun ⟨x, y, z⟩ => ⟨y, x, z.symm⟩, fun ⟨x, y, z⟩ => ⟨y, x, z.symm⟩⟩
/-- Of a ring that may be neighbours' edges touch, no others meet. -/
theorem edge_next {K : List Pt} (h : fineQ K) (i : Int) : meetQ (cyc K (i - 1)) (cyc K i) (cyc K i) (cyc K (i + 1)) = 1 := by
  obtain ⟨f1, f2, hc⟩ := fine_cyc.1 h
  have b := hc.back i
  have o1 := hc.ok (i - 1)
  have o2 := hc.ok i
  have o3 := hc.ok (i + 1)
  have n1 : cyc K (i - 1) ≠ cyc K i := by
    intro e
    have := hc.one _ _ e
    have k : (i - 1 - i) % (K.length : Int) = 0 := by rw [Int.sub_emod, this, Int.sub_self]; simp
    rw [show i - 1 - i = (K.length : Int) - 1 - (K.length : Int) by omega, Int.sub_emod_right, Int.emod_eq_of_lt (by omega) (by omega)] at k
    omega
  have n2 : cyc K i ≠ cyc K (i + 1) := by
    intro e
    have := hc.one _ _ e
    have k : (i - (i + 1)) % (K.length : Int) = 0 := by rw [Int.sub_emod, this, Int.sub_self]; simp
    rw [show i - (i + 1) = (K.length : Int) - 1 - (K.length : Int) by omega, Int.sub_emod_right, Int.emod_eq_of_lt (by omega) (by omega)] at k
    omega
  unfold okC at o1 o2 o3
  generalize cyc K (i - 1) = p at *
  generalize cyc K i = q at *
  generalize cyc K (i + 1) = r at *
  have m1 : mayQ p q = true := by unfold mayQ; rw [o1, o2]; simp [n1]
  have m2 : mayQ q r = true := by unfold mayQ; rw [o2, o3]; simp [n2]
  unfold meetQ
  rw [m1, m2]
  simp only [Bool.and_self, if_true]
  unfold backC at b
  rw [turnC_eq o1 o2 o3, Bool.and_eq_false_iff] at b
  have hon : detQ p q r ≠ 0 ∨ onQ q p r := by
    rcases b with b | b
    · left
      intro e
      rw [decide_eq_false_iff_not, e] at b
      exact b rfl
    · right
      unfold onC onB at b
      rw [o1, o2, o3] at b
      simpa [onQ] using b
  rcases hon with hd | hd
  · have hcnt : cntQ p q q r = 1 := by
      unfold cntQ
      rw [ind_zero (P := onQ p q r) (fun k => hd (by have := onQ_det k; rw [detQ_round] at this; exact this)), ind_one (P := onQ q q r) onQ_left, ind_zero (P := onQ q p q ∧ ¬ q = p ∧ ¬ q = q) (fun k => k.2.2 rfl), ind_zero (P := onQ r p q ∧ ¬ r = p ∧ ¬ r = q) (fun k => hd (onQ_det k.1))]
    unfold howQ
    rw [hcnt]; rfl
  · by_cases hpr : p = r
    · subst hpr
      exfalso
      have := hd
      unfold onQ onF btw at this
      exact n1 (Prod.ext (by omega) (by omega))
    · exact how_parts hd (Ne.symm n1) n2
theorem edge_far {K : List Pt} (h : fineQ K) {i j : Int} (hf : farC (K.length : Int) i j) : meetQ (cyc K i) (cyc K (i + 1)) (cyc K j) (cyc K (j + 1)) = 0 := (fine_cyc.1 h).2.2.meet i j hf
end
end Go.Proofs.Ytnpkhhchbahcpaa

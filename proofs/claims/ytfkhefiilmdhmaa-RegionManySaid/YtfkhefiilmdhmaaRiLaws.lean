/- Rings: mathematics: the ring of a box with points on its sides, and the crossed one. The law RingNormals: the walk. The law RingSames: the walk. The law RingEdges: the walk. The law RingChecks: the walk. The law RingLong: the walk. The law RingTurns: the walk. The law RingBoxes: the walk. -/
import Derived.Test.YtfkhefiilmdhmaaRiMath
import Derived.Test.YtfkhefiilmdhmaaRgLaw
import Derived.Test.YtfkhefiilmdhmaaPick
namespace Go.Proofs.Ytfkhefiilmdhmaa
section
set_option linter.unusedVariables false
set_option linter.unusedSimpArgs false
open Go.RowKit

/-- Points from c on, a step d each. -/
def sideL (c d : Pt) (k : Nat) : List Pt := (List.range k).map (fun j : Nat => (c.1 + (j : Int) * d.1, c.2 + (j : Int) * d.2))
theorem side_len (c d : Pt) (k : Nat) : (sideL c d k).length = k := by simp [sideL]
theorem side_get {c d : Pt} {k j : Nat} (h : j < k) : (sideL c d k).getD j (0, 0) = (c.1 + (j : Int) * d.1, c.2 + (j : Int) * d.2) := by
  unfold sideL
  rw [List.getD_eq_getElem?_getD, List.getElem?_map, List.getElem?_range h]; rfl
theorem side_next (c d : Pt) (k : Nat) : sideL c d (k + 1) = sideL c d k ++ [(c.1 + (k : Int) * d.1, c.2 + (k : Int) * d.2)] := by
  unfold sideL; rw [List.range_succ, List.map_append]; rfl
def boxL (x y s : Int) (m0 m1 m2 m3 : Nat) : List Pt :=
  ((sideL (x, y) (1, 0) (m0 + 1) ++ sideL (x + s, y) (0, 1) (m1 + 1)) ++ sideL (x + s, y + s) (-1, 0) (m2 + 1)) ++ sideL (x, y + s) (0, -1) (m3 + 1)
theorem boxL_len (x y s : Int) (m0 m1 m2 m3 : Nat) : (boxL x y s m0 m1 m2 m3).length = m0 + m1 + m2 + m3 + 4 := by
  unfold boxL; simp only [List.length_append, side_len]; omega
theorem getD_left {A B : List Pt} {i : Nat} (h : i < A.length) : (A ++ B).getD i (0, 0) = A.getD i (0, 0) := by
  rw [List.getD_eq_getElem?_getD, List.getD_eq_getElem?_getD, List.getElem?_append_left h]
theorem getD_right {A B : List Pt} {i : Nat} (h : A.length ≤ i) : (A ++ B).getD i (0, 0) = B.getD (i - A.length) (0, 0) := by
  rw [List.getD_eq_getElem?_getD, List.getD_eq_getElem?_getD, List.getElem?_append_right h]
variable {x y s : Int} {m0 m1 m2 m3 : Nat}
theorem box_0 {i : Nat} (h : i ≤ m0) : (boxL x y s m0 m1 m2 m3).getD i (0, 0) = (x + (i : Int), y) := by
  unfold boxL
  rw [getD_left (by simp only [List.length_append, side_len]; omega), getD_left (by simp only [List.length_append, side_len]; omega), getD_left (by rw [side_len]; omega), side_get (by omega)]
  simp
theorem box_1 {i : Nat} (h : i ≤ m1) : (boxL x y s m0 m1 m2 m3).getD (m0 + 1 + i) (0, 0) = (x + s, y + (i : Int)) := by
  unfold boxL
  rw [getD_left (by simp only [List.length_append, side_len]; omega), getD_left (by simp only [List.length_append, side_len]; omega), getD_right (by rw [side_len]; omega), side_len, show m0 + 1 + i - (m0 + 1) = i by omega, side_get (by omega)]
  simp
theorem box_2 {i : Nat} (h : i ≤ m2) : (boxL x y s m0 m1 m2 m3).getD (m0 + 1 + (m1 + 1) + i) (0, 0) = (x + s - (i : Int), y + s) := by
  unfold boxL
  rw [getD_left (by simp only [List.length_append, side_len]; omega), getD_right (by simp only [List.length_append, side_len]; omega), List.length_append, side_len, side_len, show m0 + 1 + (m1 + 1) + i - (m0 + 1 + (m1 + 1)) = i by omega, side_get (by omega)]
  simp only [Int.mul_neg, Int.mul_one, Int.mul_zero, Int.add_zero]
  rw [Int.sub_eq_add_neg]
theorem box_3 {i : Nat} (h : i ≤ m3) : (boxL x y s m0 m1 m2 m3).getD (m0 + 1 + (m1 + 1) + (m2 + 1) + i) (0, 0) = (x, y + s - (i : Int)) := by
  unfold boxL
  rw [getD_right (by simp only [List.length_append, side_len]; omega), List.length_append, List.length_append, side_len, side_len, side_len, show m0 + 1 + (m1 + 1) + (m2 + 1) + i - (m0 + 1 + (m1 + 1) + (m2 + 1)) = i by omega, side_get (by omega)]
  simp only [Int.mul_neg, Int.mul_one, Int.mul_zero, Int.add_zero]
  rw [Int.sub_eq_add_neg]
/-- The edges of the ring of a box: on which side, from where to where. -/
inductive Edge (x y s : Int) (m0 m1 m2 m3 : Nat) (i : Nat) (p q : Pt) : Prop
  | e0 (u v : Int) (hu : u = (i : Int)) (hi : i ≤ m0) (hv : (v = u + 1 ∧ i < m0) ∨ (v = s ∧ i = m0)) (hp : p = (x + u, y)) (hq : q = (x + v, y))
  | e1 (u v : Int) (hu : u + (m0 + 1 : Nat) = (i : Int)) (hu0 : 0 ≤ u) (hi : i ≤ m0 + 1 + m1) (hv : (v = u + 1 ∧ i < m0 + 1 + m1) ∨ (v = s ∧ i = m0 + 1 + m1)) (hp : p = (x + s, y + u)) (hq : q = (x + s, y + v))
  | e2 (u v : Int) (hu : u + (m0 + 1 + (m1 + 1) : Nat) = (i : Int)) (hu0 : 0 ≤ u) (hi : i ≤ m0 + 1 + (m1 + 1) + m2) (hv : (v = u + 1 ∧ i < m0 + 1 + (m1 + 1) + m2) ∨ (v = s ∧ i = m0 + 1 + (m1 + 1) + m2)) (hp : p = (x + s - u, y + s)) (hq : q = (x + s - v, y + s))
  | e3 (u v : Int) (hu : u + (m0 + 1 + (m1 + 1) + (m2 + 1) : Nat) = (i : Int)) (hu0 : 0 ≤ u) (hi : i ≤ m0 + 1 + (m1 + 1) + (m2 + 1) + m3) (hv : (v = u + 1 ∧ i < m0 + 1 + (m1 + 1) + (m2 + 1) + m3) ∨ (v = s ∧ i = m0 + 1 + (m1 + 1) + (m2 + 1) + m3)) (hp : p = (x, y + s - u)) (hq : q = (x, y + s - v))
theorem edge_at {i : Nat} (h : i < m0 + m1 + m2 + m3 + 4) : Edge x y s m0 m1 m2 m3 i ((boxL x y s m0 m1 m2 m3).getD i (0, 0)) (cyc (boxL x y s m0 m1 m2 m3) ((i : Int) + 1)) := by
  have nx : ∀ k : Nat, k < m0 + m1 + m2 + m3 + 4 → k = i + 1 → cyc (boxL x y s m0 m1 m2 m3) ((i : Int) + 1) = (boxL x y s m0 m1 m2 m3).getD k (0, 0) := by
    intro k hk e
    rw [show (i : Int) + 1 = (k : Int) by omega, cyc_nat (by rw [boxL_len]; exact hk)]
  by_cases h0 : i ≤ m0
  · refine .e0 i (if i < m0 then (i : Int) + 1 else s) rfl h0 (by split <;> omega) (box_0 h0) ?_
    by_cases k : i < m0
    · rw [if_pos k, nx (i + 1) (by omega) rfl, box_0 (by omega)]; rfl
    · rw [if_neg k, nx (m0 + 1 + 0) (by omega) (by omega), box_1 (by omega)]; simp
  by_cases h1 : i ≤ m0 + 1 + m1
  · obtain ⟨j, rfl⟩ : ∃ j, i = m0 + 1 + j := ⟨i - (m0 + 1), by omega⟩
    refine .e1 j (if j < m1 then (j : Int) + 1 else s) (by omega) (by omega) h1 (by split <;> omega) (box_1 (by omega)) ?_
    by_cases k : j < m1
    · rw [if_pos k, nx (m0 + 1 + (j + 1)) (by omega) (by omega), box_1 (by omega)]; rfl
    · rw [if_neg k, nx (m0 + 1 + (m1 + 1) + 0) (by omega) (by omega), box_2 (by omega)]; simp
  by_cases h2 : i ≤ m0 + 1 + (m1 + 1) + m2
  · obtain ⟨j, rfl⟩ : ∃ j, i = m0 + 1 + (m1 + 1) + j := ⟨i - (m0 + 1 + (m1 + 1)), by omega⟩
    refine .e2 j (if j < m2 then (j : Int) + 1 else s) (by omega) (by omega) h2 (by split <;> omega) (box_2 (by omega)) ?_
    by_cases k : j < m2
    · rw [if_pos k, nx (m0 + 1 + (m1 + 1) + (j + 1)) (by omega) (by omega), box_2 (by omega)]; rfl
    · rw [if_neg k, nx (m0 + 1 + (m1 + 1) + (m2 + 1) + 0) (by omega) (by omega), box_3 (by omega)]
      refine Prod.ext ?_ ?_ <;> simp only <;> omega
  · obtain ⟨j, rfl⟩ : ∃ j, i = m0 + 1 + (m1 + 1) + (m2 + 1) + j := ⟨i - (m0 + 1 + (m1 + 1) + (m2 + 1)), by omega⟩
    refine .e3 j (if j < m3 then (j : Int) + 1 else s) (by omega) (by omega) (by omega) (by split <;> omega) (box_3 (by omega)) ?_
    by_cases k : j < m3
    · rw [if_pos k, nx (m0 + 1 + (m1 + 1) + (m2 + 1) + (j + 1)) (by omega) (by omega), box_3 (by omega)]; rfl
    · have e : cyc (boxL x y s m0 m1 m2 m3) (((m0 + 1 + (m1 + 1) + (m2 + 1) + j : Nat) : Int) + 1) = cyc (boxL x y s m0 m1 m2 m3) ((0 : Nat) : Int) := by
        have := cyc_add (boxL x y s m0 m1 m2 m3) ((0 : Nat) : Int)
        rw [boxL_len] at this
        rw [← this]
        congr 1; omega
      rw [if_neg k, e, cyc_nat (by rw [boxL_len]; omega), box_0 (by omega)]
      refine Prod.ext ?_ ?_ <;> simp only <;> omega
theorem box_ok (hs : 12 ≤ s) (h0 : m0 ≤ 10) (h1 : m1 ≤ 10) (h2 : m2 ≤ 10) (h3 : m3 ≤ 10) (hlo : okC (x, y) = true) (hhi : okC (x + s, y + s) = true) {i : Nat} {p q : Pt} (h : Edge x y s m0 m1 m2 m3 i p q) : okC p = true ∧ okC q = true := by
  unfold okC at *
  rw [okP_iff] at *
  simp only at hlo hhi
  rw [okP_iff]
  cases h with
  | e0 u v hu hi hv hp hq => subst hp hq; simp only; omega
  | e1 u v hu hu0 hi hv hp hq => subst hp hq; simp only; omega
  | e2 u v hu hu0 hi hv hp hq => subst hp hq; simp only; omega
  | e3 u v hu hu0 hi hv hp hq => subst hp hq; simp only; omega
theorem box_once (hs : 12 ≤ s) (h0 : m0 ≤ 10) (h1 : m1 ≤ 10) (h2 : m2 ≤ 10) (h3 : m3 ≤ 10) {i j : Nat} {p q a b : Pt} (hij : j < i) (h : Edge x y s m0 m1 m2 m3 i p q) (k : Edge x y s m0 m1 m2 m3 j a b) : a ≠ p := by
  intro e
  rcases h with ⟨u, v, hu, hi, hv, rfl, rfl⟩ | ⟨u, v, hu, hu0, hi, hv, rfl, rfl⟩ | ⟨u, v, hu, hu0, hi, hv, rfl, rfl⟩ | ⟨u, v, hu, hu0, hi, hv, rfl, rfl⟩ <;> rcases k with ⟨u', v', hu', hi', hv', rfl, rfl⟩ | ⟨u', v', hu', hu0', hi', hv', rfl, rfl⟩ | ⟨u', v', hu', hu0', hi', hv', rfl, rfl⟩ | ⟨u', v', hu', hu0', hi', hv', rfl, rfl⟩ <;> injection e with e1 e2 <;> omega
/-- Edges that are no neighbours lie in boxes apart. -/
theorem box_apart (hs : 12 ≤ s) (h0 : m0 ≤ 10) (h1 : m1 ≤ 10) (h2 : m2 ≤ 10) (h3 : m3 ≤ 10) {i j : Nat} {p q a b : Pt} (hij : i + 2 ≤ j) (hx : ¬ (i = 0 ∧ j = m0 + m1 + m2 + m3 + 3)) (h : Edge x y s m0 m1 m2 m3 i p q) (k : Edge x y s m0 m1 m2 m3 j a b) :
    ¬ ((min a.1 b.1 ≤ max p.1 q.1 ∧ min p.1 q.1 ≤ max a.1 b.1) ∧ (min a.2 b.2 ≤ max p.2 q.2 ∧ min p.2 q.2 ≤ max a.2 b.2)) := by
  cases h <;> cases k <;> subst_vars <;> simp only <;> omega
theorem straight {p q r : Pt} (ha : okC p = true) (hb : okC q = true) (hc : okC r = true) (h : onQ q p r) : backC p q r = false := by
  unfold backC onC onB
  unfold okC at *
  unfold onQ at h
  rw [ha, hb, hc, decide_eq_true h]; simp
theorem left_turn {p q r : Pt} (ha : okC p = true) (hb : okC q = true) (hc : okC r = true) (h : 0 < detQ p q r) : backC p q r = false ∧ turnC p q r = 1 := by
  have e : turnC p q r = 1 := by
    rw [turnC_eq ha hb hc]
    rcases sgn_cases (detQ p q r) with ⟨_, k⟩ | ⟨_, k⟩ | ⟨_, k⟩
    · exact k
    · omega
    · omega
  exact ⟨by unfold backC; rw [e]; rfl, e⟩
theorem mul_pos' {a b : Int} (ha : 0 < a) (hb : 0 < b) : 0 < a * b := Int.mul_pos ha hb
/-- An edge and the next one: straight on, or to the left. -/
theorem box_bend (hs : 12 ≤ s) (h0 : m0 ≤ 10) (h1 : m1 ≤ 10) (h2 : m2 ≤ 10) (h3 : m3 ≤ 10) {i j : Nat} {p q r : Pt} (hij : j = i + 1 ∨ (j = 0 ∧ i = m0 + m1 + m2 + m3 + 3)) (h : Edge x y s m0 m1 m2 m3 i p q) (k : Edge x y s m0 m1 m2 m3 j q r) : onQ q p r ∨ 0 < detQ p q r := by
  have on (a b c d e f : Int) (h1 : (a = c ∧ c = e) ∨ (b = d ∧ d = f)) (h2 : btw c a e) (h3 : btw d b f) : onQ (c, d) (a, b) (e, f) := by
    refine ⟨?_, h2, h3⟩
    unfold detP
    simp only
    rcases h1 with ⟨rfl, rfl⟩ | ⟨rfl, rfl⟩ <;> simp
  cases h with
  | e0 u v hu hi hv hp hq =>
    cases k with
    | e0 u' v' hu' hi' hv' hp' hq' => left; subst hp hq hq'; exact on _ _ _ _ _ _ (.inr ⟨rfl, rfl⟩) (by unfold btw; omega) (by unfold btw; omega)
    | e1 u' v' hu' hu0' hi' hv' hp' hq' =>
      right; subst hp hq hq'
      injection hp' with e1 e2
      have : 0 < (v - u) * v' := mul_pos' (by omega) (by omega)
      unfold detQ detP; simp only
      rw [show (x + v - (x + u)) * (y + v' - y) - (y - y) * (x + s - (x + u)) = (v - u) * v' by grind]; exact this
    | e2 u' v' hu' hu0' hi' hv' hp' hq' => exfalso; subst hq; injection hp' with e1 e2; omega
    | e3 u' v' hu' hu0' hi' hv' hp' hq' => exfalso; subst hq; injection hp' with e1 e2; omega
  | e1 u v hu hu0 hi hv hp hq =>
    cases k with
    | e0 u' v' hu' hi' hv' hp' hq' => exfalso; subst hq; injection hp' with e1 e2; omega
    | e1 u' v' hu' hu0' hi' hv' hp' hq' => left; subst hp hq hq'; exact on _ _ _ _ _ _ (.inl ⟨rfl, rfl⟩) (by unfold btw; omega) (by unfold btw; omega)
    | e2 u' v' hu' hu0' hi' hv' hp' hq' =>
      right; subst hp hq hq'
      injection hp' with e1 e2
      have : 0 < (v - u) * v' := mul_pos' (by omega) (by omega)
      unfold detQ detP; simp only
      rw [show (x + s - (x + s)) * (y + s - (y + u)) - (y + v - (y + u)) * (x + s - v' - (x + s)) = (v - u) * v' by grind]; exact this
    | e3 u' v' hu' hu0' hi' hv' hp' hq' => exfalso; subst hq; injection hp' with e1 e2; omega
  | e2 u v hu hu0 hi hv hp hq =>
    cases k with
    | e0 u' v' hu' hi' hv' hp' hq' => exfalso; subst hq; injection hp' with e1 e2; omega
    | e1 u' v' hu' hu0' hi' hv' hp' hq' => exfalso; subst hq; injection hp' with e1 e2; omega
    | e2 u' v' hu' hu0' hi' hv' hp' hq' => left; subst hp hq hq'; exact on _ _ _ _ _ _ (.inr ⟨rfl, rfl⟩) (by unfold btw; omega) (by unfold btw; omega)
    | e3 u' v' hu' hu0' hi' hv' hp' hq' =>
      right; subst hp hq hq'
      injection hp' with e1 e2
      have : 0 < (v - u) * v' := mul_pos' (by omega) (by omega)
      unfold detQ detP; simp only
      rw [show (x + s - v - (x + s - u)) * (y + s - v' - (y + s)) - (y + s - (y + s)) * (x - (x + s - u)) = (v - u) * v' by grind]; exact this
  | e3 u v hu hu0 hi hv hp hq =>
    cases k with
    | e0 u' v' hu' hi' hv' hp' hq' =>
      right; subst hp hq hq'
      injection hp' with e1 e2
      have : 0 < (v - u) * v' := mul_pos' (by omega) (by omega)
      unfold detQ detP; simp only
      rw [show (x - x) * (y - (y + s - u)) - (y + s - v - (y + s - u)) * (x + v' - x) = (v - u) * v' by grind]; exact this
    | e1 u' v' hu' hu0' hi' hv' hp' hq' => exfalso; subst hq; injection hp' with e1 e2; omega
    | e2 u' v' hu' hu0' hi' hv' hp' hq' => exfalso; subst hq; injection hp' with e1 e2; omega
    | e3 u' v' hu' hu0' hi' hv' hp' hq' => left; subst hp hq hq'; exact on _ _ _ _ _ _ (.inl ⟨rfl, rfl⟩) (by unfold btw; omega) (by unfold btw; omega)
theorem meet_apart {a b c d : Pt} (hab : a ≠ b) (hcd : c ≠ d) (h : ¬ ((min c.1 d.1 ≤ max a.1 b.1 ∧ min a.1 b.1 ≤ max c.1 d.1) ∧ (min c.2 d.2 ≤ max a.2 b.2 ∧ min a.2 b.2 ≤ max c.2 d.2))) : meetQ a b c d = 0 := by
  unfold meetQ
  split
  · apply Decidable.byContradiction
    intro k
    exact h (meet_boxes ((how_not hab hcd).1 k))
  · rfl
theorem box_fine (hs : 12 ≤ s) (h0 : m0 ≤ 10) (h1 : m1 ≤ 10) (h2 : m2 ≤ 10) (h3 : m3 ≤ 10) (hlo : okC (x, y) = true) (hhi : okC (x + s, y + s) = true) : fineQ (boxL x y s m0 m1 m2 m3) := by
  have hn := boxL_len x y s m0 m1 m2 m3
  have E : ∀ {i : Nat}, i < m0 + m1 + m2 + m3 + 4 → _ := fun {i} h => edge_at (x := x) (y := y) (s := s) (m0 := m0) (m1 := m1) (m2 := m2) (m3 := m3) (i := i) h
  have P : ∀ i : Nat, i < m0 + m1 + m2 + m3 + 4 → ∃ j : Nat, j < m0 + m1 + m2 + m3 + 4 ∧ (i = j + 1 ∨ (i = 0 ∧ j = m0 + m1 + m2 + m3 + 3)) ∧ cyc (boxL x y s m0 m1 m2 m3) ((i : Int) - 1) = (boxL x y s m0 m1 m2 m3).getD j (0, 0) ∧ cyc (boxL x y s m0 m1 m2 m3) ((j : Int) + 1) = (boxL x y s m0 m1 m2 m3).getD i (0, 0) := by
    intro i hi
    by_cases k : i = 0
    · subst k
      refine ⟨m0 + m1 + m2 + m3 + 3, by omega, .inr ⟨rfl, rfl⟩, ?_, ?_⟩
      · rw [← cyc_nat (by rw [hn]; omega), ← cyc_add, hn]
        congr 1 <;> omega
      · rw [← cyc_nat (by rw [hn]; omega), ← cyc_add _ (((0 : Nat) : Int)), hn]
        congr 1 <;> omega
    · refine ⟨i - 1, by omega, .inl (by omega), ?_, ?_⟩
      · rw [← cyc_nat (by rw [hn]; omega)]; congr 1; omega
      · rw [← cyc_nat (by rw [hn]; omega)]; congr 1; omega
  refine ⟨by omega, by omega, fun i hi => ?_, fun i hi => ?_, fun i hi => ?_, fun i hi => ?_⟩
  · exact (box_ok hs h0 h1 h2 h3 hlo hhi (E (by omega))).1
  · rw [twice_iff hi]
    intro j hj
    exact box_once hs h0 h1 h2 h3 hj (E (by omega)) (E (by omega))
  · obtain ⟨j, hj, hij, e1, e2⟩ := P i (by omega)
    unfold backAt
    have A := E (i := j) hj
    have B := E (i := i) (by omega)
    rw [e2] at A
    rw [e1]
    have o1 := box_ok hs h0 h1 h2 h3 hlo hhi A
    have o2 := box_ok hs h0 h1 h2 h3 hlo hhi B
    rcases box_bend hs h0 h1 h2 h3 hij A B with h | h
    · exact straight o1.1 o1.2 o2.2 h
    · exact (left_turn o1.1 o1.2 o2.2 h).1
  · rw [meets_iff]
    intro k a b c
    have A := E (i := i) (by omega)
    have B := E (i := k) (by omega)
    refine meet_apart ?_ ?_ (box_apart hs h0 h1 h2 h3 a (by omega) A B)
    · intro e
      have : ∀ {i p q}, Edge x y s m0 m1 m2 m3 i p q → p ≠ q := by
        intro i p q h e
        rcases h with ⟨u, v, hu, hi, hv, rfl, rfl⟩ | ⟨u, v, hu, hu0, hi, hv, rfl, rfl⟩ | ⟨u, v, hu, hu0, hi, hv, rfl, rfl⟩ | ⟨u, v, hu, hu0, hi, hv, rfl, rfl⟩ <;> injection e with e1 e2 <;> omega
      exact this A e
    · intro e
      have : ∀ {i p q}, Edge x y s m0 m1 m2 m3 i p q → p ≠ q := by
        intro i p q h e
        rcases h with ⟨u, v, hu, hi, hv, rfl, rfl⟩ | ⟨u, v, hu, hu0, hi, hv, rfl, rfl⟩ | ⟨u, v, hu, hu0, hi, hv, rfl, rfl⟩ | ⟨u, v, hu, hu0, hi, hv, rfl, rfl⟩ <;> injection e with e1 e2 <;> omega
      exact this B e
theorem box_sign (hs : 12 ≤ s) (h0 : m0 ≤ 10) (h1 : m1 ≤ 10) (h2 : m2 ≤ 10) (h3 : m3 ≤ 10) (hlo : okC (x, y) = true) (hhi : okC (x + s, y + s) = true) : signF (boxL x y s m0 m1 m2 m3) = 1 := by
  have hf := box_fine (m0 := m0) (m1 := m1) (m2 := m2) (m3 := m3) hs h0 h1 h2 h3 hlo hhi
  have hn := boxL_len x y s m0 m1 m2 m3
  have E : ∀ {i : Nat}, i < m0 + m1 + m2 + m3 + 4 → _ := fun {i} h => edge_at (x := x) (y := y) (s := s) (m0 := m0) (m1 := m1) (m2 := m2) (m3 := m3) (i := i) h
  have first : cyc (boxL x y s m0 m1 m2 m3) ((0 : Nat) : Int) = (x, y) := by
    rw [cyc_nat (by rw [hn]; omega), box_0 (by omega)]; simp
  have hl : LeastC (boxL x y s m0 m1 m2 m3) ((0 : Nat) : Int) := by
    intro j
    obtain ⟨k, hk, e, _⟩ := cyc_at (K := boxL x y s m0 m1 m2 m3) (by omega) j
    rw [e, first]
    clear e
    have := E (i := k) (by omega)
    generalize (boxL x y s m0 m1 m2 m3).getD k (0, 0) = p at *
    generalize cyc (boxL x y s m0 m1 m2 m3) ((k : Int) + 1) = q at *
    unfold cmpC cmpF
    rcases this with ⟨u, v, hu, hi, hv, rfl, rfl⟩ | ⟨u, v, hu, hu0, hi, hv, rfl, rfl⟩ | ⟨u, v, hu, hu0, hi, hv, rfl, rfl⟩ | ⟨u, v, hu, hu0, hi, hv, rfl, rfl⟩ <;> simp only <;> (repeat' split) <;> (first | omega | (exfalso; simp at *; omega))
  rw [sign_eq hf hl]
  unfold turnAt
  have e1 : cyc (boxL x y s m0 m1 m2 m3) (((0 : Nat) : Int) - 1) = (boxL x y s m0 m1 m2 m3).getD (m0 + m1 + m2 + m3 + 3) (0, 0) := by
    rw [← cyc_nat (by rw [hn]; omega), ← cyc_add _ (((0 : Nat) : Int) - 1), hn]; congr 1 <;> omega
  have A := E (i := m0 + m1 + m2 + m3 + 3) (by omega)
  have B := E (i := 0) (by omega)
  have e2 : cyc (boxL x y s m0 m1 m2 m3) (((m0 + m1 + m2 + m3 + 3 : Nat) : Int) + 1) = cyc (boxL x y s m0 m1 m2 m3) ((0 : Nat) : Int) := by
    rw [← cyc_add _ (((0 : Nat) : Int)), hn]; congr 1 <;> omega
  rw [e2] at A
  rw [← cyc_nat (by rw [hn]; omega)] at B
  rw [e1]
  rw [first] at A B ⊢
  have o1 := box_ok hs h0 h1 h2 h3 hlo hhi A
  have o2 := box_ok hs h0 h1 h2 h3 hlo hhi B
  refine (left_turn o1.1 o1.2 o2.2 ?_).2
  rcases A with ⟨u, v, hu, hi, hv, hp, hq⟩ | ⟨u, v, hu, hu0, hi, hv, hp, hq⟩ | ⟨u, v, hu, hu0, hi, hv, hp, hq⟩ | ⟨u, v, hu, hu0, hi, hv, hp, hq⟩
  · omega
  · omega
  · omega
  rcases B with ⟨u', v', hu', hi', hv', hp', hq'⟩ | ⟨u', v', hu', hu0', hi', hv', hp', hq'⟩ | ⟨u', v', hu', hu0', hi', hv', hp', hq'⟩ | ⟨u', v', hu', hu0', hi', hv', hp', hq'⟩
  · rw [hp, hq']
    have : 0 < (s - u) * v' := mul_pos' (by omega) (by omega)
    unfold detQ detP; simp only
    rw [show (x - x) * (y - (y + s - u)) - (y - (y + s - u)) * (x + v' - x) = (s - u) * v' by grind]; exact this
  · omega
  · omega
  · omega
/-- The crossed box. -/
theorem box_crossed (hs : 0 < s) (hlo : okC (x, y) = true) (hhi : okC (x + s, y + s) = true) : checkF [(x, y), (x + s, y + s), (x + s, y), (x, y + s)] = (193, 0) := by
  have o1 : okC (x + s, y) = true := by unfold okC at *; rw [okP_iff] at *; simp only at *; omega
  have o2 : okC (x, y + s) = true := by unfold okC at *; rw [okP_iff] at *; simp only at *; omega
  have hp : 0 < s * s := Int.mul_pos hs hs
  have T : ∀ {a p b : Pt}, okC a = true → okC p = true → okC b = true → detQ a p b ≠ 0 → backC a p b = false := by
    intro a p b ha hq hb hd
    unfold backC
    rw [turnC_eq ha hq hb]
    rcases sgn_three (detQ a p b) with e | e | ⟨_, e⟩
    · rw [e]; rfl
    · rw [e]; rfl
    · exact absurd e hd
  have d1 : detQ (x, y + s) (x, y) (x + s, y + s) = s * s := by unfold detQ detP; simp only; grind
  have d2 : detQ (x, y) (x + s, y + s) (x + s, y) = - (s * s) := by unfold detQ detP; simp only; grind
  have d3 : detQ (x + s, y + s) (x + s, y) (x, y + s) = - (s * s) := by unfold detQ detP; simp only; grind
  have d4 : detQ (x + s, y) (x, y + s) (x, y) = s * s := by unfold detQ detP; simp only; grind
  have f1 : firstQ (fun i => !okC ([(x, y), (x + s, y + s), (x + s, y), (x, y + s)].getD i (0, 0))) 4 = none := by
    rw [first_none]
    intro i hi
    match i, hi with
    | 0, _ => simp [hlo]
    | 1, _ => simp [hhi]
    | 2, _ => simp [o1]
    | 3, _ => simp [o2]
  have f2 : firstQ (twiceAt [(x, y), (x + s, y + s), (x + s, y), (x, y + s)]) 4 = none := by
    rw [first_none]
    intro i hi
    unfold twiceAt
    rw [decide_eq_false_iff_not]
    match i, hi with
    | 0, _ => simp
    | 1, _ => simp; omega
    | 2, _ => simp; omega
    | 3, _ => simp; omega
  have f3 : firstQ (backAt [(x, y), (x + s, y + s), (x + s, y), (x, y + s)]) 4 = none := by
    rw [first_none]
    intro i hi
    match i, hi with
    | 0, _ =>
      have h := T o2 hlo hhi (by rw [d1]; omega)
      exact h
    | 1, _ =>
      have h := T hlo hhi o1 (by rw [d2]; omega)
      exact h
    | 2, _ =>
      have h := T hhi o1 o2 (by rw [d3]; omega)
      exact h
    | 3, _ =>
      have h := T o1 o2 hlo (by rw [d4]; omega)
      unfold backAt
      rw [show cyc [(x, y), (x + s, y + s), (x + s, y), (x, y + s)] (((3 : Nat) : Int) + 1) = (x, y) by unfold cyc; simp]
      exact h
  have hm : meetQ (x, y) (x + s, y + s) (x + s, y) (x, y + s) = 2 := by
    have m1 : mayQ (x, y) (x + s, y + s) = true := by unfold mayQ; unfold okC at hlo hhi; rw [hlo, hhi]; simp; omega
    have m2 : mayQ (x + s, y) (x, y + s) = true := by unfold mayQ; unfold okC at o1 o2; rw [o1, o2]; simp; omega
    unfold meetQ
    rw [m1, m2]
    refine (how_cross (may_ne m1) (may_ne m2)).2 ?_
    have c1 : detQ (x, y) (x + s, y + s) (x, y + s) = s * s := by unfold detQ detP; simp only; grind
    have c2 : detQ (x + s, y) (x, y + s) (x + s, y + s) = - (s * s) := by unfold detQ detP; simp only; grind
    unfold crossQ oppo
    rw [d2, c1, d4, c2]
    omega
  have f4 : firstQ (meetsAt [(x, y), (x + s, y + s), (x + s, y), (x, y + s)]) 4 = some 0 := by
    have : meetsAt [(x, y), (x + s, y + s), (x + s, y), (x, y + s)] 0 = true := by
      unfold meetsAt
      rw [List.any_eq_true]
      refine ⟨2, by simp, ?_⟩
      unfold meetTwo
      rw [show cyc [(x, y), (x + s, y + s), (x + s, y), (x, y + s)] (((0 : Nat) : Int) + 1) = (x + s, y + s) from rfl, show cyc [(x, y), (x + s, y + s), (x + s, y), (x, y + s)] (((2 : Nat) : Int) + 1) = (x, y + s) from rfl]
      simp [hm]
    unfold firstQ
    rw [show List.range 4 = [0, 1, 2, 3] from rfl, List.find?_cons, this]
  unfold checkF
  simp only [List.length_cons, List.length_nil]
  rw [f1, f2, f3, f4]
  rfl
end

section
set_option linter.unusedVariables false
set_option linter.unusedSimpArgs false
open Go.RowKit

theorem same_eq {K M : List Pt} {b1 b2 : Bool} (h1 : b1 = true ↔ fineQ K) (h2 : b2 = true ↔ fineQ M) : sameB K M = (b1 && b2 && decide (normF K = normF M)) := by
  rw [Bool.eq_iff_iff, same_true, same_norm, Bool.and_eq_true, Bool.and_eq_true, h1, h2, decide_eq_true_eq]
  constructor
  · rintro ⟨a, b, c⟩; exact ⟨⟨a, b⟩, c⟩
  · rintro ⟨⟨a, b⟩, c⟩; exact ⟨a, b, c⟩
theorem sameB_comm (K M : List Pt) : sameB K M = sameB M K := by rw [Bool.eq_iff_iff, same_true, same_true, same_comm]
end

section
set_option linter.unusedVariables false
set_option linter.unusedSimpArgs false
open Go.RowKit
end

section
set_option linter.unusedVariables false
set_option linter.unusedSimpArgs false
open Go.RowKit

theorem getD_round {K : List Pt} {i : Nat} (hn : 0 < K.length) : K.getD ((i + 1) % K.length) (0, 0) = cyc K ((i : Int) + 1) := by
  rw [← cyc_nat (Nat.mod_lt _ hn)]
  refine cyc_mod ?_
  rw [show (((i + 1) % K.length : Nat) : Int) = ((i : Int) + 1) % (K.length : Int) by simp, Int.emod_emod]
theorem edge_how {K : List Pt} (h : fineQ K) {i k : Nat} (hik : i < k) (hk : k < K.length) :
    meetQ (K.getD i (0, 0)) (K.getD ((i + 1) % K.length) (0, 0)) (K.getD k (0, 0)) (K.getD ((k + 1) % K.length) (0, 0)) = if k = i + 1 ∨ (i = 0 ∧ k = K.length - 1) then 1 else 0 := by
  have hn := h.few
  rw [getD_round (by omega), getD_round (by omega), ← cyc_nat (K := K) (k := i) (by omega), ← cyc_nat hk]
  by_cases h1 : k = i + 1
  · rw [if_pos (.inl h1)]
    have := edge_next h ((i : Int) + 1)
    rw [show (i : Int) + 1 - 1 = (i : Int) by omega] at this
    subst h1
    exact this
  by_cases h2 : i = 0 ∧ k = K.length - 1
  · rw [if_pos (.inr h2)]
    obtain ⟨rfl, h2⟩ := h2
    have := edge_next h 0
    rw [meet_swap, cyc_mod (i := (k : Int)) (j := 0 - 1) (by rw [show (k : Int) = 0 - 1 + (K.length : Int) by omega, Int.add_emod_right]), cyc_mod (i := (k : Int) + 1) (j := 0) (by rw [show (k : Int) + 1 = 0 + (K.length : Int) by omega, Int.add_emod_right])]
    exact this
  · rw [if_neg (by omega)]
    refine edge_far h ?_
    unfold farC
    rw [Int.emod_eq_of_lt (by omega) (by omega)]
    omega
theorem pt_ne {u v x y : Int} (h : (u, v) ≠ (x, y)) (w : World) : (binOp .eql 27 (.agg #[.int .i64 u, .int .i64 v]) (.agg #[.int .i64 x, .int .i64 y])).run Try.prog w = .ok (.bool false) w := by
  by_cases h1 : u = x
  · subst h1
    have h2 : (v == y) = false := by rw [beq_eq_false_iff_ne]; exact fun e => h (by rw [e])
    clear h
    go_simp
  · have h2 : (u == x) = false := by rw [beq_eq_false_iff_ne]; exact h1
    clear h h1
    go_simp
def EeAt (w : World) (n : Nat) (x : Value) (wr : World) : Prop := ∃ i : Nat, x = .int .i64 (i : Int) ∧ i ≤ n ∧ Cls w wr
def EkAt (w : World) (n i : Nat) (x : Value) (wr : World) : Prop := ∃ k : Nat, x = .int .i64 (k : Int) ∧ i < k ∧ (k ≤ n ∨ k = i + 1) ∧ Cls w wr
end

section
set_option linter.unusedVariables false
set_option linter.unusedSimpArgs false
open Go.RowKit

theorem own_lt {W w : World} {v : Value} {L : List Pt} (h : POwn W w v L) : ∀ k, v.ownBlock = some k → W.heap.size ≤ k ∧ k < w.heap.size := World.ownsRow.lt h
theorem own_at {W w w' : World} {v : Value} {L : List Pt} (h : POwn W w v L) (hb : Below w.heap.size w w') : POwn W w' v L := powns_below h hb
theorem own_slice {a : Option Addr} {n c k : Nat} : (Value.slice a n c).ownBlock = some k ↔ ∃ x, a = some x ∧ x.block = k := by
  cases a with
  | none => simp [Value.ownBlock]
  | some x => simp [Value.ownBlock]
theorem preads_lt {w : World} {a : Option Addr} {n ca : Nat} {K : List Pt} (h : PRC w a n ca K) (hn : 0 < n) : ∀ x, a = some x → x.block < w.heap.size := by
  rcases h.rd.2 with h0 | ⟨b, o, e, hc⟩
  · omega
  · intro x hx
    rw [e] at hx
    injection hx with hx
    subst hx
    exact World.block_lt_of_cell? _ _ (hc 0 hn).1
theorem plus_size (w : World) (J : Array Obj) (d : Nat) : (w.plus J d).heap.size = w.heap.size + J.size := by simp [World.plus]
theorem alloc_size (w : World) (o : Obj) : (w.alloc o).heap.size = w.heap.size + 1 := by simp
/-- A list read stays when the row of another is written over. -/
theorem preads_kept {w w' : World} {v : Value} {a : Option Addr} {n ca B : Nat} {K : List Pt} (h : PRC w a n ca K) (ho : OnlyP v w w') (hB : ∀ k, v.ownBlock = some k → B ≤ k) (hl : 0 < n → ∀ x, a = some x → x.block < B) : PRC w' a n ca K := by
  by_cases hn : 0 < n
  · exact h.only ho fun x hx e => by have := hB _ e; have := hl hn x hx; omega
  · exact ⟨⟨h.rd.1, .inl (by omega)⟩, h.ok⟩
end

section
set_option linter.unusedVariables false
set_option linter.unusedSimpArgs false
open Go.RowKit

def stairL (k : Nat) : List Pt := (List.range k).map (fun i : Nat => ((((i + 1) / 2 : Nat) : Int), ((i / 2 : Nat) : Int)))
theorem stair_len (k : Nat) : (stairL k).length = k := by simp [stairL]
theorem stair_next (k : Nat) : stairL (k + 1) = stairL k ++ [((((k + 1) / 2 : Nat) : Int), ((k / 2 : Nat) : Int))] := by unfold stairL; rw [List.range_succ, List.map_append]; rfl
def LnAt (W : World) (m : Nat) (v i : Value) (wr : World) : Prop := ∃ k : Nat, i = .int .i64 (k : Int) ∧ k ≤ m ∧ wr.ownsRow W.heap.size 27 2 v k (pcells (stairL k)) ∧ Below W.heap.size W wr
end

section
set_option linter.unusedVariables false
set_option linter.unusedSimpArgs false
open Go.RowKit

/-- Check's error of points that are no ring. -/
theorem ck_err {K : List Pt} (h : ¬ fineQ K) : ∃ (e : Int) (t : Nat), checkF K = (e, t) ∧ (e == 0) = false ∧ (e != 0) = true := by
  refine ⟨(checkF K).1, (checkF K).2, rfl, ?_, ?_⟩
  · rw [beq_eq_false_iff_ne]; exact fun k => h (check_fine.1 k)
  · rw [bne, beq_eq_false_iff_ne.2 (fun k => h (check_fine.1 k))]; rfl
theorem norm_less {K : List Pt} (h : fineQ K) (hl : LeastC K 0) {k : Nat} (h1 : 0 < k) (hk : k < K.length) : cmpC (K.getD 0 (0, 0)) (K.getD k (0, 0)) = -1 := by
  have a := hl (k : Int)
  have e0 : cyc K 0 = K.getD 0 (0, 0) := cyc_nat (k := 0) (by omega)
  rw [cyc_nat hk, e0] at a
  have b : cmpC (K.getD 0 (0, 0)) (K.getD k (0, 0)) ≠ 0 := fun e => (twice_iff hk).1 (h.once k hk) 0 h1 (cmpC_zero.1 e)
  rcases cmpC_cases (K.getD 0 (0, 0)) (K.getD k (0, 0)) with c | c | c <;> omega
def TuAt (W : World) (n : Nat) (x : Value) (wr : World) : Prop := ∃ k : Nat, x = .int .i64 (k : Int) ∧ 0 < k ∧ k ≤ n ∧ Cls W wr
end

section
set_option linter.unusedVariables false
set_option linter.unusedSimpArgs false
open Go.RowKit

def I64r (x : Int) : Prop := -9223372036854775808 ≤ x ∧ x ≤ 9223372036854775807
/-- The corners, and the steps. -/
def corL (x y s : Int) : List Pt := [(x, y), (x + s, y), (x + s, y + s), (x, y + s)]
def stpL : List Pt := [(1, 0), (0, 1), (-1, 0), (0, -1)]
def manyN (q0 q1 q2 q3 : Int) : Nat → Int
  | 0 => q0
  | 1 => q1
  | 2 => q2
  | _ => q3
/-- What the first sides come to. -/
def accL (C D : List Pt) (m : Nat → Nat) : Nat → List Pt
  | 0 => []
  | i + 1 => accL C D m i ++ sideL (C.getD i (0, 0)) (D.getD i (0, 0)) (m i + 1)
theorem acc_len (C D : List Pt) (m : Nat → Nat) (hm : ∀ i, m i ≤ 10) : ∀ i, (accL C D m i).length ≤ 11 * i
  | 0 => by simp [accL]
  | i + 1 => by
    have := acc_len C D m hm i
    have := hm i
    simp only [accL, List.length_append, side_len]
    omega
theorem acc_box (x y s : Int) (m : Nat → Nat) : accL (corL x y s) stpL m 4 = boxL x y s (m 0) (m 1) (m 2) (m 3) := by
  simp only [accL, List.nil_append]
  rfl
/-- A block of a point. -/
def PtAt (w wx : World) (p : Pt) (x : Value) : Prop := ∃ g, x = .pointer (some ⟨g, 0, none⟩) ∧ w.heap.size ≤ g ∧ wx.cell? ⟨g, 0, none⟩ = some (.int .i64 p.1) ∧ wx.cell? ⟨g, 1, none⟩ = some (.int .i64 p.2)
theorem mv_ok {x y u v : Int} (h : moveE x y u v = 0) : okC (x, y) = true ∧ okC (x + u, y + v) = true ∧ moveX x y u v = x + u ∧ moveY x y u v = y + v := by
  refine ⟨?_, ?_, by unfold moveX; rw [if_pos h], by unfold moveY; rw [if_pos h]⟩
  all_goals
    unfold moveE at h
    unfold okC
    split at h
    · rename_i k
      rw [Bool.and_eq_true] at k
      split at h
      · rename_i k2
        first | exact k.1 | exact k2
      · omega
    · omega
theorem step_papp {ops : Array Oper} {o : Oper} {a : Act} {w : World} {K : Act → World → Prop} {Q : Exit → Act → World → Prop} {E : Prop} (hgd : o.guard = none) (s x : Operand)
    (ho : o.op = .call { callee := .builtin .append, args := #[s, x], argTypes := #[28, 28] }) (base : Nat) (v : Value) (n : Nat) (L : List (Int × Int)) (hs : a.eval s = v) (hown : w.ownsRow base 27 2 v n (pcells L))
    (g : Nat) (px py : Int) (hx : a.eval x = .slice (some ⟨g, 0, none⟩) 1 1) (h0 : w.cell? ⟨g, 0, none⟩ = some (.int .i64 px)) (h1 : w.cell? ⟨g, 1, none⟩ = some (.int .i64 py)) (hm : n ≤ 500) (hb : base ≤ w.heap.size)
    (h : ∀ v' w', w'.ownsRow base 27 2 v' (n + 1) (pcells (L ++ [(px, py)])) → w.grownBy w' v.ownBlock → K (a.put o.dst v') w') :
    if Region.wanted o (yielded ops a.tmps) = true then Oper.wp Try.prog o a w K Q else E := by
  have hw : Region.wanted o (yielded ops a.tmps) = true := by simp [Region.wanted, hgd]
  rw [if_pos hw]
  obtain ⟨i0, hi0, hz0, hz1, hz2⟩ := info_pt
  refine wp_append_own _ s x _ ho base 27 i0 _ 2 16 Try.underlying28 hi0 hz0 hz1 hz2 rfl (by decide) _ n (pcells L) hs hown ⟨g, 0, none⟩ 1 1 (pcells [(px, py)]) hx
    rfl ?_ (pcells_one _) (by simp only [maxLen]; omega) (by omega) hb ?_
  · intro j u hu
    match j, hu with
    | 0, hu => simp [pcells] at hu; subst hu; exact h0
    | 1, hu => simp [pcells] at hu; subst hu; exact h1
  · intro v' w' hown' hg _
    rw [← pcells_app] at hown'
    exact h _ _ hown' hg
def BoxOut (W : World) (C D : List Pt) (m : Nat → Nat) (v i : Value) (wr : World) : Prop :=
  ∃ k : Nat, i = .int .i64 (k : Int) ∧ k ≤ 4 ∧ wr.ownsRow W.heap.size 27 2 v (accL C D m k).length (pcells (accL C D m k)) ∧ Below W.heap.size W wr
def BoxInn (W : World) (A : List Pt) (c d : Pt) (mi : Nat) (v j : Value) (wr : World) : Prop :=
  ∃ k : Nat, j = .int .i64 (k : Int) ∧ k ≤ mi + 1 ∧ wr.ownsRow W.heap.size 27 2 v (A ++ sideL c d k).length (pcells (A ++ sideL c d k)) ∧ Below W.heap.size W wr
end
end Go.Proofs.Ytfkhefiilmdhmaa

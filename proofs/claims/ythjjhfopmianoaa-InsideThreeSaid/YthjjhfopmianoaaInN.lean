/- Parity: mathematics: boxes, three points, bounds. -/
import Derived.Test.YthjjhfopmianoaaInM
import Derived.Test.YthjjhfopmianoaaPtBm
namespace Go.Proofs.Ythjjhfopmianoaa
set_option linter.unusedVariables false
set_option linter.unusedSimpArgs false
open Go.RowKit

theorem sgn_one {z : Int} : sgn z = 1 ↔ 0 < z := by
  rcases sgn_cases z with ⟨a, b⟩ | ⟨a, b⟩ | ⟨a, b⟩ <;> rw [b] <;> omega
theorem sgn_neg1 {z : Int} : sgn z = -1 ↔ z < 0 := by
  rcases sgn_cases z with ⟨a, b⟩ | ⟨a, b⟩ | ⟨a, b⟩ <;> rw [b] <;> omega
/-- When an edge of points that may be counts. -/
theorem count_iff {p a b : Pt} (hp : okC p = true) (ha : okC a = true) (hb : okC b = true) : countC p a b = true ↔ (a.2 ≤ p.2 ∧ p.2 < b.2 ∧ 0 < detQ a b p) ∨ (b.2 ≤ p.2 ∧ p.2 < a.2 ∧ detQ a b p < 0) := by
  have e : detQ b a p = - detQ a b p := detQ_swap
  unfold countC upC
  by_cases h : b.2 < a.2
  · rw [if_pos h, turnC_eq hb ha hp]
    simp only [Bool.and_eq_true, decide_eq_true_eq]
    rw [sgn_one, e]
    omega
  · rw [if_neg h, turnC_eq ha hb hp]
    simp only [Bool.and_eq_true, decide_eq_true_eq]
    rw [sgn_one]
    omega
theorem one_true {b : Bool} (h : b = true) : oneN b = 1 := by rw [h]; rfl
theorem one_false {b : Bool} (h : ¬ b = true) : oneN b = 0 := by cases b <;> simp_all [oneN]
theorem cross_three (p a b c : Pt) : crossN p [a, b, c] = oneN (countC p a b) + (oneN (countC p b c) + (oneN (countC p c a) + 0)) := rfl
theorem cross_four (p a b c d : Pt) : crossN p [a, b, c, d] = oneN (countC p a b) + (oneN (countC p b c) + (oneN (countC p c d) + (oneN (countC p d a) + 0))) := rfl

/-- The ring of a box, and what is in it. -/
def boxR (lx ly hx hy : Int) : List Pt := [(lx, ly), (hx, ly), (hx, hy), (lx, hy)]
theorem vert_det (x y0 y1 px py : Int) : detQ (x, y0) (x, y1) (px, py) = (y1 - y0) * (x - px) := by unfold detQ detP; simp only; grind
theorem in_boxR {px py lx ly hx hy : Int} (hp : okC (px, py) = true) (hl : okC (lx, ly) = true) (hh : okC (hx, hy) = true) (h1 : lx < hx) (h2 : ly < hy) : inQ (px, py) (boxR lx ly hx hy) = inF px py lx ly hx hy := by
  have o1 : okC (hx, ly) = true := by unfold okC at *; rw [okP_iff] at *; simp only at *; omega
  have o2 : okC (lx, hy) = true := by unfold okC at *; rw [okP_iff] at *; simp only at *; omega
  have n1 : oneN (countC (px, py) (lx, ly) (hx, ly)) = 0 := one_false (by rw [count_iff hp hl o1]; simp only; omega)
  have n3 : oneN (countC (px, py) (hx, hy) (lx, hy)) = 0 := one_false (by rw [count_iff hp hh o2]; simp only; omega)
  have d1 : 0 < detQ (hx, ly) (hx, hy) (px, py) ↔ px < hx := by
    rw [vert_det]
    constructor
    · intro h
      apply Decidable.byContradiction
      intro k
      have := Int.mul_nonneg (show 0 ≤ hy - ly by omega) (show 0 ≤ px - hx by omega)
      have e : (hy - ly) * (hx - px) = - ((hy - ly) * (px - hx)) := by grind
      omega
    · intro h; exact Int.mul_pos (by omega) (by omega)
  have d2 : detQ (lx, hy) (lx, ly) (px, py) < 0 ↔ px < lx := by
    have e : detQ (lx, hy) (lx, ly) (px, py) = - ((hy - ly) * (lx - px)) := by rw [vert_det]; grind
    rw [e]
    constructor
    · intro h
      apply Decidable.byContradiction
      intro k
      have := Int.mul_nonneg (show 0 ≤ hy - ly by omega) (show 0 ≤ px - lx by omega)
      have e : (hy - ly) * (lx - px) = - ((hy - ly) * (px - lx)) := by grind
      omega
    · intro h; have := Int.mul_pos (show 0 < hy - ly by omega) (show 0 < lx - px by omega); omega
  unfold inQ boxR inF
  rw [cross_four, n1, n3]
  have c2 := count_iff hp o1 hh
  have c4 := count_iff hp o2 hl
  rw [d1] at c2
  rw [d2] at c4
  simp only at c2 c4
  refine decide_eq_decide.2 ?_
  by_cases k2 : countC (px, py) (hx, ly) (hx, hy) = true
  · rw [one_true k2]
    have := c2.1 k2
    by_cases k4 : countC (px, py) (lx, hy) (lx, ly) = true
    · rw [one_true k4]; have := c4.1 k4; omega
    · rw [one_false k4]
      have : ¬ (hy ≤ py ∧ py < ly ∧ 0 < detQ (lx, hy) (lx, ly) (px, py) ∨ ly ≤ py ∧ py < hy ∧ px < lx) := fun h => k4 (c4.2 h)
      omega
  · rw [one_false k2]
    have m2 : ¬ (ly ≤ py ∧ py < hy ∧ px < hx ∨ hy ≤ py ∧ py < ly ∧ detQ (hx, ly) (hx, hy) (px, py) < 0) := fun h => k2 (c2.2 h)
    by_cases k4 : countC (px, py) (lx, hy) (lx, ly) = true
    · have := c4.1 k4; omega
    · rw [one_false k4]; omega

/-- Three points: what the turns tell. -/
theorem tri_hi {d1 d2 d3 A B C : Int} (h : d1 * C + d2 * A + d3 * B = 0) (hA : 0 < A) (hB : B ≤ 0) (hC : C ≤ 0) : (d1 ≤ 0 → d3 ≤ 0 → d2 ≤ 0) ∧ (0 ≤ d1 → 0 ≤ d3 → 0 ≤ d2) := by
  constructor
  · intro h1 h3
    apply Decidable.byContradiction
    intro k
    have a := Int.mul_nonneg_of_nonpos_of_nonpos h1 hC
    have b := Int.mul_nonneg_of_nonpos_of_nonpos h3 hB
    have c := Int.mul_pos (show 0 < d2 by omega) hA
    omega
  · intro h1 h3
    apply Decidable.byContradiction
    intro k
    have a := Int.mul_nonneg h1 (show 0 ≤ -C by omega)
    have b := Int.mul_nonneg h3 (show 0 ≤ -B by omega)
    have c := Int.mul_pos (show 0 < -d2 by omega) hA
    have e1 : d1 * -C = -(d1 * C) := by grind
    have e2 : d3 * -B = -(d3 * B) := by grind
    have e3 : -d2 * A = -(d2 * A) := by grind
    omega
theorem tri_lo {d1 d2 d3 A B C : Int} (h : d1 * C + d2 * A + d3 * B = 0) (hA : A ≤ 0) (hB : 0 < B) (hC : 0 < C) : (d1 ≤ 0 → d3 ≤ 0 → d1 < 0 ∨ d3 < 0 → d2 ≤ 0) ∧ (0 ≤ d1 → 0 ≤ d3 → 0 < d1 ∨ 0 < d3 → 0 ≤ d2) := by
  constructor
  · intro h1 h3 hs
    apply Decidable.byContradiction
    intro k
    have c := Int.mul_nonneg (show 0 ≤ d2 by omega) (show 0 ≤ -A by omega)
    have e3 : d2 * -A = -(d2 * A) := by grind
    have a := Int.mul_nonneg (show 0 ≤ -d1 by omega) (show 0 ≤ C by omega)
    have b := Int.mul_nonneg (show 0 ≤ -d3 by omega) (show 0 ≤ B by omega)
    have e1 : -d1 * C = -(d1 * C) := by grind
    have e2 : -d3 * B = -(d3 * B) := by grind
    rcases hs with hs | hs
    · have := Int.mul_pos (show 0 < -d1 by omega) hC; omega
    · have := Int.mul_pos (show 0 < -d3 by omega) hB; omega
  · intro h1 h3 hs
    apply Decidable.byContradiction
    intro k
    have c := Int.mul_nonneg (show 0 ≤ -d2 by omega) (show 0 ≤ -A by omega)
    have e3 : -d2 * -A = d2 * A := by grind
    have a := Int.mul_nonneg h1 (show 0 ≤ C by omega)
    have b := Int.mul_nonneg h3 (show 0 ≤ B by omega)
    rcases hs with hs | hs
    · have := Int.mul_pos hs hC; omega
    · have := Int.mul_pos hs hB; omega
/-- How many edges of three count, by turns and heights. -/
def triN (d A B : Int) : Nat := if (A ≤ 0 ∧ 0 < B ∧ 0 < d) ∨ (B ≤ 0 ∧ 0 < A ∧ d < 0) then 1 else 0
theorem tri_in {d1 d2 d3 A B C u v : Int} (h : d1 * C + d2 * A + d3 * B = 0) (hD : d1 + d2 + d3 = u * (C - A) - v * (B - A)) (hp : 0 < d1 + d2 + d3) :
    (0 < d1 → 0 < d2 → 0 < d3 → (triN d1 A B + triN d2 B C + triN d3 C A) % 2 = 1) ∧ (d1 < 0 ∨ d2 < 0 ∨ d3 < 0 → (triN d1 A B + triN d2 B C + triN d3 C A) % 2 = 0) := by
  have r2 : d2 * A + d3 * B + d1 * C = 0 := by omega
  have r3 : d3 * B + d1 * C + d2 * A = 0 := by omega
  have r2' : d2 * A + d3 * B + d1 * C = 0 := by omega
  unfold triN
  rcases Int.lt_or_le 0 A with hA | hA <;> rcases Int.lt_or_le 0 B with hB | hB <;> rcases Int.lt_or_le 0 C with hC | hC
  · refine ⟨fun h1 h2 h3 => ?_, fun _ => ?_⟩
    · have := Int.mul_pos h1 hC; have := Int.mul_pos h2 hA; have := Int.mul_pos h3 hB; omega
    · rw [if_neg (by omega), if_neg (by omega), if_neg (by omega)]
  · have k := tri_lo (d1 := d3) (d2 := d1) (d3 := d2) (A := C) (B := A) (C := B) r3 hC hA hB
    refine ⟨fun h1 h2 h3 => ?_, fun hn => ?_⟩ <;> (repeat' split) <;> omega
  · have k := tri_lo (d1 := d2) (d2 := d3) (d3 := d1) (A := B) (B := C) (C := A) r2' hB hC hA
    refine ⟨fun h1 h2 h3 => ?_, fun hn => ?_⟩ <;> (repeat' split) <;> omega
  · have k := tri_hi h hA hB hC
    refine ⟨fun h1 h2 h3 => ?_, fun hn => ?_⟩ <;> (repeat' split) <;> omega
  · have k := tri_lo h hA hB hC
    refine ⟨fun h1 h2 h3 => ?_, fun hn => ?_⟩ <;> (repeat' split) <;> omega
  · have k := tri_hi (d1 := d2) (d2 := d3) (d3 := d1) (A := B) (B := C) (C := A) r2' hB hC hA
    refine ⟨fun h1 h2 h3 => ?_, fun hn => ?_⟩ <;> (repeat' split) <;> omega
  · have k := tri_hi (d1 := d3) (d2 := d1) (d3 := d2) (A := C) (B := A) (C := B) r3 hC hA hB
    refine ⟨fun h1 h2 h3 => ?_, fun hn => ?_⟩ <;> (repeat' split) <;> omega
  · refine ⟨fun h1 h2 h3 => ?_, fun _ => ?_⟩
    · exfalso
      have a := Int.mul_nonneg (show 0 ≤ d1 by omega) (show 0 ≤ -C by omega)
      have b := Int.mul_nonneg (show 0 ≤ d2 by omega) (show 0 ≤ -A by omega)
      have c := Int.mul_nonneg (show 0 ≤ d3 by omega) (show 0 ≤ -B by omega)
      have e1 : d1 * -C = -(d1 * C) := by grind
      have e2 : d2 * -A = -(d2 * A) := by grind
      have e3 : d3 * -B = -(d3 * B) := by grind
      have z : ∀ x y : Int, 0 < x → x * y = 0 → y = 0 := fun x y hx e => by
        rcases Int.mul_eq_zero.1 e with k | k
        · omega
        · exact k
      have zC := z d1 C h1 (by omega)
      have zA := z d2 A h2 (by omega)
      have zB := z d3 B h3 (by omega)
      subst zA zB zC
      simp at hD
      omega
    · rw [if_neg (by omega), if_neg (by omega), if_neg (by omega)]
theorem tri_sum (a b c p : Pt) : detQ a b p + detQ b c p + detQ c a p = detQ a b c := by unfold detQ detP; grind
theorem tri_bary (a b c p : Pt) : detQ a b p * (c.2 - p.2) + detQ b c p * (a.2 - p.2) + detQ c a p * (b.2 - p.2) = 0 := by unfold detQ detP; grind
theorem tri_det (a b c p : Pt) : detQ a b c = (b.1 - a.1) * ((c.2 - p.2) - (a.2 - p.2)) - (c.1 - a.1) * ((b.2 - p.2) - (a.2 - p.2)) := by unfold detQ detP; grind
theorem one_tri {p a b : Pt} (hp : okC p = true) (ha : okC a = true) (hb : okC b = true) : oneN (countC p a b) = triN (detQ a b p) (a.2 - p.2) (b.2 - p.2) := by
  have k := count_iff hp ha hb
  unfold triN
  by_cases h : countC p a b = true
  · rw [one_true h, if_pos (by have := k.1 h; omega)]
  · rw [one_false h, if_neg (fun e => h (k.2 (by omega)))]
/-- Inside a triangle. -/
theorem in_three {p a b c : Pt} (hp : okC p = true) (ht : turnC a b c = 1) :
    (turnC a b p = 1 → turnC b c p = 1 → turnC c a p = 1 → inQ p [a, b, c] = true) ∧ (turnC a b p = -1 ∨ turnC b c p = -1 ∨ turnC c a p = -1 → inQ p [a, b, c] = false) := by
  have hv : okC a = true ∧ okC b = true ∧ okC c = true := by
    unfold turnC turnF at ht
    split at ht
    · rename_i k
      rw [Bool.and_eq_true, Bool.and_eq_true] at k
      exact ⟨k.1.1, k.1.2, k.2⟩
    · omega
  obtain ⟨ha, hb, hc⟩ := hv
  rw [turnC_eq ha hb hc, sgn_one] at ht
  rw [turnC_eq ha hb hp, turnC_eq hb hc hp, turnC_eq hc ha hp, sgn_one, sgn_one, sgn_one, sgn_neg1, sgn_neg1, sgn_neg1]
  have s := tri_sum a b c p
  have k := tri_in (d1 := detQ a b p) (d2 := detQ b c p) (d3 := detQ c a p) (A := a.2 - p.2) (B := b.2 - p.2) (C := c.2 - p.2) (tri_bary a b c p) (s.trans (tri_det a b c p)) (by omega)
  unfold inQ
  rw [cross_three, one_tri hp ha hb, one_tri hp hb hc, one_tri hp hc ha]
  refine ⟨fun h1 h2 h3 => decide_eq_true (by have := k.1 h1 h2 h3; omega), fun h => decide_eq_false (by have := k.2 h; omega)⟩

/-- Where an edge counts, all lies to the left of its ends alone. -/
theorem edge_far_right {p a b : Pt} (h : 0 < detQ a b p) (h1 : a.2 ≤ p.2) (h2 : p.2 < b.2) : p.1 < a.1 ∨ p.1 < b.1 := by
  apply Decidable.byContradiction
  intro k
  have e : detQ a b p = -((b.2 - p.2) * (p.1 - a.1) + (p.2 - a.2) * (p.1 - b.1)) := by unfold detQ detP; grind
  have x := Int.mul_nonneg (show 0 ≤ b.2 - p.2 by omega) (show 0 ≤ p.1 - a.1 by omega)
  have y := Int.mul_nonneg (show 0 ≤ p.2 - a.2 by omega) (show 0 ≤ p.1 - b.1 by omega)
  omega
theorem edge_left {p a b : Pt} (h1 : a.2 ≤ p.2) (h2 : p.2 < b.2) (h3 : p.1 < a.1) (h4 : p.1 < b.1) : 0 < detQ a b p := by
  have e : detQ a b p = (b.2 - p.2) * (a.1 - p.1) + (p.2 - a.2) * (b.1 - p.1) := by unfold detQ detP; grind
  have x := Int.mul_pos (show 0 < b.2 - p.2 by omega) (show 0 < a.1 - p.1 by omega)
  have y := Int.mul_nonneg (show 0 ≤ p.2 - a.2 by omega) (show 0 ≤ b.1 - p.1 by omega)
  omega
/-- Which edges pass a height is told by their ends alone. -/
theorem path_par (p : Pt) (s : Pt → Bool) : ∀ (a : Pt) (L : List Pt) (z : Pt), (∀ x ∈ a :: L ++ [z], ∀ y ∈ a :: L ++ [z], countC p x y = (s x != s y)) → pathN p (a :: L ++ [z]) % 2 = oneN (s a != s z) % 2
  | a, [], z, h => by
    show (oneN (countC p a z) + 0) % 2 = _
    rw [h a (by simp) z (by simp)]; simp
  | a, b :: L, z, h => by
    have ih := path_par p s b L z (fun x hx y hy => h x (List.mem_cons_of_mem _ hx) y (List.mem_cons_of_mem _ hy))
    show (oneN (countC p a b) + pathN p (b :: L ++ [z])) % 2 = _
    rw [h a (by simp) b (by simp), Nat.add_mod, ih]
    cases s a <;> cases s b <;> cases s z <;> decide
theorem cross_par (p : Pt) (s : Pt → Bool) (K : List Pt) (h : ∀ x ∈ K, ∀ y ∈ K, countC p x y = (s x != s y)) : crossN p K % 2 = 0 := by
  cases K with
  | nil => rfl
  | cons a L =>
    show pathN p (a :: L ++ [a]) % 2 = 0
    have m : ∀ x, x ∈ a :: L ++ [a] → x ∈ a :: L := by intro x hx; simp at hx ⊢; rcases hx with h | h | h <;> simp [h]
    rw [path_par p s a L a (fun x hx y hy => h x (m x hx) y (m y hy))]
    cases s a <;> rfl
theorem path_some (p : Pt) : ∀ K : List Pt, 0 < pathN p K → ∃ a ∈ K, ∃ b ∈ K, countC p a b = true
  | [], h => by simp [pathN] at h
  | [a], h => by simp [pathN] at h
  | a :: b :: L, h => by
    by_cases hc : countC p a b = true
    · exact ⟨a, by simp, b, by simp, hc⟩
    · simp only [pathN, one_false hc, Nat.zero_add] at h
      obtain ⟨x, hx, y, hy, e⟩ := path_some p (b :: L) h
      exact ⟨x, List.mem_cons_of_mem _ hx, y, List.mem_cons_of_mem _ hy, e⟩
theorem cross_some (p : Pt) (K : List Pt) (h : 0 < crossN p K) : ∃ a ∈ K, ∃ b ∈ K, countC p a b = true := by
  cases K with
  | nil => exact absurd h (Nat.lt_irrefl 0)
  | cons a L =>
    obtain ⟨x, hx, y, hy, e⟩ := path_some p (a :: L ++ [a]) h
    have m : ∀ x, x ∈ a :: L ++ [a] → x ∈ a :: L := by intro x hx; simp at hx ⊢; rcases hx with h | h | h <;> simp [h]
    exact ⟨x, m x hx, y, m y hy, e⟩
/-- What is inside is in the bounds. -/
theorem in_bnd {p : Pt} {K : List Pt} (hp : okC p = true) (hK : ∀ a ∈ K, okC a = true) (h : inQ p K = true) : inF p.1 p.2 (lxF K K.length) (lyF K K.length) (hxF K K.length + 1) (hyF K K.length + 1) = true := by
  unfold inQ at h
  rw [decide_eq_true_eq] at h
  obtain ⟨a, ha, b, hb, hc⟩ := cross_some p K (by omega)
  have k := (count_iff hp (hK a ha) (hK b hb)).1 hc
  have l1 := ly_low ha
  have l2 := ly_low hb
  have g1 := hy_high ha
  have g2 := hy_high hb
  have r1 := hx_high ha
  have r2 := hx_high hb
  have hr : p.1 < a.1 ∨ p.1 < b.1 := by
    rcases k with ⟨k1, k2, k3⟩ | ⟨k1, k2, k3⟩
    · exact edge_far_right k3 k1 k2
    · have : 0 < detQ b a p := by rw [detQ_swap]; omega
      exact (edge_far_right this k1 k2).symm
  have hl : lxF K K.length ≤ p.1 := by
    apply Decidable.byContradiction
    intro q
    have := cross_par p (fun x => decide (p.2 < x.2)) K (fun x hx y hy => by
      have x1 := lx_low hx
      have y1 := lx_low hy
      have c := count_iff hp (hK x hx) (hK y hy)
      rw [Bool.eq_iff_iff, c]
      simp only [bne_iff_ne, ne_eq, decide_eq_decide]
      constructor
      · intro k; omega
      · intro k
        rcases Int.lt_or_le p.2 x.2 with h1 | h1
        · right
          have h2 : y.2 ≤ p.2 := by omega
          have := edge_left (p := p) h2 h1 (by omega) (by omega)
          rw [detQ_swap] at this
          exact ⟨h2, h1, by omega⟩
        · left
          have h2 : p.2 < y.2 := by omega
          exact ⟨h1, h2, edge_left h1 h2 (by omega) (by omega)⟩)
    omega
  unfold inF
  exact decide_eq_true (by omega)
end Go.Proofs.Ythjjhfopmianoaa

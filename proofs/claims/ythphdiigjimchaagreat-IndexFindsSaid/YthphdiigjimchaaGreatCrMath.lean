/- How two segments lie: mathematics. No program. How two segments meet: mathematics. No program. The ends that two segments have in common, and how they meet: mathematics. No program. How two segments meet, from all sides: mathematics. No program. -/
import Derived.Test.YthphdiigjimchaaGreatPtOne
namespace Go.Proofs.YthphdiigjimchaaGreat
section
set_option linter.unusedVariables false
set_option linter.unusedSimpArgs false
section
variable (ax ay bx by_ px py qx qy : Int)
theorem det_cx (cx cy dx dy : Int) : (dx - cx) * detP ax ay bx by_ px py = (dx - px) * detP ax ay bx by_ cx cy + (px - cx) * detP ax ay bx by_ dx dy + (bx - ax) * detP cx cy dx dy px py := by unfold detP; grind
theorem det_cy (cx cy dx dy : Int) : (dy - cy) * detP ax ay bx by_ px py = (dy - py) * detP ax ay bx by_ cx cy + (py - cy) * detP ax ay bx by_ dx dy + (by_ - ay) * detP cx cy dx dy px py := by unfold detP; grind
theorem det_mid (cx cy dx dy : Int) : detP cx cy dx dy ax ay - detP cx cy dx dy bx by_ = detP ax ay bx by_ dx dy - detP ax ay bx by_ cx cy := by unfold detP; grind
theorem det_mx (cx cy dx dy : Int) : detP cx cy dx dy ax ay * bx - detP cx cy dx dy bx by_ * ax = detP ax ay bx by_ dx dy * cx - detP ax ay bx by_ cx cy * dx := by unfold detP; grind
theorem det_my (cx cy dx dy : Int) : detP cx cy dx dy ax ay * by_ - detP cx cy dx dy bx by_ * ay = detP ax ay bx by_ dx dy * cy - detP ax ay bx by_ cx cy * dy := by unfold detP; grind
end
theorem conv {M U V X C D : Int} (hM : 0 < M) (hU : 0 ≤ U) (hV : 0 ≤ V) (hs : U + V = M) (h : M * X = U * C + V * D) : btw X C D := by
  unfold btw
  have e : ∀ m, M * m = U * m + V * m := fun m => by rw [← hs, Int.add_mul]
  constructor
  · apply Int.not_lt.1
    intro hx
    have h1 := Int.mul_lt_mul_of_pos_left hx hM
    have h2 := Int.mul_le_mul_of_nonneg_left (show min C D ≤ C by omega) hU
    have h3 := Int.mul_le_mul_of_nonneg_left (show min C D ≤ D by omega) hV
    have h4 := e (min C D)
    omega
  · apply Int.not_lt.1
    intro hx
    have h1 := Int.mul_lt_mul_of_pos_left hx hM
    have h2 := Int.mul_le_mul_of_nonneg_left (show C ≤ max C D by omega) hU
    have h3 := Int.mul_le_mul_of_nonneg_left (show D ≤ max C D by omega) hV
    have h4 := e (max C D)
    omega
section
variable {ax ay bx by_ px py qx qy cx cy dx dy : Int}
theorem det_btw (hon : onF px py cx cy dx dy) : btw (detP ax ay bx by_ px py) (detP ax ay bx by_ cx cy) (detP ax ay bx by_ dx dy) := by
  obtain ⟨h0, h1, h2⟩ := hon
  have k1 := det_cx ax ay bx by_ px py cx cy dx dy
  have k2 := det_cy ax ay bx by_ px py cx cy dx dy
  rw [h0, Int.mul_zero, Int.add_zero] at k1 k2
  unfold btw at h1 h2
  rcases Int.lt_trichotomy cx dx with hx | hx | hx
  · exact conv (M := dx - cx) (by omega) (by omega) (by omega) (by omega) k1
  · rcases Int.lt_trichotomy cy dy with hy | hy | hy
    · exact conv (M := dy - cy) (by omega) (by omega) (by omega) (by omega) k2
    · obtain rfl : px = cx := by omega
      obtain rfl : py = cy := by omega
      unfold btw; omega
    · refine conv (M := cy - dy) (U := py - dy) (V := cy - py) (by omega) (by omega) (by omega) (by omega) ?_
      have e : ∀ (u v z : Int), (u - v) * z = - ((v - u) * z) := fun u v z => by rw [← Int.neg_mul]; congr 1; omega
      rw [e cy dy, e py dy, e cy py, k2]; omega
  · refine conv (M := cx - dx) (U := px - dx) (V := cx - px) (by omega) (by omega) (by omega) (by omega) ?_
    have e : ∀ (u v z : Int), (u - v) * z = - ((v - u) * z) := fun u v z => by rw [← Int.neg_mul]; congr 1; omega
    rw [e cx dx, e px dx, e cx px, k1]; omega
end
theorem overlap {A B C D a b c d : Int} (h1 : A - B = D - C) (h2 : A * b - B * a = D * c - C * d) (hA : 0 < A) (hB : B < 0) (hD : 0 < D) (hC : C < 0) : min c d ≤ max a b ∧ min a b ≤ max c d := by
  have e : ∀ m, A * m - B * m = D * m - C * m := fun m => by rw [← Int.sub_mul, ← Int.sub_mul, h1]
  have q : ∀ {u v m : Int}, 0 < u → v ≤ m → u * v ≤ u * m := fun hu hv => Int.mul_le_mul_of_nonneg_left hv (by omega)
  have q' : ∀ {u v m : Int}, u < 0 → v ≤ m → u * m ≤ u * v := fun hu hv => Int.mul_le_mul_of_nonpos_left (by omega) hv
  constructor
  · apply Int.not_lt.1
    intro hx
    have k1 := q hA (show b ≤ max a b by omega)
    have k2 := q' hB (show a ≤ max a b by omega)
    have k3 := q hD (show max a b + 1 ≤ c by omega)
    have k4 := q' hC (show max a b + 1 ≤ d by omega)
    have k5 := e (max a b)
    have k6 : D * (max a b + 1) = D * max a b + D := by rw [Int.mul_add, Int.mul_one]
    have k7 : C * (max a b + 1) = C * max a b + C := by rw [Int.mul_add, Int.mul_one]
    omega
  · apply Int.not_lt.1
    intro hx
    have k1 := q hA (show max c d + 1 ≤ b by omega)
    have k2 := q' hB (show max c d + 1 ≤ a by omega)
    have k3 := q hD (show c ≤ max c d by omega)
    have k4 := q' hC (show d ≤ max c d by omega)
    have k5 := e (max c d)
    have k6 : A * (max c d + 1) = A * max c d + A := by rw [Int.mul_add, Int.mul_one]
    have k7 : B * (max c d + 1) = B * max c d + B := by rw [Int.mul_add, Int.mul_one]
    omega
end

section
set_option linter.unusedVariables false
set_option linter.unusedSimpArgs false
def detQ (a b c : Int × Int) : Int := detP a.1 a.2 b.1 b.2 c.1 c.2
def onQ (p a b : Int × Int) : Prop := onF p.1 p.2 a.1 a.2 b.1 b.2
instance (p a b : Int × Int) : Decidable (onQ p a b) := by unfold onQ; exact inferInstance
def oppo (x y : Int) : Prop := (0 < x ∧ y < 0) ∨ (x < 0 ∧ 0 < y)
instance (x y : Int) : Decidable (oppo x y) := by unfold oppo; exact inferInstance
def crossQ (a b c d : Int × Int) : Prop := oppo (detQ a b c) (detQ a b d) ∧ oppo (detQ c d a) (detQ c d b)
instance (a b c d : Int × Int) : Decidable (crossQ a b c d) := by unfold crossQ; exact inferInstance
def hasE (a b c d : Int × Int) : Prop := onQ a c d ∨ onQ b c d ∨ onQ c a b ∨ onQ d a b
instance (a b c d : Int × Int) : Decidable (hasE a b c d) := by unfold hasE; exact inferInstance
theorem eq_pt {p q : Int × Int} (h1 : p.1 = q.1) (h2 : p.2 = q.2) : p = q := Prod.ext h1 h2
section
variable {a b c d p e q : Int × Int}
theorem onQ_back : onQ p a b ↔ onQ p b a := on_back _ _ _ _ _ _
theorem onQ_left : onQ a a b := on_left _ _ _ _
theorem onQ_right : onQ b a b := on_right _ _ _ _
theorem detQ_swap : detQ b a c = - detQ a b c := det_swap _ _ _ _ _ _
theorem detQ_aba : detQ a b a = 0 := det_aba _ _ _ _
theorem detQ_abb : detQ a b b = 0 := det_abb _ _ _ _
theorem onQ_det (h : onQ p a b) : detQ a b p = 0 := h.1
theorem detQ_btw (hon : onQ p c d) : btw (detQ a b p) (detQ a b c) (detQ a b d) := det_btw hon
theorem cross_swap : crossQ c d a b ↔ crossQ a b c d := by unfold crossQ; exact And.comm
theorem hasE_swap : hasE c d a b ↔ hasE a b c d := by
  unfold hasE
  constructor
  · rintro (h | h | h | h)
    · exact .inr (.inr (.inl h))
    · exact .inr (.inr (.inr h))
    · exact .inl h
    · exact .inr (.inl h)
  · rintro (h | h | h | h)
    · exact .inr (.inr (.inl h))
    · exact .inr (.inr (.inr h))
    · exact .inl h
    · exact .inr (.inl h)
end
end

section
set_option linter.unusedVariables false
set_option linter.unusedSimpArgs false
def ind (P : Prop) [Decidable P] : Nat := if P then 1 else 0
theorem ind_iff {P Q : Prop} [Decidable P] [Decidable Q] (h : P ↔ Q) : ind P = ind Q := by unfold ind; by_cases hp : P <;> simp [hp, ← h]
theorem ind_one {P : Prop} [Decidable P] (h : P) : ind P = 1 := by unfold ind; rw [if_pos h]
theorem ind_zero {P : Prop} [Decidable P] (h : ¬ P) : ind P = 0 := by unfold ind; rw [if_neg h]
theorem ind_le (P : Prop) [Decidable P] : ind P ≤ 1 := by unfold ind; split <;> omega
theorem ind_part {P Q R : Prop} [Decidable P] [Decidable Q] [Decidable R] (hq : Q → P) (hr : R → P) (hqr : ¬ (Q ∧ R)) : ind P = ind (P ∧ ¬ Q ∧ ¬ R) + ind Q + ind R := by
  unfold ind
  by_cases h1 : Q <;> by_cases h2 : R <;> by_cases h3 : P <;> simp_all
def endsQ (a b c d : Int × Int) : List (Int × Int) :=
  (if onQ a c d then [a] else []) ++ ((if onQ b c d then [b] else []) ++ ((if onQ c a b ∧ ¬ c = a ∧ ¬ c = b then [c] else []) ++ (if onQ d a b ∧ ¬ d = a ∧ ¬ d = b then [d] else [])))
def cntQ (a b c d : Int × Int) : Nat := ind (onQ a c d) + ind (onQ b c d) + ind (onQ c a b ∧ ¬ c = a ∧ ¬ c = b) + ind (onQ d a b ∧ ¬ d = a ∧ ¬ d = b)
theorem ends_len (a b c d : Int × Int) : (endsQ a b c d).length = cntQ a b c d := by
  have h : ∀ (P : Prop) [Decidable P] (x : Int × Int), (if P then [x] else []).length = ind P := by
    intro P _ x
    unfold ind
    split <;> rfl
  unfold endsQ cntQ
  rw [List.length_append, List.length_append, List.length_append, h, h, h, h]
  omega
section
variable {a b c d p e q : Int × Int}
theorem cnt_pos (hab : a ≠ b) (hcd : c ≠ d) : 0 < cntQ a b c d ↔ hasE a b c d := by
  unfold cntQ hasE
  constructor
  · intro h
    by_cases h1 : onQ a c d
    · exact .inl h1
    by_cases h2 : onQ b c d
    · exact .inr (.inl h2)
    by_cases h3 : onQ c a b
    · exact .inr (.inr (.inl h3))
    by_cases h4 : onQ d a b
    · exact .inr (.inr (.inr h4))
    rw [ind_zero h1, ind_zero h2, ind_zero (fun k => h3 k.1), ind_zero (fun k => h4 k.1)] at h
    omega
  · rintro (h | h | h | h)
    · rw [ind_one h]; omega
    · rw [ind_one (P := onQ b c d) h]; omega
    · by_cases e1 : c = a
      · subst e1; rw [ind_one (P := onQ c c d) onQ_left]; omega
      by_cases e2 : c = b
      · subst e2; rw [ind_one (P := onQ c c d) onQ_left]; omega
      rw [ind_one (P := onQ c a b ∧ _) ⟨h, e1, e2⟩]; omega
    · by_cases e1 : d = a
      · subst e1; rw [ind_one (P := onQ d c d) onQ_right]; omega
      by_cases e2 : d = b
      · subst e2; rw [ind_one (P := onQ d c d) onQ_right]; omega
      rw [ind_one (P := onQ d a b ∧ _) ⟨h, e1, e2⟩]; omega
theorem cnt_swap (hab : a ≠ b) (hcd : c ≠ d) : cntQ c d a b = cntQ a b c d := by
  have k1 := ind_part (P := onQ a c d) (Q := a = c) (R := a = d) (fun h => by subst h; exact onQ_left) (fun h => by subst h; exact onQ_right) (fun ⟨h1, h2⟩ => hcd (h1.symm.trans h2))
  have k2 := ind_part (P := onQ b c d) (Q := b = c) (R := b = d) (fun h => by subst h; exact onQ_left) (fun h => by subst h; exact onQ_right) (fun ⟨h1, h2⟩ => hcd (h1.symm.trans h2))
  have k3 := ind_part (P := onQ c a b) (Q := c = a) (R := c = b) (fun h => by subst h; exact onQ_left) (fun h => by subst h; exact onQ_right) (fun ⟨h1, h2⟩ => hab (h1.symm.trans h2))
  have k4 := ind_part (P := onQ d a b) (Q := d = a) (R := d = b) (fun h => by subst h; exact onQ_left) (fun h => by subst h; exact onQ_right) (fun ⟨h1, h2⟩ => hab (h1.symm.trans h2))
  rw [ind_iff (show c = a ↔ a = c from eq_comm), ind_iff (show c = b ↔ b = c from eq_comm)] at k3
  rw [ind_iff (show d = a ↔ a = d from eq_comm), ind_iff (show d = b ↔ b = d from eq_comm)] at k4
  unfold cntQ
  omega
theorem cnt_flip : cntQ b a c d = cntQ a b c d := by
  unfold cntQ
  rw [ind_iff (show (onQ c b a ∧ ¬ c = b ∧ ¬ c = a) ↔ (onQ c a b ∧ ¬ c = a ∧ ¬ c = b) by rw [onQ_back]; exact ⟨fun ⟨x, y, z⟩ => ⟨x, z, y⟩, fun ⟨x, y, z⟩ => ⟨x, z, y⟩⟩),
    ind_iff (show (onQ d b a ∧ ¬ d = b ∧ ¬ d = a) ↔ (onQ d a b ∧ ¬ d = a ∧ ¬ d = b) by rw [onQ_back]; exact ⟨fun ⟨x, y, z⟩ => ⟨x, z, y⟩, fun ⟨x, y, z⟩ => ⟨x, z, y⟩⟩)]
  omega
theorem same_x2 (hx : c.1 ≠ d.1) (ha : detQ c d a = 0) (hb : detQ c d b = 0) (e : a.1 = b.1) : a = b := by
  refine eq_pt e ?_
  have h : (d.1 - c.1) * (a.2 - b.2) = 0 := by
    have h1 : (d.1 - c.1) * (a.2 - c.2) = (d.2 - c.2) * (a.1 - c.1) := by unfold detQ detP at ha; omega
    have h2 : (d.1 - c.1) * (b.2 - c.2) = (d.2 - c.2) * (b.1 - c.1) := by unfold detQ detP at hb; omega
    rw [e] at h1
    rw [show a.2 - b.2 = (a.2 - c.2) - (b.2 - c.2) by omega, Int.mul_sub, h1, h2, Int.sub_self]
  rcases Int.mul_eq_zero.1 h with h | h <;> omega
theorem same_y2 (hy : c.2 ≠ d.2) (ha : detQ c d a = 0) (hb : detQ c d b = 0) (e : a.2 = b.2) : a = b := by
  refine eq_pt ?_ e
  have h : (d.2 - c.2) * (a.1 - b.1) = 0 := by
    have h1 : (d.1 - c.1) * (a.2 - c.2) = (d.2 - c.2) * (a.1 - c.1) := by unfold detQ detP at ha; omega
    have h2 : (d.1 - c.1) * (b.2 - c.2) = (d.2 - c.2) * (b.1 - c.1) := by unfold detQ detP at hb; omega
    rw [e] at h1
    rw [show a.1 - b.1 = (a.1 - c.1) - (b.1 - c.1) by omega, Int.mul_sub, ← h1, ← h2, Int.sub_self]
  rcases Int.mul_eq_zero.1 h with h | h <;> omega
theorem not_three (hab : a ≠ b) (hcd : c ≠ d) (h1 : onQ a c d) (h2 : onQ b c d) (h3 : onQ c a b) (h4 : c ≠ a) (h5 : c ≠ b) : False := by
  have hc : detQ c d c = 0 := detQ_aba
  have b1 := h1.2.1; have b2 := h1.2.2; have b3 := h2.2.1; have b4 := h2.2.2; have b5 := h3.2.1; have b6 := h3.2.2
  unfold btw at *
  by_cases hx : c.1 = d.1
  · have hy : c.2 ≠ d.2 := fun k => hcd (eq_pt hx k)
    have q1 : a.2 ≠ b.2 := fun k => hab (same_y2 hy h1.1 h2.1 k)
    have q2 : c.2 ≠ a.2 := fun k => h4 (same_y2 hy hc h1.1 k)
    have q3 : c.2 ≠ b.2 := fun k => h5 (same_y2 hy hc h2.1 k)
    omega
  · have q1 : a.1 ≠ b.1 := fun k => hab (same_x2 hx h1.1 h2.1 k)
    have q2 : c.1 ≠ a.1 := fun k => h4 (same_x2 hx hc h1.1 k)
    have q3 : c.1 ≠ b.1 := fun k => h5 (same_x2 hx hc h2.1 k)
    omega
theorem cnt_le (hab : a ≠ b) (hcd : c ≠ d) : cntQ a b c d ≤ 2 := by
  have l1 := ind_le (onQ a c d)
  have l2 := ind_le (onQ b c d)
  have l3 := ind_le (onQ c a b ∧ ¬ c = a ∧ ¬ c = b)
  have l4 := ind_le (onQ d a b ∧ ¬ d = a ∧ ¬ d = b)
  unfold cntQ
  by_cases h1 : onQ a c d
  · by_cases h2 : onQ b c d
    · have n3 : ¬ (onQ c a b ∧ ¬ c = a ∧ ¬ c = b) := fun ⟨k, k1, k2⟩ => not_three hab hcd h1 h2 k k1 k2
      have n4 : ¬ (onQ d a b ∧ ¬ d = a ∧ ¬ d = b) := fun ⟨k, k1, k2⟩ => not_three hab (Ne.symm hcd) (onQ_back.1 h1) (onQ_back.1 h2) k k1 k2
      rw [ind_zero n3, ind_zero n4]; omega
    · rw [ind_zero h2]
      by_cases h3 : onQ c a b ∧ ¬ c = a ∧ ¬ c = b
      · have n4 : ¬ (onQ d a b ∧ ¬ d = a ∧ ¬ d = b) := fun ⟨k, k1, k2⟩ => not_three hcd hab h3.1 k h1 (fun e => h3.2.1 e.symm) (fun e => k1 e.symm)
        rw [ind_zero n4]; omega
      · rw [ind_zero h3]; omega
  · rw [ind_zero h1]
    by_cases h2 : onQ b c d
    · by_cases h3 : onQ c a b ∧ ¬ c = a ∧ ¬ c = b
      · have n4 : ¬ (onQ d a b ∧ ¬ d = a ∧ ¬ d = b) := fun ⟨k, k1, k2⟩ => not_three hcd (Ne.symm hab) (onQ_back.1 h3.1) (onQ_back.1 k) h2 (fun e => h3.2.2 e.symm) (fun e => k2 e.symm)
        rw [ind_zero n4]; omega
      · rw [ind_zero h3]; omega
    · rw [ind_zero h2]; omega
def sameS (x y : Int) : Prop := (0 < x ∧ 0 < y) ∨ (x < 0 ∧ y < 0)
theorem side_none (h : sameS (detQ a b c) (detQ a b d) ∨ sameS (detQ c d a) (detQ c d b)) : ¬ hasE a b c d ∧ ¬ crossQ a b c d := by
  have one : ∀ {a b c d : Int × Int}, sameS (detQ a b c) (detQ a b d) → ¬ hasE a b c d := by
    intro a b c d h
    rintro (k | k | k | k)
    · have := detQ_btw (a := a) (b := b) k; rw [detQ_aba] at this; unfold sameS btw at *; omega
    · have := detQ_btw (a := a) (b := b) k; rw [detQ_abb] at this; unfold sameS btw at *; omega
    · have := onQ_det k; unfold sameS at h; omega
    · have := onQ_det k; unfold sameS at h; omega
  rcases h with h | h
  · exact ⟨one h, fun k => by have := k.1; unfold sameS oppo at *; omega⟩
  · exact ⟨fun k => one h (hasE_swap.2 k), fun k => by have := k.2; unfold sameS oppo at *; omega⟩
theorem cross_none (h : crossQ a b c d) : ¬ hasE a b c d := by
  obtain ⟨h1, h2⟩ := h
  rintro (k | k | k | k) <;> have := onQ_det k <;> unfold oppo at * <;> omega
theorem meet_boxes (h : hasE a b c d ∨ crossQ a b c d) : (min c.1 d.1 ≤ max a.1 b.1 ∧ min a.1 b.1 ≤ max c.1 d.1) ∧ (min c.2 d.2 ≤ max a.2 b.2 ∧ min a.2 b.2 ≤ max c.2 d.2) := by
  rcases h with (h | h | h | h) | ⟨h1, h2⟩
  · obtain ⟨_, k1, k2⟩ := h; unfold btw at *; omega
  · obtain ⟨_, k1, k2⟩ := h; unfold btw at *; omega
  · obtain ⟨_, k1, k2⟩ := h; unfold btw at *; omega
  · obtain ⟨_, k1, k2⟩ := h; unfold btw at *; omega
  · have e0 : detQ c d a - detQ c d b = detQ a b d - detQ a b c := det_mid _ _ _ _ _ _ _ _
    have e1 : detQ c d a * b.1 - detQ c d b * a.1 = detQ a b d * c.1 - detQ a b c * d.1 := det_mx _ _ _ _ _ _ _ _
    have e2 : detQ c d a * b.2 - detQ c d b * a.2 = detQ a b d * c.2 - detQ a b c * d.2 := det_my _ _ _ _ _ _ _ _
    unfold oppo at h1 h2
    by_cases hp : 0 < detQ c d a
    · exact ⟨overlap e0 e1 hp (by omega) (by omega) (by omega), overlap e0 e2 hp (by omega) (by omega) (by omega)⟩
    · have s0 : detQ c d b - detQ c d a = detQ a b c - detQ a b d := by omega
      have s1 : detQ c d b * a.1 - detQ c d a * b.1 = detQ a b c * d.1 - detQ a b d * c.1 := by omega
      have s2 : detQ c d b * a.2 - detQ c d a * b.2 = detQ a b c * d.2 - detQ a b d * c.2 := by omega
      have o1 := overlap s0 s1 (by omega) (by omega) (by omega) (by omega)
      have o2 := overlap s0 s2 (by omega) (by omega) (by omega) (by omega)
      omega
def howQ (a b c d : Int × Int) : Int := if 1 < cntQ a b c d then 3 else if cntQ a b c d = 1 then 1 else if crossQ a b c d then 2 else 0
theorem how_swap (hab : a ≠ b) (hcd : c ≠ d) : howQ c d a b = howQ a b c d := by unfold howQ; rw [cnt_swap hab hcd]; simp only [cross_swap]
theorem how_not (hab : a ≠ b) (hcd : c ≠ d) : howQ a b c d ≠ 0 ↔ hasE a b c d ∨ crossQ a b c d := by
  have h := cnt_pos hab hcd
  unfold howQ
  constructor
  · intro h1
    split at h1
    · exact .inl (h.1 (by omega))
    · split at h1
      · exact .inl (h.1 (by omega))
      · split at h1
        · exact .inr ‹_›
        · exact absurd rfl h1
  · rintro (h1 | h1)
    · have := h.2 h1
      split
      · decide
      · rw [if_pos (by omega)]; decide
    · have := cross_none h1
      rw [← h] at this
      rw [if_neg (by omega), if_neg (by omega), if_pos h1]; decide
theorem how_cross (hab : a ≠ b) (hcd : c ≠ d) : howQ a b c d = 2 ↔ crossQ a b c d := by
  have h := cnt_pos hab hcd
  unfold howQ
  constructor
  · intro h1
    split at h1
    · cases h1
    · split at h1
      · cases h1
      · split at h1
        · assumption
        · cases h1
  · intro h1
    have := cross_none h1
    rw [← h] at this
    rw [if_neg (by omega), if_neg (by omega), if_pos h1]
end
end

section
set_option linter.unusedVariables false
set_option linter.unusedSimpArgs false
section
variable {a b c d p e q : Int × Int}
def mirQ (p : Int × Int) : Int × Int := (-p.1, p.2)
def traQ (p : Int × Int) : Int × Int := (p.2, p.1)
def movQ (u : Int × Int) (p : Int × Int) : Int × Int := (p.1 + u.1, p.2 + u.2)
end
def mayQ (a b : Int × Int) : Bool := okP a.1 a.2 && okP b.1 b.2 && decide (a ≠ b)
def meetQ (a b c d : Int × Int) : Int := if mayQ a b && mayQ c d then howQ a b c d else 0
def commonQ (a b c d : Int × Int) : List (Int × Int) := if mayQ a b && mayQ c d then endsQ a b c d else []
section
variable {a b c d p e q : Int × Int}
theorem may_ne (h : mayQ a b = true) : a ≠ b := by unfold mayQ at h; simp at h; exact h.2
theorem meet_swap : meetQ c d a b = meetQ a b c d := by
  unfold meetQ
  rw [Bool.and_comm]
  cases h : mayQ a b && mayQ c d with
  | false => rfl
  | true =>
    rw [Bool.and_eq_true] at h
    exact how_swap (may_ne h.1) (may_ne h.2)
theorem meet_range : 0 ≤ meetQ a b c d ∧ meetQ a b c d ≤ 3 := by
  unfold meetQ howQ
  repeat' split
  all_goals omega
end
end
end Go.Proofs.YthphdiigjimchaaGreat

/- Rings: mathematics: the ring of a box with points on its sides, and the crossed one. -/
import Derived.Test.YthphdiigjimchaaGreatRiMath
namespace Go.Proofs.YthphdiigjimchaaGreat
set_option linter.unusedVariables false
set_option linter.unusedSimpArgs false
open Go.RowKit
def sideL (c d : Pt) (k : Nat) : List Pt := (List.range k).map (fun j : Nat => (c.1 + (j : Int) * d.1, c.2 + (j : Int) * d.2))
def boxL (x y s : Int) (m0 m1 m2 m3 : Nat) : List Pt :=
  ((sideL (x, y) (1, 0) (m0 + 1) ++ sideL (x + s, y) (0, 1) (m1 + 1)) ++ sideL (x + s, y + s) (-1, 0) (m2 + 1)) ++ sideL (x, y + s) (0, -1) (m3 + 1)
variable {x y s : Int} {m0 m1 m2 m3 : Nat}
inductive Edge (x y s : Int) (m0 m1 m2 m3 : Nat) (i : Nat) (p q : Pt) : Prop
  | e0 (u v : Int) (hu : u = (i : Int)) (hi : i ≤ m0) (hv : (v = u + 1 ∧ i < m0) ∨ (v = s ∧ i = m0)) (hp : p = (x + u, y)) (hq : q = (x + v, y))
  | e1 (u v : Int) (hu : u + (m0 + 1 : Nat) = (i : Int)) (hu0 : 0 ≤ u) (hi : i ≤ m0 + 1 + m1) (hv : (v = u + 1 ∧ i < m0 + 1 + m1) ∨ (v = s ∧ i = m0 + 1 + m1)) (hp : p = (x + s, y + u)) (hq : q = (x + s, y + v))
  | e2 (u v : Int) (hu : u + (m0 + 1 + (m1 + 1) : Nat) = (i : Int)) (hu0 : 0 ≤ u) (hi : i ≤ m0 + 1 + (m1 + 1) + m2) (hv : (v = u + 1 ∧ i < m0 + 1 + (m1 + 1) + m2) ∨ (v = s ∧ i = m0 + 1 + (m1 + 1) + m2)) (hp : p = (x + s - u, y + s)) (hq : q = (x + s - v, y + s))
  | e3 (u v : Int) (hu : u + (m0 + 1 + (m1 + 1) + (m2 + 1) : Nat) = (i : Int)) (hu0 : 0 ≤ u) (hi : i ≤ m0 + 1 + (m1 + 1) + (m2 + 1) + m3) (hv : (v = u + 1 ∧ i < m0 + 1 + (m1 + 1) + (m2 + 1) + m3) ∨ (v = s ∧ i = m0 + 1 + (m1 + 1) + (m2 + 1) + m3)) (hp : p = (x, y + s - u)) (hq : q = (x, y + s - v))
theorem left_turn {p q r : Pt} (ha : okC p = true) (hb : okC q = true) (hc : okC r = true) (h : 0 < detQ p q r) : backC p q r = false ∧ turnC p q r = 1 := by
  have e : turnC p q r = 1 := by
    rw [turnC_eq ha hb hc]
    rcases sgn_cases (detQ p q r) with ⟨_, k⟩ | ⟨_, k⟩ | ⟨_, k⟩
    · exact k
    · omega
    · omega
  exact ⟨by unfold backC; rw [e]; rfl, e⟩
theorem meet_apart {a b c d : Pt} (hab : a ≠ b) (hcd : c ≠ d) (h : ¬ ((min c.1 d.1 ≤ max a.1 b.1 ∧ min a.1 b.1 ≤ max c.1 d.1) ∧ (min c.2 d.2 ≤ max a.2 b.2 ∧ min a.2 b.2 ≤ max c.2 d.2))) : meetQ a b c d = 0 := by
  unfold meetQ
  split
  · apply Decidable.byContradiction
    intro k
    exact h (meet_boxes ((how_not hab hcd).1 k))
  · rfl
end Go.Proofs.YthphdiigjimchaaGreat

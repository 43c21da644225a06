/- A block's cells, written whole: what it reads as then, and what lies beside it. No program. -/
import Derived.Test.YtngjkmjejijfiaaDoorURow
namespace Go.Proofs.YtngjkmjejijfiaaDoor
set_option linter.unusedVariables false
set_option linter.unusedSimpArgs false
open Go.RowKit

theorem rowAt_setRow {w : World} {g : Nat} {c c' : Array Value} (h : w.rowAt g = some c) : (w.setRow g c').rowAt g = some c' := by
  obtain ⟨t, hb⟩ := rowAt_some h
  unfold World.rowAt World.setRow
  simp [Array.getElem?_modify, hb]
theorem rowAt_setRow_other {w : World} {g k : Nat} {c' : Array Value} (h : k ≠ g) : (w.setRow g c').rowAt k = w.rowAt k := rowAt_of_block (setRow_other w g k c' h)

/-- A block's cells are these then; all others are as they were, and further ones lie behind. -/
def Turned (b : Nat) (c : Array Value) (w w' : World) : Prop := Junk (w.setRow b c) w'

theorem setRow_self {w : World} {b : Nat} {c : Array Value} (h : w.rowAt b = some c) : w.setRow b c = w := by
  obtain ⟨t, hb⟩ := rowAt_some h
  show w.setRow b c = { w with heap := w.heap }
  unfold World.setRow
  congr 1
  apply Array.ext_getElem?
  intro k
  simp only [Array.getElem?_modify]
  by_cases hk : b = k
  · subst hk; rw [if_pos rfl, hb]; simp
  · rw [if_neg hk]
theorem setRow_setRow {w : World} {b : Nat} {c c' : Array Value} : (w.setRow b c).setRow b c' = w.setRow b c' := by
  unfold World.setRow
  congr 1
  apply Array.ext_getElem?
  intro k
  simp only [Array.getElem?_modify]
  by_cases hk : b = k
  · subst hk
    rw [if_pos rfl, if_pos rfl, if_pos rfl]
    cases w.heap[b]? with
    | none => rfl
    | some o => cases o <;> rfl
  · rw [if_neg hk, if_neg hk, if_neg hk]
theorem set2 {w : World} {b i j : Nat} {c : Array Value} {u v : Value} (h : w.rowAt b = some c) : (w.setCell ⟨b, i, none⟩ u).setCell ⟨b, j, none⟩ v = w.setRow b ((c.setIfInBounds i u).setIfInBounds j v) := by
  rw [usetCell_of_row h, usetCell_of_row (rowAt_setRow h), setRow_setRow]
theorem set1 {w : World} {b i : Nat} {c : Array Value} {u : Value} (h : w.rowAt b = some c) : w.setCell ⟨b, i, none⟩ u = w.setRow b (c.setIfInBounds i u) := usetCell_of_row h i u
theorem turned_self {w : World} {b : Nat} {c : Array Value} (h : w.rowAt b = some c) {w' : World} (hj : Junk w w') : Turned b c w w' := by
  unfold Turned; rw [setRow_self h]; exact hj
theorem plus_nil (w : World) : w.plus #[] w.drawn = w := by
  show { w with heap := w.heap ++ #[], drawn := w.drawn } = w
  rw [Array.append_empty]
end Go.Proofs.YtngjkmjejijfiaaDoor

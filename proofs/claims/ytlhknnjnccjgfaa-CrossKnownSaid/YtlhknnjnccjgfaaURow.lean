/- Rows of bytes in blocks, told by functions: what make leaves, one store. -/
import Derived.Test.YtlhknnjnccjgfaaBList
import Derived.Test.YtlhknnjnccjgfaaPlus2
import Derived.Test.YtlhknnjnccjgfaaRow
import Derived.Laws.MakeOwn
import Derived.Laws.CopyRow
namespace Go.Proofs.Ytlhknnjnccjgfaa
set_option linter.unusedVariables false
set_option linter.unusedSimpArgs false
open Go.RowKit

/-- The cells of a row of n bytes. -/
def urow (g : Nat → Nat) (n : Nat) : Array Value := ((List.range n).map (fun i => Value.int .u8 (g i : Int))).toArray
@[simp, go_sem] theorem size_urow (g : Nat → Nat) (n : Nat) : (urow g n).size = n := by simp [urow]
@[simp, go_sem] theorem urow_getElem (g : Nat → Nat) (n i : Nat) (h : i < (urow g n).size) : (urow g n)[i] = .int .u8 (g i : Int) := by simp [urow]
theorem urow_get (g : Nat → Nat) (n i : Nat) (h : i < n) : (urow g n)[i]? = some (.int .u8 (g i : Int)) := by simp [urow, h]
theorem urow_congr {g h : Nat → Nat} {n : Nat} (e : ∀ i, i < n → g i = h i) : urow g n = urow h n := by
  unfold urow; congr 1; apply List.map_congr_left; intro i hi; rw [e i (List.mem_range.1 hi)]
theorem urow_set (g : Nat → Nat) (n k v : Nat) : (urow g n).setIfInBounds k (.int .u8 (v : Int)) = urow (fun i => if i = k then v else g i) n := by
  apply Array.ext_getElem?
  intro i
  rw [Array.getElem?_setIfInBounds]
  by_cases hk : k = i
  · subst hk
    by_cases h : k < n
    · rw [if_pos rfl, if_pos (by simpa using h), urow_get _ _ _ h, if_pos rfl]
    · rw [if_pos rfl, if_neg (by simpa using h), Array.getElem?_eq_none (by simpa using Nat.le_of_not_lt h)]
  · rw [if_neg hk]
    by_cases h : i < n
    · rw [urow_get _ _ _ h, urow_get _ _ _ h, if_neg (Ne.symm hk)]
    · rw [Array.getElem?_eq_none (by simpa using Nat.le_of_not_lt h), Array.getElem?_eq_none (by simpa using Nat.le_of_not_lt h)]

theorem ucell_of_row {W : World} {b : Nat} {c : Array Value} (h : W.rowAt b = some c) (i : Nat) : W.cell? ⟨b, i, none⟩ = c[i]? := by
  obtain ⟨t, hb⟩ := rowAt_some h
  simp [World.cell?, hb]
theorem ufrozen_of_row {W : World} {b : Nat} {c : Array Value} (h : W.rowAt b = some c) (i : Nat) : W.frozen? ⟨b, i, none⟩ = false := by
  obtain ⟨t, hb⟩ := rowAt_some h
  simp [World.frozen?, hb]
theorem usetCell_of_row {W : World} {b : Nat} {c : Array Value} (h : W.rowAt b = some c) (i : Nat) (v : Value) : W.setCell ⟨b, i, none⟩ v = W.setRow b (c.setIfInBounds i v) := by
  obtain ⟨t, hb⟩ := rowAt_some h
  unfold World.setCell World.setRow
  congr 1
  apply Array.ext_getElem?
  intro k
  simp only [Array.getElem?_modify]
  by_cases hk : b = k
  · subst hk; rw [if_pos rfl, if_pos rfl, hb]; simp
  · rw [if_neg hk, if_neg hk]

end Go.Proofs.Ytlhknnjnccjgfaa

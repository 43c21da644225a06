/- Rows of ints in blocks, told by functions: what make leaves, one store, what a sort puts. -/
import Derived.Test.YtgnmoneiiogoaaaSortC
import Derived.Test.YtgnmoneiiogoaaaPlus2
import Derived.Test.YtgnmoneiiogoaaaLists
import Derived.Laws.MakeOwn
namespace Go.Proofs.Ytgnmoneiiogoaaa
set_option linter.unusedVariables false
set_option linter.unusedSimpArgs false
open Go.RowKit

/-- The cells of a row of n ints. -/
def nrow (g : Nat → Int) (n : Nat) : Array Value := ((List.range n).map (fun i => Value.int .i64 (g i))).toArray
@[simp, go_sem] theorem size_nrow (g : Nat → Int) (n : Nat) : (nrow g n).size = n := by simp [nrow]
@[simp, go_sem] theorem nrow_getElem (g : Nat → Int) (n i : Nat) (h : i < (nrow g n).size) : (nrow g n)[i] = .int .i64 (g i) := by simp [nrow]
theorem nrow_get (g : Nat → Int) (n i : Nat) (h : i < n) : (nrow g n)[i]? = some (.int .i64 (g i)) := by simp [nrow, h]
theorem nrow_congr {g h : Nat → Int} {n : Nat} (e : ∀ i, i < n → g i = h i) : nrow g n = nrow h n := by
  unfold nrow; congr 1; apply List.map_congr_left; intro i hi; rw [e i (List.mem_range.1 hi)]
theorem nrow_set (g : Nat → Int) (n k : Nat) (v : Int) : (nrow g n).setIfInBounds k (.int .i64 v) = nrow (fun i => if i = k then v else g i) n := by
  apply Array.ext_getElem?
  intro i
  rw [Array.getElem?_setIfInBounds]
  by_cases hk : k = i
  · subst hk
    by_cases h : k < n
    · rw [if_pos rfl, if_pos (by simpa using h), nrow_get _ _ _ h, if_pos rfl]
    · rw [if_pos rfl, if_neg (by simpa using h), Array.getElem?_eq_none (by simpa using Nat.le_of_not_lt h)]
  · rw [if_neg hk]
    by_cases h : i < n
    · rw [nrow_get _ _ _ h, nrow_get _ _ _ h, if_neg (Ne.symm hk)]
    · rw [Array.getElem?_eq_none (by simpa using Nat.le_of_not_lt h), Array.getElem?_eq_none (by simpa using Nat.le_of_not_lt h)]

theorem made_ints (n : Nat) (hn : n ≤ 1099511627776) (w : World) : (Instr.makeSlice 29 (.int .i64 n) (.int .i64 n)).run Try.prog w = .ok (.slice (some ⟨w.heap.size, 0, none⟩) n n) (w.alloc (.cells (nrow (fun _ => 0) n) 3)) := by
  obtain ⟨i, hi, hz, hs, hb⟩ := info_int
  have h := run_make (P := Try.prog) w 29 3 i (.int .i64 0) Try.underlying29 hi hz .i64 .i64 n n (by omega) (by omega) (by rw [hb]; omega) (by omega)
  rw [h]
  have e : madeCells (Value.int .i64 0).cells ((n : Int).toNat * i.size) = nrow (fun _ => 0) n := by
    rw [hs, Nat.mul_one, Int.toNat_natCast]
    apply Array.ext_getElem?
    intro k
    by_cases hk : k < n
    · rw [nrow_get _ _ _ hk]
      simp [madeCells, hk, Value.cells, Nat.mod_one]
    · rw [Array.getElem?_eq_none (by rw [size_madeCells]; omega), Array.getElem?_eq_none (by simpa using Nat.le_of_not_lt hk)]
  rw [e, Int.toNat_natCast]

/-- What a sort puts into a row. -/
theorem putRow_nrow {z : Nat} (W : World) (blk n : Nat) (g : Nat → Int) (d : Array (Fin (z + 1))) (h : W.rowAt blk = some (nrow g n)) (hd : d.size = n) : Sort.putRow encN W blk 0 d = W.setRow blk (nrow (fun i => (d[i]!.val : Nat)) n) := by
  obtain ⟨t, hb⟩ := rowAt_some h
  unfold Sort.putRow Sort.mapBlock World.setRow
  congr 1
  apply Array.ext_getElem?
  intro k
  simp only [Array.getElem?_modify]
  by_cases hk : blk = k
  · subst hk
    rw [if_pos rfl, if_pos rfl, hb]
    simp only [Option.map_some, Sort.onCells]
    congr 2
    apply Array.ext_getElem?
    intro j
    simp only [Sort.putCells, Array.getElem?_mapIdx]
    by_cases hj : j < n
    · rw [nrow_get _ _ _ hj, nrow_get _ _ _ hj, Option.map_some, if_pos ⟨by omega, by omega⟩]; rfl
    · rw [Array.getElem?_eq_none (by simpa using Nat.le_of_not_lt hj), Array.getElem?_eq_none (by simpa using Nat.le_of_not_lt hj)]; rfl
  · rw [if_neg hk, if_neg hk]

theorem cell_of_row {W : World} {b : Nat} {c : Array Value} (h : W.rowAt b = some c) (i : Nat) : W.cell? ⟨b, i, none⟩ = c[i]? := by
  obtain ⟨t, hb⟩ := rowAt_some h
  simp [World.cell?, hb]
theorem frozen_of_row {W : World} {b : Nat} {c : Array Value} (h : W.rowAt b = some c) (i : Nat) : W.frozen? ⟨b, i, none⟩ = false := by
  obtain ⟨t, hb⟩ := rowAt_some h
  simp [World.frozen?, hb]
theorem setCell_of_row {W : World} {b : Nat} {c : Array Value} (h : W.rowAt b = some c) (i : Nat) (v : Value) : W.setCell ⟨b, i, none⟩ v = W.setRow b (c.setIfInBounds i v) := by
  obtain ⟨t, hb⟩ := rowAt_some h
  unfold World.setCell World.setRow
  congr 1
  apply Array.ext_getElem?
  intro k
  simp only [Array.getElem?_modify]
  by_cases hk : b = k
  · subst hk; rw [if_pos rfl, if_pos rfl, hb]; simp
  · rw [if_neg hk, if_neg hk]
end Go.Proofs.Ytgnmoneiiogoaaa

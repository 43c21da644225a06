/- Rows of bytes in blocks, told by functions: what make leaves, one store. -/
import Derived.Test.YtngjkmjejijfiaaDoorBList
import Derived.Test.YtngjkmjejijfiaaDoorPlus2
import Derived.Test.YtngjkmjejijfiaaDoorRow
import Derived.Laws.MakeOwn
import Derived.Laws.CopyRow
namespace Go.Proofs.YtngjkmjejijfiaaDoor
set_option linter.unusedVariables false
set_option linter.unusedSimpArgs false
open Go.RowKit

/-- The cells of a row of n bytes. -/
def urow (g : Nat → Nat) (n : Nat) : Array Value := ((List.range n).map (fun i => Value.int .u8 (g i : Int))).toArray
@[simp, go_sem] theorem size_urow (g : Nat → Nat) (n : Nat) : (urow g n).size = n := by simp [urow]
@[simp, go_sem] theorem urow_getElem (g : Nat → Nat) (n i : Nat) (h : i < (urow g n).size) : (urow g n)[i] = .int .u8 (g i : Int) := by simp [urow]
theorem urow_get (g : Nat → Nat) (n i : Nat) (h : i < n) : (urow g n)[i]? = some (.int .u8 (g i : Int)) := by simp [urow, h]
theorem urow_congr {g h : Nat → Nat} {n : Nat} (e : ∀ i, i < n → g i = h i) : urow g n = urow h n := by
  unfold urow; congr 1; apply List.map_congr_left; intro i hi; rw [e i (List.mem_range.1 hi)]
theorem urow_set (g : Nat → Nat) (n k v : Nat) : (urow g n).setIfInBounds k (.int .u8 (v : Int)) = urow (fun i => if i = k then v else g i) n := by
  apply Array.ext_getElem?
  intro i
  rw [Array.getElem?_setIfInBounds]
  by_cases hk : k = i
  · subst hk
    by_cases h : k < n
    · rw [if_pos rfl, if_pos (by simpa using h), urow_get _ _ _ h, if_pos rfl]
    · rw [if_pos rfl, if_neg (by simpa using h), Array.getElem?_eq_none (by simpa using Nat.le_of_not_lt h)]
  · rw [if_neg hk]
    by_cases h : i < n
    · rw [urow_get _ _ _ h, urow_get _ _ _ h, if_neg (Ne.symm hk)]
    · rw [Array.getElem?_eq_none (by simpa using Nat.le_of_not_lt h), Array.getElem?_eq_none (by simpa using Nat.le_of_not_lt h)]

theorem made_bytes (n : Nat) (hn : n ≤ 1099511627776) (w : World) : (Instr.makeSlice 32 (.int .i64 n) (.int .i64 n)).run Tryd.prog w = .ok (.slice (some ⟨w.heap.size, 0, none⟩) n n) (w.alloc (.cells (urow (fun _ => 0) n) 5)) := by
  obtain ⟨i, hi, hz, hs, hb⟩ := info_u8
  have h := run_make (P := Tryd.prog) w 32 5 i (.int .u8 0) Tryd.underlying32 hi hz .i64 .i64 n n (by omega) (by omega) (by rw [hb]; omega) (by omega)
  rw [h]
  have e : madeCells (Value.int .u8 0).cells ((n : Int).toNat * i.size) = urow (fun _ => 0) n := by
    rw [hs, Nat.mul_one, Int.toNat_natCast]
    apply Array.ext_getElem?
    intro k
    by_cases hk : k < n
    · rw [urow_get _ _ _ hk]
      simp [madeCells, hk, Value.cells, Nat.mod_one]
    · rw [Array.getElem?_eq_none (by rw [size_madeCells]; omega), Array.getElem?_eq_none (by simpa using Nat.le_of_not_lt hk)]
  rw [e, Int.toNat_natCast]

theorem ucell_of_row {W : World} {b : Nat} {c : Array Value} (h : W.rowAt b = some c) (i : Nat) : W.cell? ⟨b, i, none⟩ = c[i]? := by
  obtain ⟨t, hb⟩ := rowAt_some h
  simp [World.cell?, hb]
theorem ufrozen_of_row {W : World} {b : Nat} {c : Array Value} (h : W.rowAt b = some c) (i : Nat) : W.frozen? ⟨b, i, none⟩ = false := by
  obtain ⟨t, hb⟩ := rowAt_some h
  simp [World.frozen?, hb]
theorem usetCell_of_row {W : World} {b : Nat} {c : Array Value} (h : W.rowAt b = some c) (i : Nat) (v : Value) : W.setCell ⟨b, i, none⟩ v = W.setRow b (c.setIfInBounds i v) := by
  obtain ⟨t, hb⟩ := rowAt_some h
  unfold World.setCell World.setRow
  congr 1
  apply Array.ext_getElem?
  intro k
  simp only [Array.getElem?_modify]
  by_cases hk : b = k
  · subst hk; rw [if_pos rfl, if_pos rfl, hb]; simp
  · rw [if_neg hk, if_neg hk]

set_option maxRecDepth 100000 in
/-- A copy to the row's front. -/
theorem copied_bytes (w : World) (n : Nat) (a : Addr) (L : List UInt8) (cap : Nat) (hL : L.length ≤ n) (hR : BReads w (some a) L.length L) :
    (Builtin.copy_ #[32, 32] 3 #[.slice (some ⟨w.heap.size, 0, none⟩) n n, .slice (some a) L.length cap]).run Tryd.prog (w.alloc (.cells (urow (fun _ => 0) n) 5)) =
      .ok (goInt L.length) (w.alloc (.cells (urow (fun i => byteAt L i) n) 5)) := by
  have hR2 := hR.below ((Below.refl w.heap.size w).alloc (Nat.le_refl _) (.cells (urow (fun _ => 0) n) 5))
  have h := run_copy_row (P := Tryd.prog) (w.alloc (.cells (urow (fun _ => 0) n) 5)) 32 32 3 5 w.heap.size 0 n n a L.length cap (urow (fun _ => 0) n) 5 (bcells L) Tryd.underlying32 (by kernel_rfl)
    (by show (w.heap.push _)[w.heap.size]? = _; simp) (by rw [bcells_len]; exact (Nat.min_eq_left hL).symm) hR2.cells (by simp; omega) (bcells_one L)
  rw [h, bcells_len, setRow_alloc_at _ _ _ _ _ rfl]
  congr 3
  apply Array.ext_getElem?
  intro k
  by_cases hk : k < n
  · rw [urow_get _ _ _ hk]
    by_cases hkl : k < L.length
    · have hg := bcells_get L k hkl
      rw [List.getElem?_eq_getElem (by simpa using hkl)] at hg
      injection hg with hg
      simp [List.getElem?_append, hkl, hg]
    · have hb : byteAt L k = 0 := by unfold byteAt; simp [List.getD_eq_getElem?_getD, hkl]
      simp [List.getElem?_append, hkl, hb]
      rw [show L.length + (k - L.length) = k by omega, urow_get _ _ _ hk]; rfl
  · rw [Array.getElem?_eq_none (by simp; omega), Array.getElem?_eq_none (by simpa using Nat.le_of_not_lt hk)]
end Go.Proofs.YtngjkmjejijfiaaDoor

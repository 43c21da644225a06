/- Rows of ints in blocks, told by functions: what make leaves, one store, a copy (without the sorts that XNRow brings). -/
import Derived.Test.YtabjhmblfeoiaaaLists
import Derived.Test.YtabjhmblfeoiaaaPlus2
import Derived.Test.YtabjhmblfeoiaaaRow
import Derived.Laws.MakeOwn
import Derived.Laws.CopyRow
namespace Go.Proofs.Ytabjhmblfeoiaaa
set_option linter.unusedVariables false
set_option linter.unusedSimpArgs false
open Go.RowKit

/-- The cells of a row of n ints. -/
def irow (g : Nat → Int) (n : Nat) : Array Value := ((List.range n).map (fun i => Value.int .i64 (g i))).toArray
@[simp, go_sem] theorem size_irow (g : Nat → Int) (n : Nat) : (irow g n).size = n := by simp [irow]
@[simp, go_sem] theorem irow_getElem (g : Nat → Int) (n i : Nat) (h : i < (irow g n).size) : (irow g n)[i] = .int .i64 (g i) := by simp [irow]
theorem irow_get (g : Nat → Int) (n i : Nat) (h : i < n) : (irow g n)[i]? = some (.int .i64 (g i)) := by simp [irow, h]
theorem irow_congr {g h : Nat → Int} {n : Nat} (e : ∀ i, i < n → g i = h i) : irow g n = irow h n := by
  unfold irow; congr 1; apply List.map_congr_left; intro i hi; rw [e i (List.mem_range.1 hi)]
theorem irow_set (g : Nat → Int) (n k : Nat) (v : Int) : (irow g n).setIfInBounds k (.int .i64 v) = irow (fun i => if i = k then v else g i) n := by
  apply Array.ext_getElem?
  intro i
  rw [Array.getElem?_setIfInBounds]
  by_cases hk : k = i
  · subst hk
    by_cases h : k < n
    · rw [if_pos rfl, if_pos (by simpa using h), irow_get _ _ _ h, if_pos rfl]
    · rw [if_pos rfl, if_neg (by simpa using h), Array.getElem?_eq_none (by simpa using Nat.le_of_not_lt h)]
  · rw [if_neg hk]
    by_cases h : i < n
    · rw [irow_get _ _ _ h, irow_get _ _ _ h, if_neg (Ne.symm hk)]
    · rw [Array.getElem?_eq_none (by simpa using Nat.le_of_not_lt h), Array.getElem?_eq_none (by simpa using Nat.le_of_not_lt h)]

theorem made_irow (n : Nat) (hn : n ≤ 1099511627776) (w : World) : (Instr.makeSlice 22 (.int .i64 n) (.int .i64 n)).run Try.prog w = .ok (.slice (some ⟨w.heap.size, 0, none⟩) n n) (w.alloc (.cells (irow (fun _ => 0) n) 3)) := by
  obtain ⟨i, hi, hz, hs, hb⟩ := info_int
  have h := run_make (P := Try.prog) w 22 3 i (.int .i64 0) Try.underlying22 hi hz .i64 .i64 n n (by omega) (by omega) (by rw [hb]; omega) (by omega)
  rw [h]
  have e : madeCells (Value.int .i64 0).cells ((n : Int).toNat * i.size) = irow (fun _ => 0) n := by
    rw [hs, Nat.mul_one, Int.toNat_natCast]
    apply Array.ext_getElem?
    intro k
    by_cases hk : k < n
    · rw [irow_get _ _ _ hk]
      simp [madeCells, hk, Value.cells, Nat.mod_one]
    · rw [Array.getElem?_eq_none (by rw [size_madeCells]; omega), Array.getElem?_eq_none (by simpa using Nat.le_of_not_lt hk)]
  rw [e, Int.toNat_natCast]

/-- A list's ints, 0 behind them. -/
def copyI (L : List Int) (i : Nat) : Int := L.getD i 0
attribute [local simp] ints_len
/-- A copy to the row's front. -/
theorem copied_ints (w : World) (n : Nat) (a : Addr) (L : List Int) (cap : Nat) (hL : L.length ≤ n) (hR : Reads w (some a) L.length L) :
    (Builtin.copy_ #[22, 22] 3 #[.slice (some ⟨w.heap.size, 0, none⟩) n n, .slice (some a) L.length cap]).run Try.prog (w.alloc (.cells (irow (fun _ => 0) n) 3)) =
      .ok (goInt L.length) (w.alloc (.cells (irow (copyI L) n) 3)) := by
  have hR2 := hR.below ((Below.refl w.heap.size w).alloc (Nat.le_refl _) (.cells (irow (fun _ => 0) n) 3))
  have h := run_copy_row (P := Try.prog) (w.alloc (.cells (irow (fun _ => 0) n) 3)) 22 22 3 3 w.heap.size 0 n n a L.length cap (irow (fun _ => 0) n) 3 (ints L) Try.underlying22 (by kernel_rfl)
    (by show (w.heap.push _)[w.heap.size]? = _; simp) (by rw [ints_len]; exact (Nat.min_eq_left hL).symm) hR2.cells (by simp; omega) (ints_one L)
  rw [h, ints_len, setRow_alloc_at _ _ _ _ _ rfl]
  congr 3
  apply Array.ext_getElem?
  intro k
  by_cases hk : k < n
  · rw [irow_get _ _ _ hk]
    unfold copyI
    by_cases hkl : k < L.length
    · have hg := ints_get L k hkl
      rw [List.getElem?_eq_getElem (by simpa using hkl)] at hg
      injection hg with hg
      simp [List.getElem?_append, hkl, hg]
    · have hb : L.getD k 0 = 0 := by simp [List.getD_eq_getElem?_getD, hkl]
      simp [List.getElem?_append, hkl, hb]
      rw [show L.length + (k - L.length) = k by omega, irow_get _ _ _ hk]
  · rw [Array.getElem?_eq_none (by simp; omega), Array.getElem?_eq_none (by simpa using Nat.le_of_not_lt hk)]
end Go.Proofs.Ytabjhmblfeoiaaa

/- Rows of bools. -/
import Derived.Test.YtnpkhhchbahcpaaRgChk
import Derived.Laws.MakeOwn
namespace Go.Proofs.Ytnpkhhchbahcpaa
set_option linter.unusedVariables false
set_option linter.unusedSimpArgs false
open Go.RowKit

/-- A row of marks. -/
def brw (us : List Bool) : Array Value := (us.map Value.bool).toArray
theorem brw_get {us : List Bool} {k : Nat} {x : Bool} (h : us[k]? = some x) : (brw us)[k]? = some (.bool x) := by simp [brw, h]
theorem brw_set (us : List Bool) (k : Nat) (x : Bool) : (brw us).setIfInBounds k (.bool x) = brw (us.set k x) := by
  unfold brw
  rw [List.setIfInBounds_toArray, List.map_set]
theorem info_bool : ∃ i, Try.prog.info? 4 = some i ∧ i.zero = some (.bool false) ∧ i.size = 1 ∧ i.bytes = 1 := by
  have h : (Try.prog.info? 4).map (fun i => (i.zero, i.size, i.bytes)) = some (some (.bool false), 1, 1) := by kernel_rfl
  cases hi : Try.prog.info? 4 with
  | none => rw [hi] at h; cases h
  | some i =>
    rw [hi] at h
    simp at h
    exact ⟨i, rfl, h.1, h.2.1, h.2.2⟩
theorem made_brw (n : Nat) (hn : n ≤ 1099511627776) (w : World) : (Instr.makeSlice 54 (.int .i64 n) (.int .i64 n)).run Try.prog w = .ok (.slice (some ⟨w.heap.size, 0, none⟩) n n) (w.alloc (.cells (brw (List.replicate n false)) 4)) := by
  obtain ⟨i, hi, hz, hs, hb⟩ := info_bool
  have h := run_make (P := Try.prog) w 54 4 i (.bool false) Try.underlying54 hi hz .i64 .i64 n n (by omega) (by omega) (by rw [hb]; omega) (by omega)
  rw [h]
  have e : madeCells (Value.bool false).cells ((n : Int).toNat * i.size) = brw (List.replicate n false) := by
    rw [hs, Nat.mul_one, Int.toNat_natCast]
    apply Array.ext_getElem?
    intro k
    by_cases hk : k < n
    · rw [brw_get (x := false) (by simp [hk])]
      simp [madeCells, hk, Value.cells, Nat.mod_one]
    · rw [Array.getElem?_eq_none (by rw [size_madeCells]; omega), Array.getElem?_eq_none (by simp [brw]; omega)]
  rw [e, Int.toNat_natCast]
end Go.Proofs.Ytnpkhhchbahcpaa

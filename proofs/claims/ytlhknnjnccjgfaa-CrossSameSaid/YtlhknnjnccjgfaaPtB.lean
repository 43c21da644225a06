/- Contracts of package point: the four methods of extent. -/
import Derived.Test.YtlhknnjnccjgfaaPtOne
import Derived.Test.YtlhknnjnccjgfaaRowSet
namespace Go.Proofs.Ytlhknnjnccjgfaa
set_option linter.unusedVariables false
set_option linter.unusedSimpArgs false
open Go.RowKit

/-- The four cells of an extent, or of a box. -/
def xcells (lx ly hx hy : Int) : Array Value := #[.int .i64 lx, .int .i64 ly, .int .i64 hx, .int .i64 hy]
theorem turned_set {w : World} {b : Nat} {c : Array Value} (i : Nat) {v : Value} (h : w.rowAt b = some c) {W : World} (hj : Junk (w.setCell ⟨b, i, none⟩ v) W) : Turned b (c.setIfInBounds i v) w W := by
  unfold Turned; rw [← set1 h]; exact hj

set_option maxHeartbeats 1000000 in
theorem n_ptLeft (w : World) (g : Nat) (lx ly hx hy x y : Int) (h : w.rowAt g = some (xcells lx ly hx hy)) : Calls Try.prog 31 #[.pointer (some ⟨g, 0, none⟩), pt x y] w fun e w' => e = .returned (.tuple #[]) ∧ Turned g (xcells (min lx x) ly hx hy) w w' := by
  have hg : g < w.heap.size := World.block_lt_of_cell? _ _ (ucell_of_row h 0)
  have c0 := ucell_of_row h 0
  have z0 := ufrozen_of_row h
  simp [xcells] at c0
  have HR := Lib.hid h
  obtain ⟨m, hm⟩ : ∃ m, min lx x = m := ⟨_, rfl⟩
  rw [hm]
  have HM := Lib.hid hm
  clear h hm
  unfold pt
  go_enter Try.func31, Try.ntmps31
  go_wp2
  go_region
  all_goals go_wp2
  all_goals
    go_end0
    refine ⟨rfl, ?_⟩
    first
      | (have hm : m = x := by (rw [← HM.out]; omega)
         rw [hm]
         exact turned_set 0 HR.out (junk_of_below (by (repeat' (first | (with_reducible exact Below.refl _ _) | (with_reducible assumption) | (with_reducible refine Below.alloc ?_ ?_ _) | (with_reducible refine Below.drew ?_) | (with_reducible refine below_drewN ?_ _) | (with_reducible refine below_plus ?_ ?_ _ _) | (with_reducible refine Below.setCell ?_ ?_ _) | (with_reducible refine Below.setRow ?_ ?_ _) | go_size)))))
      | (have hm : m = lx := by (rw [← HM.out]; omega)
         rw [hm]
         exact turned_set 0 HR.out (junk_of_below (by (repeat' (first | (with_reducible exact Below.refl _ _) | (with_reducible assumption) | (with_reducible refine Below.alloc ?_ ?_ _) | (with_reducible refine Below.drew ?_) | (with_reducible refine below_drewN ?_ _) | (with_reducible refine below_plus ?_ ?_ _ _) | (with_reducible refine Below.setCell ?_ ?_ _) | (with_reducible refine Below.setRow ?_ ?_ _) | go_size)))))
set_option maxHeartbeats 1000000 in
theorem n_ptDown (w : World) (g : Nat) (lx ly hx hy x y : Int) (h : w.rowAt g = some (xcells lx ly hx hy)) : Calls Try.prog 32 #[.pointer (some ⟨g, 0, none⟩), pt x y] w fun e w' => e = .returned (.tuple #[]) ∧ Turned g (xcells lx (min ly y) hx hy) w w' := by
  have hg : g < w.heap.size := World.block_lt_of_cell? _ _ (ucell_of_row h 0)
  have c0 := ucell_of_row h 1
  have z0 := ufrozen_of_row h
  simp [xcells] at c0
  have HR := Lib.hid h
  obtain ⟨m, hm⟩ : ∃ m, min ly y = m := ⟨_, rfl⟩
  rw [hm]
  have HM := Lib.hid hm
  clear h hm
  unfold pt
  go_enter Try.func32, Try.ntmps32
  go_wp2
  go_region
  all_goals go_wp2
  all_goals
    go_end0
    refine ⟨rfl, ?_⟩
    first
      | (have hm : m = y := by (rw [← HM.out]; omega)
         rw [hm]
         exact turned_set 1 HR.out (junk_of_below (by (repeat' (first | (with_reducible exact Below.refl _ _) | (with_reducible assumption) | (with_reducible refine Below.alloc ?_ ?_ _) | (with_reducible refine Below.drew ?_) | (with_reducible refine below_drewN ?_ _) | (with_reducible refine below_plus ?_ ?_ _ _) | (with_reducible refine Below.setCell ?_ ?_ _) | (with_reducible refine Below.setRow ?_ ?_ _) | go_size)))))
      | (have hm : m = ly := by (rw [← HM.out]; omega)
         rw [hm]
         exact turned_set 1 HR.out (junk_of_below (by (repeat' (first | (with_reducible exact Below.refl _ _) | (with_reducible assumption) | (with_reducible refine Below.alloc ?_ ?_ _) | (with_reducible refine Below.drew ?_) | (with_reducible refine below_drewN ?_ _) | (with_reducible refine below_plus ?_ ?_ _ _) | (with_reducible refine Below.setCell ?_ ?_ _) | (with_reducible refine Below.setRow ?_ ?_ _) | go_size)))))
set_option maxHeartbeats 1000000 in
theorem n_ptRight (w : World) (g : Nat) (lx ly hx hy x y : Int) (h : w.rowAt g = some (xcells lx ly hx hy)) : Calls Try.prog 33 #[.pointer (some ⟨g, 0, none⟩), pt x y] w fun e w' => e = .returned (.tuple #[]) ∧ Turned g (xcells lx ly (max hx x) hy) w w' := by
  have hg : g < w.heap.size := World.block_lt_of_cell? _ _ (ucell_of_row h 0)
  have c0 := ucell_of_row h 2
  have z0 := ufrozen_of_row h
  simp [xcells] at c0
  have HR := Lib.hid h
  obtain ⟨m, hm⟩ : ∃ m, max hx x = m := ⟨_, rfl⟩
  rw [hm]
  have HM := Lib.hid hm
  clear h hm
  unfold pt
  go_enter Try.func33, Try.ntmps33
  go_wp2
  go_region
  all_goals go_wp2
  all_goals
    go_end0
    refine ⟨rfl, ?_⟩
    first
      | (have hm : m = x := by (rw [← HM.out]; omega)
         rw [hm]
         exact turned_set 2 HR.out (junk_of_below (by (repeat' (first | (with_reducible exact Below.refl _ _) | (with_reducible assumption) | (with_reducible refine Below.alloc ?_ ?_ _) | (with_reducible refine Below.drew ?_) | (with_reducible refine below_drewN ?_ _) | (with_reducible refine below_plus ?_ ?_ _ _) | (with_reducible refine Below.setCell ?_ ?_ _) | (with_reducible refine Below.setRow ?_ ?_ _) | go_size)))))
      | (have hm : m = hx := by (rw [← HM.out]; omega)
         rw [hm]
         exact turned_set 2 HR.out (junk_of_below (by (repeat' (first | (with_reducible exact Below.refl _ _) | (with_reducible assumption) | (with_reducible refine Below.alloc ?_ ?_ _) | (with_reducible refine Below.drew ?_) | (with_reducible refine below_drewN ?_ _) | (with_reducible refine below_plus ?_ ?_ _ _) | (with_reducible refine Below.setCell ?_ ?_ _) | (with_reducible refine Below.setRow ?_ ?_ _) | go_size)))))
set_option maxHeartbeats 1000000 in
theorem n_ptUp (w : World) (g : Nat) (lx ly hx hy x y : Int) (h : w.rowAt g = some (xcells lx ly hx hy)) : Calls Try.prog 34 #[.pointer (some ⟨g, 0, none⟩), pt x y] w fun e w' => e = .returned (.tuple #[]) ∧ Turned g (xcells lx ly hx (max hy y)) w w' := by
  have hg : g < w.heap.size := World.block_lt_of_cell? _ _ (ucell_of_row h 0)
  have c0 := ucell_of_row h 3
  have z0 := ufrozen_of_row h
  simp [xcells] at c0
  have HR := Lib.hid h
  obtain ⟨m, hm⟩ : ∃ m, max hy y = m := ⟨_, rfl⟩
  rw [hm]
  have HM := Lib.hid hm
  clear h hm
  unfold pt
  go_enter Try.func34, Try.ntmps34
  go_wp2
  go_region
  all_goals go_wp2
  all_goals
    go_end0
    refine ⟨rfl, ?_⟩
    first
      | (have hm : m = y := by (rw [← HM.out]; omega)
         rw [hm]
         exact turned_set 3 HR.out (junk_of_below (by (repeat' (first | (with_reducible exact Below.refl _ _) | (with_reducible assumption) | (with_reducible refine Below.alloc ?_ ?_ _) | (with_reducible refine Below.drew ?_) | (with_reducible refine below_drewN ?_ _) | (with_reducible refine below_plus ?_ ?_ _ _) | (with_reducible refine Below.setCell ?_ ?_ _) | (with_reducible refine Below.setRow ?_ ?_ _) | go_size)))))
      | (have hm : m = hy := by (rw [← HM.out]; omega)
         rw [hm]
         exact turned_set 3 HR.out (junk_of_below (by (repeat' (first | (with_reducible exact Below.refl _ _) | (with_reducible assumption) | (with_reducible refine Below.alloc ?_ ?_ _) | (with_reducible refine Below.drew ?_) | (with_reducible refine below_drewN ?_ _) | (with_reducible refine below_plus ?_ ?_ _ _) | (with_reducible refine Below.setCell ?_ ?_ _) | (with_reducible refine Below.setRow ?_ ?_ _) | go_size)))))

theorem results_box {fn : Func} {p : Tmp} (h : fn.results = #[.cell p 38]) (tmps : Array Value) (w : World) (g : Nat) (c : Array Value)
    (hp : tmps.getD p undef = .pointer (some ⟨g, 0, none⟩)) (hr : w.rowAt g = some c) (hc : c.size = 4) : (results fn tmps).run Try.prog w = .ok (.agg c) w := by
  obtain ⟨ty, hg⟩ := rowAt_some hr
  have hp' : tmps[p]?.getD undef = .pointer (some ⟨g, 0, none⟩) := by simpa using hp
  simp [results, h, hp', asAddr, run_loadVar_row w g ty _ c (0, 0) _ hg Try.underlying38 rfl (by rw [hc]; kernel_rfl)]
theorem results_box2 {fn : Func} {p t : Tmp} (h : fn.results = #[.cell p 38, .tmp t]) (tmps : Array Value) (w : World) (g : Nat) (c : Array Value)
    (hp : tmps.getD p undef = .pointer (some ⟨g, 0, none⟩)) (hr : w.rowAt g = some c) (hc : c.size = 4) : (results fn tmps).run Try.prog w = .ok (.tuple #[.agg c, tmps.getD t undef]) w := by
  obtain ⟨ty, hg⟩ := rowAt_some hr
  have hp' : tmps[p]?.getD undef = .pointer (some ⟨g, 0, none⟩) := by simpa using hp
  simp [results, h, hp', asAddr, run_loadVar_row w g ty _ c (0, 0) _ hg Try.underlying38 rfl (by rw [hc]; kernel_rfl)]

set_option maxHeartbeats 1000000 in
theorem n_ptBox (w : World) (g : Nat) (lx ly hx hy : Int) (h : w.rowAt g = some (xcells lx ly hx hy)) (b1 : -1099511627775 ≤ hx ∧ hx ≤ 1099511627775) (b2 : -1099511627775 ≤ hy ∧ hy ≤ 1099511627775) :
    Calls Try.prog 35 #[.pointer (some ⟨g, 0, none⟩)] w fun e w' => e = .returned (bxV lx ly (hx + 1) (hy + 1)) ∧ Junk w w' := by
  have hg : g < w.heap.size := World.block_lt_of_cell? _ _ (ucell_of_row h 0)
  have c0 := ucell_of_row h 0
  have c1 := ucell_of_row h 1
  have c2 := ucell_of_row h 2
  have c3 := ucell_of_row h 3
  have e1 : IntKind.i64.wrap (hx + 1) = hx + 1 := by simp [IntKind.wrap, IntKind.signed, IntKind.bits]; omega
  have e2 : IntKind.i64.wrap (hy + 1) = hy + 1 := by simp [IntKind.wrap, IntKind.signed, IntKind.bits]; omega
  simp [xcells] at c0 c1 c2 c3
  have HR := Lib.hid h
  clear h
  unfold bxV
  go_enter Try.func35, Try.ntmps35
  go_wp2
  go_region
  all_goals go_wp2
  all_goals refine bodyPost_ret (results_box rfl _ _ w.heap.size #[.int .i64 lx, .int .i64 ly, .int .i64 (hx + 1), .int .i64 (hy + 1)] rfl (by simp [go_sem]) rfl) rfl ⟨rfl, junk_of_below (by (repeat' (first | (with_reducible exact Below.refl _ _) | (with_reducible assumption) | (with_reducible refine Below.alloc ?_ ?_ _) | (with_reducible refine Below.drew ?_) | (with_reducible refine below_drewN ?_ _) | (with_reducible refine below_plus ?_ ?_ _ _) | (with_reducible refine Below.setCell ?_ ?_ _) | (with_reducible refine Below.setRow ?_ ?_ _) | go_size)))⟩
end Go.Proofs.Ytlhknnjnccjgfaa

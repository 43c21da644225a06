/- Worlds with blocks behind, one more block, and blocks behind again: what lies in front of all of them reads, and is written, as it stands there. -/
import Derived.Test.YtngjkmjejijfiaaDoorRow
namespace Go.Proofs.YtngjkmjejijfiaaDoor
set_option linter.unusedVariables false
set_option linter.unusedSimpArgs false
open Go.RowKit
section
variable (w : World) (J K : Array Obj) (d e n i : Nat) (o : Obj) (v : Value) (c : Array Value)
theorem lt_pa (hn : n < w.heap.size) : n < ((w.plus J d).alloc o).heap.size := by simp; omega
theorem lt_p (hn : n < w.heap.size) : n < (w.plus J d).heap.size := by simp; omega
@[go_sem] theorem cell_pa (hn : n < w.heap.size) : ((w.plus J d).alloc o).cell? ⟨n, i, none⟩ = w.cell? ⟨n, i, none⟩ := by
  rw [World.cell?_alloc_past _ _ _ (lt_p w J d n hn), cell_plus _ _ _ _ _ hn]
@[go_sem] theorem cell_pap (hn : n < w.heap.size) : (((w.plus J d).alloc o).plus K e).cell? ⟨n, i, none⟩ = w.cell? ⟨n, i, none⟩ := by
  rw [cell_plus _ _ _ _ _ (lt_pa w J d n o hn), cell_pa _ _ _ _ _ _ hn]
@[go_sem] theorem frozen_pa (hn : n < w.heap.size) : ((w.plus J d).alloc o).frozen? ⟨n, i, none⟩ = w.frozen? ⟨n, i, none⟩ := by
  rw [World.frozen?_alloc_past _ _ _ (lt_p w J d n hn), frozen_plus _ _ _ _ _ hn]
@[go_sem] theorem frozen_pap (hn : n < w.heap.size) : (((w.plus J d).alloc o).plus K e).frozen? ⟨n, i, none⟩ = w.frozen? ⟨n, i, none⟩ := by
  rw [frozen_plus _ _ _ _ _ (lt_pa w J d n o hn), frozen_pa _ _ _ _ _ _ hn]
@[go_sem] theorem rowAt_pa (hn : n < w.heap.size) : ((w.plus J d).alloc o).rowAt n = w.rowAt n := by
  rw [rowAt_alloc_past _ _ _ (lt_p w J d n hn), rowAt_plus _ _ _ _ hn]
@[go_sem] theorem rowAt_pap (hn : n < w.heap.size) : (((w.plus J d).alloc o).plus K e).rowAt n = w.rowAt n := by
  rw [rowAt_plus _ _ _ _ (lt_pa w J d n o hn), rowAt_pa _ _ _ _ _ hn]
@[go_sem] theorem setCell_pa (hn : n < w.heap.size) : ((w.plus J d).alloc o).setCell ⟨n, i, none⟩ v = ((w.setCell ⟨n, i, none⟩ v).plus J d).alloc o := by
  rw [World.setCell_alloc_past _ _ _ _ (lt_p w J d n hn), setCell_plus _ _ _ _ _ _ hn]
@[go_sem] theorem setCell_pap (hn : n < w.heap.size) : (((w.plus J d).alloc o).plus K e).setCell ⟨n, i, none⟩ v = (((w.setCell ⟨n, i, none⟩ v).plus J d).alloc o).plus K e := by
  rw [setCell_plus _ _ _ _ _ _ (lt_pa w J d n o hn), setCell_pa _ _ _ _ _ _ _ hn]
@[go_sem] theorem setRow_pa (hn : n < w.heap.size) : ((w.plus J d).alloc o).setRow n c = ((w.setRow n c).plus J d).alloc o := by
  rw [setRow_alloc_past _ _ _ _ (lt_p w J d n hn), setRow_plus _ _ _ _ _ hn]
@[go_sem] theorem setRow_pap (hn : n < w.heap.size) : (((w.plus J d).alloc o).plus K e).setRow n c = (((w.setRow n c).plus J d).alloc o).plus K e := by
  rw [setRow_plus _ _ _ _ _ (lt_pa w J d n o hn), setRow_pa _ _ _ _ _ _ hn]
end
theorem below_d (B : Nat) (w : World) (J : Array Obj) (d d' : Nat) : Below B (w.plus J d) (w.plus J d') := ⟨rfl, rfl, rfl, Nat.le_refl _, fun _ _ => rfl⟩
theorem below_snoc {B : Nat} {W w : World} {J : Array Obj} (J' : Array Obj) (d' : Nat) (h : Below B W (w.plus J 0)) (hB : B ≤ (w.plus J 0).heap.size) : Below B W (w.plus (J ++ J') d') := by
  rw [← plus_plus w J 0 J' d']
  exact h.trans ((Junk.below ⟨_, _, rfl⟩ : Below (w.plus J 0).heap.size (w.plus J 0) _).mono hB)
theorem bw_e (B : Nat) (w : World) (J : Array Obj) (d d' : Nat) : Below B (w.plus J d) (w.plus J d') := below_d B w J d d'
theorem bw_s {B : Nat} {W w : World} {J : Array Obj} (J' : Array Obj) (d' : Nat) (h : Below B W (w.plus J 0)) (hB : B ≤ (w.plus J 0).heap.size) : Below B W (w.plus (J ++ J') d') := below_snoc J' d' h hB
end Go.Proofs.YtngjkmjejijfiaaDoor

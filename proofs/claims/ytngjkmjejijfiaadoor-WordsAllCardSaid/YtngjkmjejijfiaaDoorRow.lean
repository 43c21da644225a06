/- Whole blocks of cells that are not written out: what they read as, and what a whole store makes of them; over a world written out in new blocks and blocks behind. -/
import Derived.Test.YtngjkmjejijfiaaDoorPlus
import Derived.Laws.Rows
import Derived.Laws.Tables
namespace Go.Proofs.YtngjkmjejijfiaaDoor
set_option linter.unusedVariables false
set_option linter.unusedSimpArgs false
open Go.RowKit

/-- The cells of a block none of which is frozen. -/
def _root_.Go.World.rowAt (w : World) (g : Nat) : Option (Array Value) :=
  match w.heap[g]? with
  | some (.cells c _ (0, 0)) => some c
  | _ => none

section
variable (w : World)
theorem rowAt_of_block {w w' : World} {g : Nat} (h : w'.heap[g]? = w.heap[g]?) : w'.rowAt g = w.rowAt g := by unfold World.rowAt; rw [h]
@[go_sem] theorem rowAt_alloc_at (c : Array Value) (t : TypeId) (n : Nat) (hn : n = w.heap.size) : (w.alloc (.cells c t)).rowAt n = some c := by
  subst hn; unfold World.rowAt; rw [heap_alloc_new]; rfl
@[go_sem] theorem rowAt_alloc_past (o : Obj) (n : Nat) (hn : n < w.heap.size) : (w.alloc o).rowAt n = w.rowAt n := rowAt_of_block (Below.heap_alloc w o n hn)
@[go_sem] theorem rowAt_plus (J : Array Obj) (d n : Nat) (hn : n < w.heap.size) : (w.plus J d).rowAt n = w.rowAt n := rowAt_of_block (heap_plus w J d n hn)
@[go_sem] theorem rowAt_drew (n : Nat) : w.drew.rowAt n = w.rowAt n := rfl
@[go_sem] theorem rowAt_drewN (n m : Nat) : (w.drewN m).rowAt n = w.rowAt n := rfl
@[go_sem] theorem setCell_drewN (n : Nat) (a : Addr) (v : Value) : (w.drewN n).setCell a v = (w.setCell a v).drewN n := rfl
@[go_sem] theorem alloc_drewN (n : Nat) (o : Obj) : (w.drewN n).alloc o = (w.alloc o).drewN n := rfl
@[go_sem] theorem setRow_drew (g : Nat) (c : Array Value) : w.drew.setRow g c = (w.setRow g c).drew := rfl
@[go_sem] theorem setRow_drewN (n g : Nat) (c : Array Value) : (w.drewN n).setRow g c = (w.setRow g c).drewN n := rfl
@[go_sem] theorem setRow_alloc_at (c c' : Array Value) (t : TypeId) (n : Nat) (hn : n = w.heap.size) : (w.alloc (.cells c t)).setRow n c' = w.alloc (.cells c' t) := by
  subst hn
  unfold World.setRow World.alloc
  congr 1
  apply Array.ext_getElem?
  intro k
  simp only [Array.getElem?_modify, Array.getElem?_push]
  by_cases hk : k = w.heap.size
  · subst hk; simp
  · simp [hk, Ne.symm hk]
@[go_sem] theorem setRow_alloc_past (o : Obj) (c' : Array Value) (n : Nat) (hn : n < w.heap.size) : (w.alloc o).setRow n c' = (w.setRow n c').alloc o := by
  unfold World.setRow World.alloc
  congr 1
  apply Array.ext_getElem?
  intro k
  simp only [Array.getElem?_modify, Array.getElem?_push, Array.size_modify]
  by_cases hk : k = w.heap.size
  · subst hk; simp [Nat.ne_of_lt hn]
  · simp [hk]
@[go_sem] theorem setRow_plus (J : Array Obj) (d n : Nat) (c' : Array Value) (hn : n < w.heap.size) : (w.plus J d).setRow n c' = (w.setRow n c').plus J d := by
  unfold World.setRow World.plus
  congr 1
  apply Array.ext_getElem?
  intro k
  simp only [Array.getElem?_modify]
  by_cases hk : k < w.heap.size
  · rw [Array.getElem?_append_left hk, Array.getElem?_append_left (by simpa using hk)]
    simp [Array.getElem?_modify]
  · rw [if_neg (by omega), Array.getElem?_append_right (by omega), Array.getElem?_append_right (by simpa using Nat.le_of_not_lt hk)]
    simp
end

theorem Below.setRow {B : Nat} {a w : World} (h : Below B a w) {g : Nat} (hg : B ≤ g) (c : Array Value) : Below B a (w.setRow g c) :=
  h.trans ⟨rfl, rfl, rfl, by simp, fun k hk => setRow_other w g k c (by omega)⟩
theorem bw_r {B : Nat} {a w : World} (h : Below B a w) {g : Nat} (hg : B ≤ g) (c : Array Value) : Below B a (w.setRow g c) := Below.setRow h hg c


section
variable {P : Program}
theorem rowAt_some {w : World} {g : Nat} {c : Array Value} (h : w.rowAt g = some c) : ∃ t, w.heap[g]? = some (.cells c t (0, 0)) := by
  unfold World.rowAt at h
  split at h
  · rename_i c' t heq
    simp only [Option.some.injEq] at h
    subst h
    exact ⟨t, heq⟩
  · cases h

theorem run_load_rowAt (w : World) (g n : Nat) (ty : TypeId) (d : TypeDesc) (hu : P.underlying ty = some d) (hd : (match d with | .struct _ | .array _ _ => true | _ => false) = true)
    (hi : (P.info? ty).map (·.size) = some n) (h : (w.rowAt g).any (fun c => c.size == n) = true) : (loadVar ty ⟨g, 0, none⟩).run P w = .ok (.agg ((w.rowAt g).getD #[])) w := by
  cases hr : w.rowAt g with
  | none => rw [hr] at h; simp at h
  | some c =>
    rw [hr] at h
    obtain ⟨t, hg⟩ := rowAt_some hr
    exact run_loadVar_row w g t ty c (0, 0) d hg hu hd (by rw [hi]; congr 1; simpa using (by simpa using h : c.size = n).symm)

theorem run_store_rowAt (w : World) (g n : Nat) (ty : TypeId) (c : Array Value) (hi : (P.info? ty).map (·.size) = some n) (hc : c.size = n) (h1 : c.all (·.oneCell') = true)
    (h : (w.rowAt g).any (fun c => c.size == n) = true) : (storeVar ty ⟨g, 0, none⟩ (.agg c)).run P w = .ok () (w.setRow g c) := by
  cases hr : w.rowAt g with
  | none => rw [hr] at h; simp at h
  | some c' =>
    rw [hr] at h
    obtain ⟨t, hg⟩ := rowAt_some hr
    exact run_storeVar_row w g t ty c' c hg (by rw [hi, hc]) (by rw [hc]; simpa using h) h1
end
end Go.Proofs.YtngjkmjejijfiaaDoor

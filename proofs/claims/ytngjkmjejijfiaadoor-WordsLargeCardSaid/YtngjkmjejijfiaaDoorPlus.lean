/- A world with further blocks behind, and another count of draws: what a call leaves that makes memory of its own and writes to nothing that was there. Laws that let the walk go on with what it knows. No program. -/
import Derived.WalkKit
import Derived.WalkSpells
import Derived.WalkLawsBesides
import Derived.WalkSmall
import Derived.Handy
import Derived.Lib.Hide
import Derived.BigQuiet
import Derived.Deep.QuietTactic
import Derived.Deep.CutBlock
import Derived.Deep.Cut
import Derived.Deep.CutRange
import Derived.Deep.DeepCutAuto
namespace Go.Proofs.YtngjkmjejijfiaaDoor
set_option linter.unusedVariables false
set_option linter.unusedSimpArgs false
open Go.RowKit

/-- A block that lies below a size lies below a greater one. -/
@[go_sem] theorem lt_add_of_lt' {a b c : Nat} (h : a < b) : a < b + c := Nat.lt_add_right c h

def _root_.Go.World.plus (w : World) (J : Array Obj) (d : Nat) : World := { w with heap := w.heap ++ J, drawn := d }

section
variable (w : World) (J : Array Obj) (d : Nat)
@[go_sem, simp] theorem size_plus : (w.plus J d).heap.size = w.heap.size + J.size := by simp [World.plus]
@[go_sem] theorem plus_of_drew : w.drew.plus J d = w.plus J d := rfl
@[go_sem] theorem plus_of_drewN (n : Nat) : (w.drewN n).plus J d = w.plus J d := rfl
@[go_sem] theorem drew_plus : (w.plus J d).drew = w.plus J (d + 1) := rfl
@[go_sem] theorem drewN_plus (n : Nat) : (w.plus J d).drewN n = w.plus J (d + n) := rfl
@[go_sem] theorem plus_plus (K : Array Obj) (e : Nat) : (w.plus J d).plus K e = w.plus (J ++ K) e := by
  unfold World.plus; simp
theorem heap_plus (k : Nat) (h : k < w.heap.size) : (w.plus J d).heap[k]? = w.heap[k]? := by
  show (w.heap ++ J)[k]? = _
  rw [Array.getElem?_append_left h]
@[go_sem] theorem setCell_plus (n i : Nat) (v : Value) (hn : n < w.heap.size) : (w.plus J d).setCell ⟨n, i, none⟩ v = (w.setCell ⟨n, i, none⟩ v).plus J d := by
  unfold World.setCell World.plus
  congr 1
  apply Array.ext_getElem?
  intro k
  simp only [Array.getElem?_modify]
  by_cases hk : k < w.heap.size
  · rw [Array.getElem?_append_left hk, Array.getElem?_append_left (by simpa using hk)]
    simp [Array.getElem?_modify]
  · rw [if_neg (by omega), Array.getElem?_append_right (by omega), Array.getElem?_append_right (by simpa using Nat.le_of_not_lt hk)]
    simp
@[go_sem] theorem cell_plus (n i : Nat) (hn : n < w.heap.size) : (w.plus J d).cell? ⟨n, i, none⟩ = w.cell? ⟨n, i, none⟩ :=
  World.cell?_of_block (heap_plus w J d n hn)
@[go_sem] theorem frozen_plus (n i : Nat) (hn : n < w.heap.size) : (w.plus J d).frozen? ⟨n, i, none⟩ = w.frozen? ⟨n, i, none⟩ :=
  World.frozen?_of_block (heap_plus w J d n hn)
@[go_sem] theorem shape_plus (n : Nat) (hn : n < w.heap.size) : (w.plus J d).shape? n = w.shape? n := by
  unfold World.shape?; rw [heap_plus w J d n hn]
end

/-- The world behind such a call. -/
def Junk (w w' : World) : Prop := ∃ J d, w' = w.plus J d

theorem junk_of_below {w w' : World} (h : Below w.heap.size w w') : Junk w w' := by
  refine ⟨w'.heap.extract w.heap.size w'.heap.size, w'.drawn, ?_⟩
  obtain ⟨h1, h2, h3, h4, h5⟩ := h
  obtain ⟨hp, tp, dr, os, op⟩ := w'
  simp only at h1 h2 h3 h4 h5
  subst h1 h2 h3
  unfold World.plus
  congr 1
  apply Array.ext_getElem?
  intro k
  by_cases hk : k < w.heap.size
  · rw [Array.getElem?_append_left hk]; exact h5 k hk
  · rw [Array.getElem?_append_right (by omega)]
    simp only [Array.getElem?_extract]
    by_cases hh : k < hp.size
    · rw [if_pos (by omega), show w.heap.size + (k - w.heap.size) = k by omega]
    · rw [if_neg (by omega), Array.getElem?_eq_none (by omega)]

theorem Junk.below {w w' : World} (h : Junk w w') : Below w.heap.size w w' := by
  obtain ⟨J, d, rfl⟩ := h
  exact ⟨rfl, rfl, rfl, by simp, fun k hk => heap_plus w J d k hk⟩

theorem below_plus {B : Nat} {a w : World} (h : Below B a w) (hB : B ≤ w.heap.size) (J : Array Obj) (d : Nat) : Below B a (w.plus J d) :=
  h.trans ((Junk.below ⟨J, d, rfl⟩).mono hB)
/- Short names for the walks. -/
theorem bw_a {B : Nat} {a w : World} (h : Below B a w) (hB : B ≤ w.heap.size) (o : Obj) : Below B a (w.alloc o) := h.alloc hB o
theorem bw_d {B : Nat} {a w : World} (h : Below B a w) : Below B a w.drew := h.drew
theorem bw_c {B : Nat} {a w : World} {p : Addr} (h : Below B a w) (hp : B ≤ p.block) (u : Value) : Below B a (w.setCell p u) := h.setCell hp u
theorem bw_n {B : Nat} {a w : World} (h : Below B a w) (n : Nat) : Below B a (w.drewN n) := below_drewN h n
theorem bw_p {B : Nat} {a w : World} (h : Below B a w) (hB : B ≤ w.heap.size) (J : Array Obj) (d : Nat) : Below B a (w.plus J d) := below_plus h hB J d


theorem Junk.refl (w : World) : Junk w w := junk_of_below (Below.refl _ _)
theorem junk_drewN (w : World) (n : Nat) : Junk w (w.drewN n) := junk_of_below (below_drewN (Below.refl _ _) n)

theorem ret1 {k : IntKind} {a b : Int} (h : a = b) : Ending.returned (.int k a) = .returned (.int k b) := by rw [h]
theorem retb {a b : Bool} (h : a = b) : Ending.returned (.bool a) = .returned (.bool b) := by rw [h]
theorem ret2 {k l : IntKind} {a b c d : Int} (h : a = b) (g : c = d) : Ending.returned (.tuple #[.int k a, .int l c]) = .returned (.tuple #[.int k b, .int l d]) := by rw [h, g]
theorem ret3 {k l m : IntKind} {a b c d x y : Int} (h : a = b) (g : c = d) (f : x = y) : Ending.returned (.tuple #[.int k a, .int l c, .int m x]) = .returned (.tuple #[.int k b, .int l d, .int m y]) := by rw [h, g, f]
end Go.Proofs.YtngjkmjejijfiaaDoor

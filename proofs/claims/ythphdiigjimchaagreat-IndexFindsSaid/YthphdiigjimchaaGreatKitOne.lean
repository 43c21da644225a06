/- A world with further blocks behind, and another count of draws: what a call leaves that makes memory of its own and writes to nothing that was there. Laws that let the walk go on with what it knows. No program. Whole blocks of cells that are not written out: what they read as, and what a whole store makes of them; over a world written out in new blocks and blocks behind. Worlds with blocks behind, one more block, and blocks behind again: what lies in front of all of them reads, and is written, as it stands there. Bytes of texts: which byte lies where; the first place where a test fails; struct results. Slices of bytes: what reads as bytes, a row of the call's own, append onto it. Rows of bytes in blocks, told by functions: what make leaves, one store. A block's cells, written whole: what it reads as then, and what lies beside it. No program. Slices of ints: what reads as a list, a row of the call's own, append onto it. A block lies below the size of a world that has grown behind it: one law for each number of steps. No program. -/
import Derived.WalkKit
import Derived.WalkSpells
import Derived.WalkLawsBesides
import Derived.WalkSmall
import Derived.Handy
import Derived.Lib.Hide
import Derived.BigQuiet
import Derived.Deep.QuietTactic
import Derived.Deep.CutBlock
import Derived.Deep.Cut
import Derived.Deep.CutRange
import Derived.Deep.DeepCutAuto
import Derived.Laws.Rows
import Derived.Laws.Tables
import Derived.Test.YthphdiigjimchaaGreatProg
import Derived.OwnWalk
import Derived.OpenShut
import Derived.Laws.AppendOwn
import Derived.Laws.AppendOwnNone
import Derived.Lib.AppendStr
import Derived.Maps.AppendAt
import Derived.Laws.MakeOwn
import Derived.Laws.CopyRow
namespace Go.Proofs.YthphdiigjimchaaGreat
section
set_option linter.unusedVariables false
set_option linter.unusedSimpArgs false
open Go.RowKit
@[go_sem] theorem lt_add_of_lt' {a b c : Nat} (h : a < b) : a < b + c := Nat.lt_add_right c h
def _root_.Go.World.plus (w : World) (J : Array Obj) (d : Nat) : World := { w with heap := w.heap ++ J, drawn := d }
section
variable (w : World) (J : Array Obj) (d : Nat)
@[go_sem, simp] theorem size_plus : (w.plus J d).heap.size = w.heap.size + J.size := by simp [World.plus]
@[go_sem] theorem plus_of_drew : w.drew.plus J d = w.plus J d := rfl
@[go_sem] theorem plus_of_drewN (n : Nat) : (w.drewN n).plus J d = w.plus J d := rfl
@[go_sem] theorem drew_plus : (w.plus J d).drew = w.plus J (d + 1) := rfl
@[go_sem] theorem drewN_plus (n : Nat) : (w.plus J d).drewN n = w.plus J (d + n) := rfl
@[go_sem] theorem plus_plus (K : Array Obj) (e : Nat) : (w.plus J d).plus K e = w.plus (J ++ K) e := by
  unfold World.plus; simp
theorem heap_plus (k : Nat) (h : k < w.heap.size) : (w.plus J d).heap[k]? = w.heap[k]? := by
  show (w.heap ++ J)[k]? = _
  rw [Array.getElem?_append_left h]
@[go_sem] theorem setCell_plus (n i : Nat) (v : Value) (hn : n < w.heap.size) : (w.plus J d).setCell ⟨n, i, none⟩ v = (w.setCell ⟨n, i, none⟩ v).plus J d := by
  unfold World.setCell World.plus
  congr 1
  apply Array.ext_getElem?
  intro k
  simp only [Array.getElem?_modify]
  by_cases hk : k < w.heap.size
  · rw [Array.getElem?_append_left hk, Array.getElem?_append_left (by simpa using hk)]
    simp [Array.getElem?_modify]
  · rw [if_neg (by omega), Array.getElem?_append_right (by omega), Array.getElem?_append_right (by simpa using Nat.le_of_not_lt hk)]
    simp
@[go_sem] theorem cell_plus (n i : Nat) (hn : n < w.heap.size) : (w.plus J d).cell? ⟨n, i, none⟩ = w.cell? ⟨n, i, none⟩ :=
  World.cell?_of_block (heap_plus w J d n hn)
@[go_sem] theorem frozen_plus (n i : Nat) (hn : n < w.heap.size) : (w.plus J d).frozen? ⟨n, i, none⟩ = w.frozen? ⟨n, i, none⟩ :=
  World.frozen?_of_block (heap_plus w J d n hn)
@[go_sem] theorem shape_plus (n : Nat) (hn : n < w.heap.size) : (w.plus J d).shape? n = w.shape? n := by
  unfold World.shape?; rw [heap_plus w J d n hn]
end
def Junk (w w' : World) : Prop := ∃ J d, w' = w.plus J d
theorem junk_of_below {w w' : World} (h : Below w.heap.size w w') : Junk w w' := by
  refine ⟨w'.heap.extract w.heap.size w'.heap.size, w'.drawn, ?_⟩
  obtain ⟨h1, h2, h3, h4, h5⟩ := h
  obtain ⟨hp, tp, dr, os, op⟩ := w'
  simp only at h1 h2 h3 h4 h5
  subst h1 h2 h3
  unfold World.plus
  congr 1
  apply Array.ext_getElem?
  intro k
  by_cases hk : k < w.heap.size
  · rw [Array.getElem?_append_left hk]; exact h5 k hk
  · rw [Array.getElem?_append_right (by omega)]
    simp only [Array.getElem?_extract]
    by_cases hh : k < hp.size
    · rw [if_pos (by omega), show w.heap.size + (k - w.heap.size) = k by omega]
    · rw [if_neg (by omega), Array.getElem?_eq_none (by omega)]
theorem Junk.below {w w' : World} (h : Junk w w') : Below w.heap.size w w' := by
  obtain ⟨J, d, rfl⟩ := h
  exact ⟨rfl, rfl, rfl, by simp, fun k hk => heap_plus w J d k hk⟩
theorem below_plus {B : Nat} {a w : World} (h : Below B a w) (hB : B ≤ w.heap.size) (J : Array Obj) (d : Nat) : Below B a (w.plus J d) :=
  h.trans ((Junk.below ⟨J, d, rfl⟩).mono hB)
/- Short names for the walks. -/
theorem bw_a {B : Nat} {a w : World} (h : Below B a w) (hB : B ≤ w.heap.size) (o : Obj) : Below B a (w.alloc o) := h.alloc hB o
theorem bw_d {B : Nat} {a w : World} (h : Below B a w) : Below B a w.drew := h.drew
theorem bw_c {B : Nat} {a w : World} {p : Addr} (h : Below B a w) (hp : B ≤ p.block) (u : Value) : Below B a (w.setCell p u) := h.setCell hp u
theorem bw_n {B : Nat} {a w : World} (h : Below B a w) (n : Nat) : Below B a (w.drewN n) := below_drewN h n
theorem bw_p {B : Nat} {a w : World} (h : Below B a w) (hB : B ≤ w.heap.size) (J : Array Obj) (d : Nat) : Below B a (w.plus J d) := below_plus h hB J d
theorem ret1 {k : IntKind} {a b : Int} (h : a = b) : Ending.returned (.int k a) = .returned (.int k b) := by rw [h]
theorem retb {a b : Bool} (h : a = b) : Ending.returned (.bool a) = .returned (.bool b) := by rw [h]
theorem ret3 {k l m : IntKind} {a b c d x y : Int} (h : a = b) (g : c = d) (f : x = y) : Ending.returned (.tuple #[.int k a, .int l c, .int m x]) = .returned (.tuple #[.int k b, .int l d, .int m y]) := by rw [h, g, f]
end

section
set_option linter.unusedVariables false
set_option linter.unusedSimpArgs false
open Go.RowKit
def _root_.Go.World.rowAt (w : World) (g : Nat) : Option (Array Value) :=
  match w.heap[g]? with
  | some (.cells c _ (0, 0)) => some c
  | _ => none
section
variable (w : World)
theorem rowAt_of_block {w w' : World} {g : Nat} (h : w'.heap[g]? = w.heap[g]?) : w'.rowAt g = w.rowAt g := by unfold World.rowAt; rw [h]
@[go_sem] theorem rowAt_alloc_at (c : Array Value) (t : TypeId) (n : Nat) (hn : n = w.heap.size) : (w.alloc (.cells c t)).rowAt n = some c := by
  subst hn; unfold World.rowAt; rw [heap_alloc_new]; rfl
@[go_sem] theorem rowAt_alloc_past (o : Obj) (n : Nat) (hn : n < w.heap.size) : (w.alloc o).rowAt n = w.rowAt n := rowAt_of_block (Below.heap_alloc w o n hn)
@[go_sem] theorem rowAt_plus (J : Array Obj) (d n : Nat) (hn : n < w.heap.size) : (w.plus J d).rowAt n = w.rowAt n := rowAt_of_block (heap_plus w J d n hn)
@[go_sem] theorem rowAt_drew (n : Nat) : w.drew.rowAt n = w.rowAt n := rfl
@[go_sem] theorem rowAt_drewN (n m : Nat) : (w.drewN m).rowAt n = w.rowAt n := rfl
@[go_sem] theorem setCell_drewN (n : Nat) (a : Addr) (v : Value) : (w.drewN n).setCell a v = (w.setCell a v).drewN n := rfl
@[go_sem] theorem alloc_drewN (n : Nat) (o : Obj) : (w.drewN n).alloc o = (w.alloc o).drewN n := rfl
@[go_sem] theorem setRow_drew (g : Nat) (c : Array Value) : w.drew.setRow g c = (w.setRow g c).drew := rfl
@[go_sem] theorem setRow_drewN (n g : Nat) (c : Array Value) : (w.drewN n).setRow g c = (w.setRow g c).drewN n := rfl
@[go_sem] theorem setRow_alloc_at (c c' : Array Value) (t : TypeId) (n : Nat) (hn : n = w.heap.size) : (w.alloc (.cells c t)).setRow n c' = w.alloc (.cells c' t) := by
  subst hn
  unfold World.setRow World.alloc
  congr 1
  apply Array.ext_getElem?
  intro k
  simp only [Array.getElem?_modify, Array.getElem?_push]
  by_cases hk : k = w.heap.size
  · subst hk; simp
  · simp [hk, Ne.symm hk]
@[go_sem] theorem setRow_alloc_past (o : Obj) (c' : Array Value) (n : Nat) (hn : n < w.heap.size) : (w.alloc o).setRow n c' = (w.setRow n c').alloc o := by
  unfold World.setRow World.alloc
  congr 1
  apply Array.ext_getElem?
  intro k
  simp only [Array.getElem?_modify, Array.getElem?_push, Array.size_modify]
  by_cases hk : k = w.heap.size
  · subst hk; simp [Nat.ne_of_lt hn]
  · simp [hk]
@[go_sem] theorem setRow_plus (J : Array Obj) (d n : Nat) (c' : Array Value) (hn : n < w.heap.size) : (w.plus J d).setRow n c' = (w.setRow n c').plus J d := by
  unfold World.setRow World.plus
  congr 1
  apply Array.ext_getElem?
  intro k
  simp only [Array.getElem?_modify]
  by_cases hk : k < w.heap.size
  · rw [Array.getElem?_append_left hk, Array.getElem?_append_left (by simpa using hk)]
    simp [Array.getElem?_modify]
  · rw [if_neg (by omega), Array.getElem?_append_right (by omega), Array.getElem?_append_right (by simpa using Nat.le_of_not_lt hk)]
    simp
end
theorem Below.setRow {B : Nat} {a w : World} (h : Below B a w) {g : Nat} (hg : B ≤ g) (c : Array Value) : Below B a (w.setRow g c) :=
  h.trans ⟨rfl, rfl, rfl, by simp, fun k hk => setRow_other w g k c (by omega)⟩
theorem bw_r {B : Nat} {a w : World} (h : Below B a w) {g : Nat} (hg : B ≤ g) (c : Array Value) : Below B a (w.setRow g c) := Below.setRow h hg c
section
variable {P : Program}
theorem rowAt_some {w : World} {g : Nat} {c : Array Value} (h : w.rowAt g = some c) : ∃ t, w.heap[g]? = some (.cells c t (0, 0)) := by
  unfold World.rowAt at h
  split at h
  · rename_i c' t heq
    simp only [Option.some.injEq] at h
    subst h
    exact ⟨t, heq⟩
  · cases h
end
end

section
set_option linter.unusedVariables false
set_option linter.unusedSimpArgs false
open Go.RowKit
section
variable (w : World) (J K : Array Obj) (d e n i : Nat) (o : Obj) (v : Value) (c : Array Value)
theorem lt_pa (hn : n < w.heap.size) : n < ((w.plus J d).alloc o).heap.size := by simp; omega
theorem lt_p (hn : n < w.heap.size) : n < (w.plus J d).heap.size := by simp; omega
@[go_sem] theorem cell_pa (hn : n < w.heap.size) : ((w.plus J d).alloc o).cell? ⟨n, i, none⟩ = w.cell? ⟨n, i, none⟩ := by
  rw [World.cell?_alloc_past _ _ _ (lt_p w J d n hn), cell_plus _ _ _ _ _ hn]
@[go_sem] theorem cell_pap (hn : n < w.heap.size) : (((w.plus J d).alloc o).plus K e).cell? ⟨n, i, none⟩ = w.cell? ⟨n, i, none⟩ := by
  rw [cell_plus _ _ _ _ _ (lt_pa w J d n o hn), cell_pa _ _ _ _ _ _ hn]
@[go_sem] theorem frozen_pa (hn : n < w.heap.size) : ((w.plus J d).alloc o).frozen? ⟨n, i, none⟩ = w.frozen? ⟨n, i, none⟩ := by
  rw [World.frozen?_alloc_past _ _ _ (lt_p w J d n hn), frozen_plus _ _ _ _ _ hn]
@[go_sem] theorem frozen_pap (hn : n < w.heap.size) : (((w.plus J d).alloc o).plus K e).frozen? ⟨n, i, none⟩ = w.frozen? ⟨n, i, none⟩ := by
  rw [frozen_plus _ _ _ _ _ (lt_pa w J d n o hn), frozen_pa _ _ _ _ _ _ hn]
@[go_sem] theorem rowAt_pa (hn : n < w.heap.size) : ((w.plus J d).alloc o).rowAt n = w.rowAt n := by
  rw [rowAt_alloc_past _ _ _ (lt_p w J d n hn), rowAt_plus _ _ _ _ hn]
@[go_sem] theorem rowAt_pap (hn : n < w.heap.size) : (((w.plus J d).alloc o).plus K e).rowAt n = w.rowAt n := by
  rw [rowAt_plus _ _ _ _ (lt_pa w J d n o hn), rowAt_pa _ _ _ _ _ hn]
@[go_sem] theorem setCell_pa (hn : n < w.heap.size) : ((w.plus J d).alloc o).setCell ⟨n, i, none⟩ v = ((w.setCell ⟨n, i, none⟩ v).plus J d).alloc o := by
  rw [World.setCell_alloc_past _ _ _ _ (lt_p w J d n hn), setCell_plus _ _ _ _ _ _ hn]
@[go_sem] theorem setCell_pap (hn : n < w.heap.size) : (((w.plus J d).alloc o).plus K e).setCell ⟨n, i, none⟩ v = (((w.setCell ⟨n, i, none⟩ v).plus J d).alloc o).plus K e := by
  rw [setCell_plus _ _ _ _ _ _ (lt_pa w J d n o hn), setCell_pa _ _ _ _ _ _ _ hn]
@[go_sem] theorem setRow_pa (hn : n < w.heap.size) : ((w.plus J d).alloc o).setRow n c = ((w.setRow n c).plus J d).alloc o := by
  rw [setRow_alloc_past _ _ _ _ (lt_p w J d n hn), setRow_plus _ _ _ _ _ hn]
@[go_sem] theorem setRow_pap (hn : n < w.heap.size) : (((w.plus J d).alloc o).plus K e).setRow n c = (((w.setRow n c).plus J d).alloc o).plus K e := by
  rw [setRow_plus _ _ _ _ _ (lt_pa w J d n o hn), setRow_pa _ _ _ _ _ _ hn]
end
theorem below_d (B : Nat) (w : World) (J : Array Obj) (d d' : Nat) : Below B (w.plus J d) (w.plus J d') := ⟨rfl, rfl, rfl, Nat.le_refl _, fun _ _ => rfl⟩
theorem below_snoc {B : Nat} {W w : World} {J : Array Obj} (J' : Array Obj) (d' : Nat) (h : Below B W (w.plus J 0)) (hB : B ≤ (w.plus J 0).heap.size) : Below B W (w.plus (J ++ J') d') := by
  rw [← plus_plus w J 0 J' d']
  exact h.trans ((Junk.below ⟨_, _, rfl⟩ : Below (w.plus J 0).heap.size (w.plus J 0) _).mono hB)
theorem bw_e (B : Nat) (w : World) (J : Array Obj) (d d' : Nat) : Below B (w.plus J d) (w.plus J d') := below_d B w J d d'
theorem bw_s {B : Nat} {W w : World} {J : Array Obj} (J' : Array Obj) (d' : Nat) (h : Below B W (w.plus J 0)) (hB : B ≤ (w.plus J 0).heap.size) : Below B W (w.plus (J ++ J') d') := below_snoc J' d' h hB
end

section
set_option linter.unusedVariables false
set_option linter.unusedSimpArgs false
open Go.RowKit
def byteAt (L : List UInt8) (i : Nat) : Nat := (L.getD i 0).toNat
@[go_sem] theorem str_get (L : List UInt8) (i : Nat) (h : i < (⟨L.toArray⟩ : ByteArray).size) : ((⟨L.toArray⟩ : ByteArray)[i]'h).toNat = byteAt L i := by
  unfold byteAt
  have h' : i < L.length := by simpa [ByteArray.size] using h
  simp [List.getD_eq_getElem?_getD, h', ByteArray.getElem_eq_getElem_data]
def firstStop (c : Nat → Bool) : Nat → Nat → Nat
  | 0, m => m
  | f + 1, m => if c m then firstStop c f (m + 1) else m
def bcells (l : List UInt8) : List Value := l.map (fun b => .int .u8 (b.toNat : Int))
@[simp] theorem bcells_len (l : List UInt8) : (bcells l).length = l.length := by simp [bcells]
theorem cell_of_row' {W : World} {b : Nat} {c : Array Value} (h : W.rowAt b = some c) (i : Nat) : W.cell? ⟨b, i, none⟩ = c[i]? := by
  obtain ⟨t, hb⟩ := rowAt_some h
  simp [World.cell?, hb]
end

section
set_option linter.unusedVariables false
set_option linter.unusedSimpArgs false
open Go.RowKit
def BReads (w : World) (a : Option Addr) (len : Nat) (L : List UInt8) : Prop :=
  L.length = len ∧ (len = 0 ∨ ∃ b off, a = some ⟨b, off, none⟩ ∧ ∀ i, i < len → w.cell? ⟨b, off + i, none⟩ = some (.int .u8 (byteAt L i)))
def BOwns (w : World) (base : Nat) (v : Value) (L : List UInt8) : Prop := w.ownsRow base 5 1 v L.length (bcells L)
end

section
set_option linter.unusedVariables false
set_option linter.unusedSimpArgs false
open Go.RowKit
def urow (g : Nat → Nat) (n : Nat) : Array Value := ((List.range n).map (fun i => Value.int .u8 (g i : Int))).toArray
@[simp, go_sem] theorem size_urow (g : Nat → Nat) (n : Nat) : (urow g n).size = n := by simp [urow]
@[simp, go_sem] theorem urow_getElem (g : Nat → Nat) (n i : Nat) (h : i < (urow g n).size) : (urow g n)[i] = .int .u8 (g i : Int) := by simp [urow]
theorem urow_get (g : Nat → Nat) (n i : Nat) (h : i < n) : (urow g n)[i]? = some (.int .u8 (g i : Int)) := by simp [urow, h]
theorem ucell_of_row {W : World} {b : Nat} {c : Array Value} (h : W.rowAt b = some c) (i : Nat) : W.cell? ⟨b, i, none⟩ = c[i]? := by
  obtain ⟨t, hb⟩ := rowAt_some h
  simp [World.cell?, hb]
theorem ufrozen_of_row {W : World} {b : Nat} {c : Array Value} (h : W.rowAt b = some c) (i : Nat) : W.frozen? ⟨b, i, none⟩ = false := by
  obtain ⟨t, hb⟩ := rowAt_some h
  simp [World.frozen?, hb]
theorem usetCell_of_row {W : World} {b : Nat} {c : Array Value} (h : W.rowAt b = some c) (i : Nat) (v : Value) : W.setCell ⟨b, i, none⟩ v = W.setRow b (c.setIfInBounds i v) := by
  obtain ⟨t, hb⟩ := rowAt_some h
  unfold World.setCell World.setRow
  congr 1
  apply Array.ext_getElem?
  intro k
  simp only [Array.getElem?_modify]
  by_cases hk : b = k
  · subst hk; rw [if_pos rfl, if_pos rfl, hb]; simp
  · rw [if_neg hk, if_neg hk]
end

section
set_option linter.unusedVariables false
set_option linter.unusedSimpArgs false
open Go.RowKit
theorem rowAt_setRow {w : World} {g : Nat} {c c' : Array Value} (h : w.rowAt g = some c) : (w.setRow g c').rowAt g = some c' := by
  obtain ⟨t, hb⟩ := rowAt_some h
  unfold World.rowAt World.setRow
  simp [Array.getElem?_modify, hb]
def Turned (b : Nat) (c : Array Value) (w w' : World) : Prop := Junk (w.setRow b c) w'
theorem setRow_self {w : World} {b : Nat} {c : Array Value} (h : w.rowAt b = some c) : w.setRow b c = w := by
  obtain ⟨t, hb⟩ := rowAt_some h
  show w.setRow b c = { w with heap := w.heap }
  unfold World.setRow
  congr 1
  apply Array.ext_getElem?
  intro k
  simp only [Array.getElem?_modify]
  by_cases hk : b = k
  · subst hk; rw [if_pos rfl, hb]; simp
  · rw [if_neg hk]
theorem setRow_setRow {w : World} {b : Nat} {c c' : Array Value} : (w.setRow b c).setRow b c' = w.setRow b c' := by
  unfold World.setRow
  congr 1
  apply Array.ext_getElem?
  intro k
  simp only [Array.getElem?_modify]
  by_cases hk : b = k
  · subst hk
    rw [if_pos rfl, if_pos rfl, if_pos rfl]
    cases w.heap[b]? with
    | none => rfl
    | some o => cases o <;> rfl
  · rw [if_neg hk, if_neg hk, if_neg hk]
theorem set2 {w : World} {b i j : Nat} {c : Array Value} {u v : Value} (h : w.rowAt b = some c) : (w.setCell ⟨b, i, none⟩ u).setCell ⟨b, j, none⟩ v = w.setRow b ((c.setIfInBounds i u).setIfInBounds j v) := by
  rw [usetCell_of_row h, usetCell_of_row (rowAt_setRow h), setRow_setRow]
theorem set1 {w : World} {b i : Nat} {c : Array Value} {u : Value} (h : w.rowAt b = some c) : w.setCell ⟨b, i, none⟩ u = w.setRow b (c.setIfInBounds i u) := usetCell_of_row h i u
theorem plus_nil (w : World) : w.plus #[] w.drawn = w := by
  show { w with heap := w.heap ++ #[], drawn := w.drawn } = w
  rw [Array.append_empty]
end

section
set_option linter.unusedVariables false
set_option linter.unusedSimpArgs false
open Go.RowKit
def Reads (w : World) (a : Option Addr) (len : Nat) (zs : List Int) : Prop :=
  zs.length = len ∧ (∀ i, i < len → -9223372036854775808 ≤ zs.getD i 0 ∧ zs.getD i 0 ≤ 9223372036854775807) ∧
  (len = 0 ∨ ∃ b off, a = some ⟨b, off, none⟩ ∧ ∀ i, i < len → w.cell? ⟨b, off + i, none⟩ = some (.int .i64 (zs.getD i 0)))
def ints (zs : List Int) : List Value := zs.map fun z => .int .i64 z
theorem ints_len (zs : List Int) : (ints zs).length = zs.length := by simp [ints]
theorem ints_one (zs : List Int) : ∀ u ∈ ints zs, u.oneCell' = true := by
  intro u hu
  obtain ⟨z, _, rfl⟩ := List.mem_map.1 hu
  rfl
theorem ints_get (zs : List Int) (i : Nat) (h : i < zs.length) : (ints zs)[i]? = some (.int .i64 (zs.getD i 0)) := by
  simp [ints, List.getD_eq_getElem?_getD, h]
theorem info_int : ∃ i, Tryz.prog.info? 3 = some i ∧ i.zero = some (.int .i64 0) ∧ i.size = 1 ∧ i.bytes = 8 := by
  have h : (Tryz.prog.info? 3).map (fun i => (i.zero, i.size, i.bytes)) = some (some (.int .i64 0), 1, 8) := by kernel_rfl
  cases hi : Tryz.prog.info? 3 with
  | none => rw [hi] at h; cases h
  | some i =>
    rw [hi] at h
    simp at h
    exact ⟨i, rfl, h.1, h.2.1, h.2.2⟩
def Fit64 (zs : List Int) (n : Nat) : Prop := ∀ i, i < n → -9223372036854775808 ≤ zs.getD i 0 ∧ zs.getD i 0 ≤ 9223372036854775807
theorem reads_of_owns {w : World} {base : Nat} {v : Value} {n : Nat} {zs : List Int} (h : w.ownsRow base 3 1 v n (ints zs)) (hb : Fit64 zs n) :
    ∃ a cap, v = .slice a n cap ∧ Reads w a n zs := by
  obtain ⟨hl, h⟩ := h
  rw [ints_len, Nat.mul_one] at hl
  rcases h with ⟨rfl, rfl⟩ | ⟨g, cap, cur, rfl, _, hc, hnc, _, hs, ht⟩
  · exact ⟨none, 0, rfl, hl, hb, .inl rfl⟩
  · refine ⟨_, cap, rfl, hl, hb, .inr ⟨g, 0, rfl, fun i hi => ?_⟩⟩
    rw [Nat.mul_one] at ht
    have h1 : (cur.toList.take n)[i]? = some (.int .i64 (zs.getD i 0)) := by rw [ht]; exact ints_get zs i (by omega)
    rw [List.getElem?_take_of_lt hi] at h1
    simp [World.cell?, hc]
    simpa using h1
theorem Reads.below {w w' : World} {a : Option Addr} {len : Nat} {zs : List Int} (h : Reads w a len zs) (hb : Below w.heap.size w w') : Reads w' a len zs := by
  obtain ⟨h1, h2, h3⟩ := h
  refine ⟨h1, h2, ?_⟩
  rcases h3 with h3 | ⟨b, off, rfl, hc⟩
  · exact .inl h3
  · by_cases hl : len = 0
    · exact .inl hl
    refine .inr ⟨b, off, rfl, fun i hi => ?_⟩
    have hbs := World.block_lt_of_cell? _ _ (hc i hi)
    rw [World.cell?_of_block (hb.block b hbs)]
    exact hc i hi
theorem Reads.cells {w : World} {a : Addr} {len : Nat} {zs : List Int} (h : Reads w (some a) len zs) : ∀ j u, (ints zs)[j]? = some u → w.cell? (a.add j) = some u := by
  obtain ⟨h1, h2, h3⟩ := h
  intro j u hu
  have hj : j < zs.length := by
    have := (List.getElem?_eq_some_iff.1 hu).1
    rwa [ints_len] at this
  rw [ints_get zs j hj] at hu
  rcases h3 with h3 | ⟨b, off, he, hc⟩
  · omega
  · injection he with he
    subst he
    rw [← hu, ← hc j (by omega)]
    unfold Addr.add
    by_cases h0 : j = 0
    · subst h0; rfl
    · rw [if_neg h0]
theorem reads_arg {w : World} {x : Addr} {len cap : Nat} {zs : List Int} (hl : len ≤ cap) (hz : zs.length = cap) (hc : ∀ i, i < zs.length → w.cell? (x.add i) = some (.int .i64 (zs.getD i 0))) (hb : ∀ n ∈ zs, (Lit.int .i64 n).wf = true) :
    Reads w (some x) len (zs.take len) := by
  have hg : ∀ i, i < len → (zs.take len).getD i 0 = zs.getD i 0 := fun i hi => by simp [List.getD_eq_getElem?_getD, List.getElem?_take_of_lt hi]
  refine ⟨by simp; omega, fun i hi => ?_, ?_⟩
  · rw [hg i hi]
    have hi' : i < zs.length := by omega
    have := bounds_i64 (hb _ (List.getElem_mem hi'))
    simpa [List.getD_eq_getElem?_getD, hi'] using this
  · by_cases h0 : len = 0
    · exact .inl h0
    · obtain ⟨b, off, sp⟩ := x
      have h1 := hc 0 (by omega)
      have hsp : sp = none := by
        cases sp with
        | none => rfl
        | some s => unfold Addr.add World.cell? at h1; simp at h1; split at h1 <;> simp_all
      subst hsp
      refine .inr ⟨b, off, rfl, fun i hi => ?_⟩
      rw [hg i hi, ← hc i (by omega)]
      unfold Addr.add
      by_cases h2 : i = 0
      · subst h2; rfl
      · rw [if_neg h2]
theorem reads_nil (w : World) (a : Option Addr) : Reads w a 0 [] := ⟨rfl, fun i h => absurd h (by omega), .inl rfl⟩
def Copied (w : World) (a : Option Addr) (len : Nat) (zs : List Int) (v : Value) (wx : World) : Prop :=
  ∃ a' cap', v = .slice a' len cap' ∧ wx.ownsRow w.heap.size 3 1 v len (ints zs) ∧ Reads wx a len zs ∧ Below w.heap.size w wx
theorem owns_empty (w : World) : (w.alloc (.cells #[] 3)).ownsRow w.heap.size 3 1 (.slice (some ⟨w.heap.size, 0, none⟩) 0 0) 0 (ints []) :=
  ⟨rfl, .inr ⟨w.heap.size, 0, #[], rfl, Nat.le_refl _, by show (w.heap.push _)[w.heap.size]? = _; simp, Nat.le_refl _, Nat.zero_le _, rfl, rfl⟩⟩
theorem wpList_copy {ops : Array Oper} {rest : List Oper} {o : Oper} {a : Act} {w : World} {Q : Exit → Act → World → Prop} (hgd : o.guard = none) (s x : Operand)
    (ho : o.op = .call { callee := .builtin .append, args := #[s, x], argTypes := #[39, 39] }) (hs : a.eval s = .slice (some ⟨w.heap.size, 0, none⟩) 0 0)
    (A : Option Addr) (len cap : Nat) (zs : List Int) (hx : a.eval x = .slice A len cap) (hn : A = none → len = 0 ∧ cap = 0) (hr : Reads w A len zs) (hm : len ≤ 17592186044416)
    (h : ∀ v' w', Copied w A len zs v' w' → wpList Tryz.prog ops Q rest (a.put o.dst v') w') : wpList Tryz.prog ops Q (o :: rest) a (w.alloc (.cells #[] 3)) := by
  obtain ⟨i0, hi0, hz0, hz1, hz2⟩ := info_int
  have hb0 : Below w.heap.size w (w.alloc (.cells #[] 3)) := (Below.refl _ _).alloc (Nat.le_refl _) _
  have hr1 := hr.below hb0
  obtain ⟨hzl, hfit, _⟩ := hr
  rcases A with _ | ad
  · obtain ⟨rfl, rfl⟩ := hn rfl
    obtain rfl : zs = [] := List.eq_nil_of_length_eq_zero hzl
    refine wpList_append_own_none hgd s x _ ho w.heap.size 3 i0 1 Tryz.underlying39 hi0 _ 0 (ints []) hs (owns_empty w) hx ?_
    exact h _ _ ⟨_, 0, rfl, owns_empty w, reads_nil _ _, hb0⟩
  · refine wpList_append_own _ hgd s x _ ho w.heap.size 3 i0 _ 1 8 Tryz.underlying39 hi0 hz0 hz1 hz2 rfl (by decide) _ 0 (ints []) hs (owns_empty w) ad len cap (ints zs) hx
      (by rw [ints_len, hzl, Nat.mul_one]) hr1.cells (ints_one zs) (by simp only [maxLen]; omega) (by omega) (by simp) ?_
    intro v' w' hown hg _
    rw [Nat.zero_add] at hown
    obtain ⟨a', cap', rfl, hR⟩ := reads_of_owns (zs := zs) hown hfit
    have hb : Below w.heap.size w w' := hb0.grown hg (by simp) (by intro k hk; simp [Value.ownBlock] at hk; omega)
    refine h _ _ ⟨a', cap', rfl, hown, ?_, hb⟩
    have hr0 : Reads w (some ad) len zs := ⟨hzl, hfit, ‹_›⟩
    exact hr0.below hb
theorem ints_app (xs ys : List Int) : ints xs ++ ints ys = ints (xs ++ ys) := by simp [ints]
theorem wpList_app {ops : Array Oper} {rest : List Oper} {o : Oper} {a : Act} {w : World} {Q : Exit → Act → World → Prop} (hgd : o.guard = none) (s x : Operand)
    (ho : o.op = .call { callee := .builtin .append, args := #[s, x], argTypes := #[39, 39] }) (base : Nat) (v : Value) (n : Nat) (xs : List Int) (hs : a.eval s = v) (hown : w.ownsRow base 3 1 v n (ints xs))
    (A : Option Addr) (len cap : Nat) (zs : List Int) (hx : a.eval x = .slice A len cap) (hn : A = none → len = 0 ∧ cap = 0) (hr : Reads w A len zs) (hm : n + len ≤ 17592186044416) (hb : base ≤ w.heap.size)
    (h : ∀ v' w', w'.ownsRow base 3 1 v' (n + len) (ints (xs ++ zs)) → w.grownBy w' v.ownBlock → wpList Tryz.prog ops Q rest (a.put o.dst v') w') : wpList Tryz.prog ops Q (o :: rest) a w := by
  obtain ⟨i0, hi0, hz0, hz1, hz2⟩ := info_int
  rcases A with _ | ad
  · obtain ⟨rfl, rfl⟩ := hn rfl
    obtain rfl : zs = [] := List.eq_nil_of_length_eq_zero hr.1
    refine wpList_append_own_none hgd s x _ ho base 3 i0 1 Tryz.underlying39 hi0 _ n (ints xs) hs hown hx ?_
    exact h _ _ (by rw [List.append_nil, Nat.add_zero]; exact hown) (World.grownBy.refl w _)
  · refine wpList_append_own _ hgd s x _ ho base 3 i0 _ 1 8 Tryz.underlying39 hi0 hz0 hz1 hz2 rfl (by decide) _ n (ints xs) hs hown ad len cap (ints zs) hx
      (by rw [ints_len, hr.1, Nat.mul_one]) hr.cells (ints_one zs) (by simp only [maxLen]; omega) (by omega) hb ?_
    intro v' w' hown' hg _
    rw [ints_app] at hown'
    exact h _ _ hown' hg
theorem owns_one (w : World) (z : Int) : (w.alloc (.cells #[.int .i64 z] 3)).ownsRow w.heap.size 3 1 (.slice (some ⟨w.heap.size, 0, none⟩) 1 1) 1 (ints [z]) :=
  ⟨rfl, .inr ⟨w.heap.size, 1, #[.int .i64 z], rfl, Nat.le_refl _, by show (w.heap.push _)[w.heap.size]? = _; simp, Nat.le_refl _, by decide, rfl, rfl⟩⟩
theorem reads_one (w : World) (z : Int) (h0 : -9223372036854775808 ≤ z) (h1 : z ≤ 9223372036854775807) : Reads (w.alloc (.cells #[.int .i64 z] 3)) (some ⟨w.heap.size, 0, none⟩) 1 [z] := by
  obtain ⟨a, c, he, hr⟩ := reads_of_owns (owns_one w z) (fun i hi => by
    obtain rfl : i = 0 := by omega
    exact ⟨h0, h1⟩)
  injection he with e1 e2 e3
  subst e1
  exact hr
end

section
set_option linter.unusedVariables false
set_option linter.unusedSimpArgs false
open Go.RowKit
@[go_sem] theorem ltx_1 (a x0 : Nat) : a < a + 1 + x0 := by omega
@[go_sem] theorem ltx_2 (a x0 x1 : Nat) : a < a + 1 + x0 + x1 := by omega
@[go_sem] theorem ltx_3 (a x0 x1 x2 : Nat) : a < a + 1 + x0 + x1 + x2 := by omega
@[go_sem] theorem ltx_4 (a x0 x1 x2 x3 : Nat) : a < a + 1 + x0 + x1 + x2 + x3 := by omega
@[go_sem] theorem ltx_5 (a x0 x1 x2 x3 x4 : Nat) : a < a + 1 + x0 + x1 + x2 + x3 + x4 := by omega
@[go_sem] theorem ltx_6 (a x0 x1 x2 x3 x4 x5 : Nat) : a < a + 1 + x0 + x1 + x2 + x3 + x4 + x5 := by omega
@[go_sem] theorem ltx_7 (a x0 x1 x2 x3 x4 x5 x6 : Nat) : a < a + 1 + x0 + x1 + x2 + x3 + x4 + x5 + x6 := by omega
@[go_sem] theorem ltx_8 (a x0 x1 x2 x3 x4 x5 x6 x7 : Nat) : a < a + 1 + x0 + x1 + x2 + x3 + x4 + x5 + x6 + x7 := by omega
@[go_sem] theorem ltx_9 (a x0 x1 x2 x3 x4 x5 x6 x7 x8 : Nat) : a < a + 1 + x0 + x1 + x2 + x3 + x4 + x5 + x6 + x7 + x8 := by omega
@[go_sem] theorem ltx_10 (a x0 x1 x2 x3 x4 x5 x6 x7 x8 x9 : Nat) : a < a + 1 + x0 + x1 + x2 + x3 + x4 + x5 + x6 + x7 + x8 + x9 := by omega
@[go_sem] theorem ltx_11 (a x0 x1 x2 x3 x4 x5 x6 x7 x8 x9 x10 : Nat) : a < a + 1 + x0 + x1 + x2 + x3 + x4 + x5 + x6 + x7 + x8 + x9 + x10 := by omega
@[go_sem] theorem ltx_12 (a x0 x1 x2 x3 x4 x5 x6 x7 x8 x9 x10 x11 : Nat) : a < a + 1 + x0 + x1 + x2 + x3 + x4 + x5 + x6 + x7 + x8 + x9 + x10 + x11 := by omega
@[go_sem] theorem ltx_13 (a x0 x1 x2 x3 x4 x5 x6 x7 x8 x9 x10 x11 x12 : Nat) : a < a + 1 + x0 + x1 + x2 + x3 + x4 + x5 + x6 + x7 + x8 + x9 + x10 + x11 + x12 := by omega
@[go_sem] theorem ltx_14 (a x0 x1 x2 x3 x4 x5 x6 x7 x8 x9 x10 x11 x12 x13 : Nat) : a < a + 1 + x0 + x1 + x2 + x3 + x4 + x5 + x6 + x7 + x8 + x9 + x10 + x11 + x12 + x13 := by omega
@[go_sem] theorem ltx_15 (a x0 x1 x2 x3 x4 x5 x6 x7 x8 x9 x10 x11 x12 x13 x14 : Nat) : a < a + 1 + x0 + x1 + x2 + x3 + x4 + x5 + x6 + x7 + x8 + x9 + x10 + x11 + x12 + x13 + x14 := by omega
@[go_sem] theorem ltb_2 {a b x0 x1 : Nat} (h : b < a) : b < a + x0 + x1 := by omega
@[go_sem] theorem ltb_3 {a b x0 x1 x2 : Nat} (h : b < a) : b < a + x0 + x1 + x2 := by omega
@[go_sem] theorem ltb_4 {a b x0 x1 x2 x3 : Nat} (h : b < a) : b < a + x0 + x1 + x2 + x3 := by omega
@[go_sem] theorem ltb_5 {a b x0 x1 x2 x3 x4 : Nat} (h : b < a) : b < a + x0 + x1 + x2 + x3 + x4 := by omega
@[go_sem] theorem ltb_6 {a b x0 x1 x2 x3 x4 x5 : Nat} (h : b < a) : b < a + x0 + x1 + x2 + x3 + x4 + x5 := by omega
@[go_sem] theorem ltb_7 {a b x0 x1 x2 x3 x4 x5 x6 : Nat} (h : b < a) : b < a + x0 + x1 + x2 + x3 + x4 + x5 + x6 := by omega
@[go_sem] theorem ltb_8 {a b x0 x1 x2 x3 x4 x5 x6 x7 : Nat} (h : b < a) : b < a + x0 + x1 + x2 + x3 + x4 + x5 + x6 + x7 := by omega
@[go_sem] theorem ltb_9 {a b x0 x1 x2 x3 x4 x5 x6 x7 x8 : Nat} (h : b < a) : b < a + x0 + x1 + x2 + x3 + x4 + x5 + x6 + x7 + x8 := by omega
@[go_sem] theorem ltb_10 {a b x0 x1 x2 x3 x4 x5 x6 x7 x8 x9 : Nat} (h : b < a) : b < a + x0 + x1 + x2 + x3 + x4 + x5 + x6 + x7 + x8 + x9 := by omega
end
end Go.Proofs.YthphdiigjimchaaGreat

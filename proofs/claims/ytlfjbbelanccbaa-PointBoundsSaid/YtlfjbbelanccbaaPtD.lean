/- Contract of point.Bounds. -/
import Derived.Test.YtlfjbbelanccbaaPtC
import Derived.Test.YtlfjbbelanccbaaPlus2
namespace Go.Proofs.Ytlfjbbelanccbaa
set_option linter.unusedVariables false
set_option linter.unusedSimpArgs false
open Go.RowKit

/-- How far each number's walk is, when the first j are done and the next is at k. -/
def cnt (n j k i : Nat) : Nat := if i < j then n else if i = j then k else 0
def stF (K : List (Int × Int)) (j k : Nat) : Array Value := xcells (lxF K (cnt K.length j k 0)) (lyF K (cnt K.length j k 1)) (hxF K (cnt K.length j k 2)) (hyF K (cnt K.length j k 3))
theorem st_next (K : List (Int × Int)) (j : Nat) : stF K j K.length = stF K (j + 1) 0 := by
  have h : ∀ i, cnt K.length j K.length i = cnt K.length (j + 1) 0 i := by
    intro i
    unfold cnt
    repeat' split
    all_goals omega
  unfold stF
  simp only [h]
section
variable {K : List (Int × Int)} {k : Nat} {x y : Int} (hk : k < K.length) (h : K.getD k (0, 0) = (x, y))
include hk h
theorem st_0 : stF K 0 (k + 1) = xcells (min (lxF K k) x) (lyF K 0) (hxF K 0) (hyF K 0) := by simp [stF, cnt, lx_step hk h]
theorem st_1 : stF K 1 (k + 1) = xcells (lxF K K.length) (min (lyF K k) y) (hxF K 0) (hyF K 0) := by simp [stF, cnt, ly_step hk h]
theorem st_2 : stF K 2 (k + 1) = xcells (lxF K K.length) (lyF K K.length) (max (hxF K k) x) (hyF K 0) := by simp [stF, cnt, hx_step hk h]
theorem st_3 : stF K 3 (k + 1) = xcells (lxF K K.length) (lyF K K.length) (hxF K K.length) (max (hyF K k) y) := by simp [stF, cnt, hy_step hk h]
end
theorem st0 (K : List (Int × Int)) (k : Nat) : stF K 0 k = xcells (lxF K k) (lyF K 0) (hxF K 0) (hyF K 0) := by simp [stF, cnt]
theorem st1 (K : List (Int × Int)) (k : Nat) : stF K 1 k = xcells (lxF K K.length) (lyF K k) (hxF K 0) (hyF K 0) := by simp [stF, cnt]
theorem st2 (K : List (Int × Int)) (k : Nat) : stF K 2 k = xcells (lxF K K.length) (lyF K K.length) (hxF K k) (hyF K 0) := by simp [stF, cnt]
theorem st3 (K : List (Int × Int)) (k : Nat) : stF K 3 k = xcells (lxF K K.length) (lyF K K.length) (hxF K K.length) (hyF K k) := by simp [stF, cnt]
theorem st4 (K : List (Int × Int)) : stF K 4 0 = xcells (lxF K K.length) (lyF K K.length) (hxF K K.length) (hyF K K.length) := by simp [stF, cnt]

/-- Between two rounds: the extent's block is the last of a world, and others lie behind. -/
def ExtAt (w2 : World) (K : List (Int × Int)) (j k : Nat) (wr : World) : Prop := ∃ J d, wr = (w2.alloc (.cells (stF K j k) 54)).plus J d

theorem ext_step {w2 : World} {K : List (Int × Int)} {j k : Nat} {c : Array Value} (hc : stF K j (k + 1) = c) {J : Array Obj} {d : Nat} {o : Obj} {w' : World}
    (h : Turned w2.heap.size c (((w2.alloc (.cells (stF K j k) 54)).plus J d).alloc o) w') : ExtAt w2 K j (k + 1) w' := by
  unfold Turned at h
  rw [setRow_alloc_past _ _ _ _ (by simp; omega), setRow_plus _ _ _ _ _ (by simp), setRow_alloc_at _ _ _ _ _ rfl] at h
  obtain ⟨J1, d1, rfl⟩ := h
  unfold ExtAt
  rw [hc]
  obtain ⟨J2, d2, h2⟩ := junk_of_below (show Below (w2.alloc (.cells c 54)).heap.size (w2.alloc (.cells c 54)) ((((w2.alloc (.cells c 54)).plus J d).alloc o).plus J1 d1) by (repeat' (first | (with_reducible exact Below.refl _ _) | (with_reducible assumption) | (with_reducible refine Below.alloc ?_ ?_ _) | (with_reducible refine Below.drew ?_) | (with_reducible refine below_drewN ?_ _) | (with_reducible refine below_plus ?_ ?_ _ _) | (with_reducible refine Below.setCell ?_ ?_ _) | (with_reducible refine Below.setRow ?_ ?_ _) | go_size)))
  exact ⟨J2, d2, h2⟩
theorem ext_row {w2 : World} {K : List (Int × Int)} {j k : Nat} {J : Array Obj} {d : Nat} {o : Obj} : (((w2.alloc (.cells (stF K j k) 54)).plus J d).alloc o).rowAt w2.heap.size = some (stF K j k) := by
  rw [rowAt_alloc_past _ _ _ (by simp; omega), rowAt_plus _ _ _ _ (by simp), rowAt_alloc_at _ _ _ _ rfl]

theorem n_ext0 {w2 : World} {K : List (Int × Int)} {k : Nat} {x y : Int} (hk : k < K.length) (h : K.getD k (0, 0) = (x, y)) (J : Array Obj) (d : Nat) (o : Obj) :
    Calls Try.prog 39 #[.pointer (some ⟨w2.heap.size, 0, none⟩), pt x y] (((w2.alloc (.cells (stF K 0 k) 54)).plus J d).alloc o) fun e w' => e = .returned (.tuple #[]) ∧ ExtAt w2 K 0 (k + 1) w' :=
  (n_ptLeft _ _ _ _ _ _ x y (ext_row.trans (by rw [st0]))).mono fun e w' ⟨h1, h2⟩ => ⟨h1, ext_step (st_0 hk h) h2⟩
theorem n_ext1 {w2 : World} {K : List (Int × Int)} {k : Nat} {x y : Int} (hk : k < K.length) (h : K.getD k (0, 0) = (x, y)) (J : Array Obj) (d : Nat) (o : Obj) :
    Calls Try.prog 40 #[.pointer (some ⟨w2.heap.size, 0, none⟩), pt x y] (((w2.alloc (.cells (stF K 1 k) 54)).plus J d).alloc o) fun e w' => e = .returned (.tuple #[]) ∧ ExtAt w2 K 1 (k + 1) w' :=
  (n_ptDown _ _ _ _ _ _ x y (ext_row.trans (by rw [st1]))).mono fun e w' ⟨h1, h2⟩ => ⟨h1, ext_step (st_1 hk h) h2⟩
theorem n_ext2 {w2 : World} {K : List (Int × Int)} {k : Nat} {x y : Int} (hk : k < K.length) (h : K.getD k (0, 0) = (x, y)) (J : Array Obj) (d : Nat) (o : Obj) :
    Calls Try.prog 41 #[.pointer (some ⟨w2.heap.size, 0, none⟩), pt x y] (((w2.alloc (.cells (stF K 2 k) 54)).plus J d).alloc o) fun e w' => e = .returned (.tuple #[]) ∧ ExtAt w2 K 2 (k + 1) w' :=
  (n_ptRight _ _ _ _ _ _ x y (ext_row.trans (by rw [st2]))).mono fun e w' ⟨h1, h2⟩ => ⟨h1, ext_step (st_2 hk h) h2⟩
theorem n_ext3 {w2 : World} {K : List (Int × Int)} {k : Nat} {x y : Int} (hk : k < K.length) (h : K.getD k (0, 0) = (x, y)) (J : Array Obj) (d : Nat) (o : Obj) :
    Calls Try.prog 42 #[.pointer (some ⟨w2.heap.size, 0, none⟩), pt x y] (((w2.alloc (.cells (stF K 3 k) 54)).plus J d).alloc o) fun e w' => e = .returned (.tuple #[]) ∧ ExtAt w2 K 3 (k + 1) w' :=
  (n_ptUp _ _ _ _ _ _ x y (ext_row.trans (by rw [st3]))).mono fun e w' ⟨h1, h2⟩ => ⟨h1, ext_step (st_3 hk h) h2⟩
end Go.Proofs.Ytlfjbbelanccbaa

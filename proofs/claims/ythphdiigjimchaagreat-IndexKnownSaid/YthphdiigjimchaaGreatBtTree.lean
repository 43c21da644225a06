/- Package boxtree: a tree as it lies in memory; isMade, Len, whole, place. Package boxtree: the closure by which divide orders. Package boxtree: slices.Sort and slices.SortStableFunc on a part of a tree's order. Package boxtree: a part of a tree's order is brought into the order of a level. Package boxtree: a node of a tree is written; place. -/
import Derived.Test.YthphdiigjimchaaGreatBtOne
import Derived.Test.YthphdiigjimchaaGreatBtRef
import Derived.LaidEqlPtr
import Derived.Test.YthphdiigjimchaaGreatSsAll
import Derived.Test.YthphdiigjimchaaGreatShelf
namespace Go.Proofs.YthphdiigjimchaaGreat
section
set_option linter.unusedVariables false
set_option linter.unusedSimpArgs false
open Go.RowKit
def rowB (n : Nat) (L : List Bx) (N : Nat → Bx) (i : Nat) : Bx := if i < n then L.getD i Bz else N i
structure TrB (tb bb ob n cb co : Nat) (L : List Bx) (O : List Nat) (N : Nat → Bx) (w : World) : Prop where
  self : w.cell? ⟨tb, 0, none⟩ = some (.pointer (some ⟨tb, 0, none⟩))
  bs : w.cell? ⟨tb, 1, none⟩ = some (.slice (some ⟨bb, 0, none⟩) (2 * n - 1) cb)
  os : w.cell? ⟨tb, 2, none⟩ = some (.slice (some ⟨ob, 0, none⟩) n co)
  hL : L.length = n
  hO : O.length = n
  pos : 0 < n
  le : n ≤ 1000
  hco : n ≤ co
  hcb : 2 * n - 1 ≤ cb
  ord : ∀ i, i < n → w.cell? ⟨ob, i, none⟩ = some (.int .i64 ((O.getD i 0 : Nat) : Int)) ∧ w.frozen? ⟨ob, i, none⟩ = false
  b1 : ∀ i, i < 2 * n - 1 → w.cell? ⟨bb, i * 4, none⟩ = some (.int .i64 (rowB n L N i).1) ∧ w.frozen? ⟨bb, i * 4, none⟩ = false
  b2 : ∀ i, i < 2 * n - 1 → w.cell? ⟨bb, i * 4 + 1, none⟩ = some (.int .i64 (rowB n L N i).2.1) ∧ w.frozen? ⟨bb, i * 4 + 1, none⟩ = false
  b3 : ∀ i, i < 2 * n - 1 → w.cell? ⟨bb, i * 4 + 2, none⟩ = some (.int .i64 (rowB n L N i).2.2.1) ∧ w.frozen? ⟨bb, i * 4 + 2, none⟩ = false
  b4 : ∀ i, i < 2 * n - 1 → w.cell? ⟨bb, i * 4 + 3, none⟩ = some (.int .i64 (rowB n L N i).2.2.2) ∧ w.frozen? ⟨bb, i * 4 + 3, none⟩ = false
  n1 : tb ≠ bb
  n2 : tb ≠ ob
  n3 : bb ≠ ob
  mem : ∀ i ∈ O, i < n
  nodup : O.Nodup
structure Kept2 (x y : Nat) (w w' : World) : Prop where
  bel : Below 0 w w'
  blk : ∀ k, k < w.heap.size → k ≠ x → k ≠ y → w'.heap[k]? = w.heap[k]?
theorem Kept2.size {x y : Nat} {w w' : World} (h : Kept2 x y w w') : w.heap.size ≤ w'.heap.size := h.bel.size
theorem Kept2.refl (x y : Nat) (w : World) : Kept2 x y w w := ⟨Below.refl _ _, fun _ _ _ _ => rfl⟩
theorem Kept2.trans {x y : Nat} {w w' w'' : World} (h : Kept2 x y w w') (h2 : Kept2 x y w' w'') : Kept2 x y w w'' :=
  ⟨h.bel.trans h2.bel, fun k hk a b => (h2.blk k (Nat.lt_of_lt_of_le hk h.size) a b).trans (h.blk k hk a b)⟩
theorem Kept2.of_below {x y : Nat} {w w' : World} (h : Below w.heap.size w w') : Kept2 x y w w' := ⟨h.mono (Nat.zero_le _), fun k hk _ _ => h.block k hk⟩
theorem Kept2.below {x y : Nat} {w w' : World} (h : Kept2 x y w w') {base : Nat} (hx : base ≤ x) (hy : base ≤ y) (hb : base ≤ w.heap.size) : Below base w w' := by
  obtain ⟨⟨e1, e2, e3, e4, _⟩, h2⟩ := h
  exact ⟨e1, e2, e3, e4, fun k hk => h2 k (by omega) (by omega) (by omega)⟩
theorem Kept2.cell {x y : Nat} {w w' : World} (h : Kept2 x y w w') {b o : Nat} {v : Value} (hx : b ≠ x) (hy : b ≠ y) (hc : w.cell? ⟨b, o, none⟩ = some v) : w'.cell? ⟨b, o, none⟩ = some v :=
  (World.cell?_of_block (a := ⟨b, o, none⟩) (h.blk b (World.block_lt_of_cell? _ _ hc) hx hy)).trans hc
theorem frozen_of_block {w w' : World} {b o : Nat} (h : w'.heap[b]? = w.heap[b]?) : w'.frozen? ⟨b, o, none⟩ = w.frozen? ⟨b, o, none⟩ := by
  unfold World.frozen?; rw [h]
section
variable {tb bb ob n cb co : Nat} {L : List Bx} {O : List Nat} {N : Nat → Bx} {w w' : World}
theorem TrB.lt (h : TrB tb bb ob n cb co L O N w) : tb < w.heap.size ∧ bb < w.heap.size ∧ ob < w.heap.size :=
  ⟨World.block_lt_of_cell? _ _ h.self, World.block_lt_of_cell? _ _ (h.b1 0 (by have := h.pos; omega)).1, World.block_lt_of_cell? _ _ (h.ord 0 h.pos).1⟩
theorem TrB.keep (h : TrB tb bb ob n cb co L O N w) (ht : w'.heap[tb]? = w.heap[tb]?) (hb : w'.heap[bb]? = w.heap[bb]?) (ho : w'.heap[ob]? = w.heap[ob]?) : TrB tb bb ob n cb co L O N w' where
  self := (World.cell?_of_block (a := ⟨tb, 0, none⟩) ht).trans h.self
  bs := (World.cell?_of_block (a := ⟨tb, 1, none⟩) ht).trans h.bs
  os := (World.cell?_of_block (a := ⟨tb, 2, none⟩) ht).trans h.os
  hL := h.hL
  hO := h.hO
  pos := h.pos
  le := h.le
  hco := h.hco
  hcb := h.hcb
  ord i hi := ⟨(World.cell?_of_block (a := ⟨ob, i, none⟩) ho).trans (h.ord i hi).1, (frozen_of_block ho).trans (h.ord i hi).2⟩
  b1 i hi := ⟨(World.cell?_of_block (a := ⟨bb, _, none⟩) hb).trans (h.b1 i hi).1, (frozen_of_block hb).trans (h.b1 i hi).2⟩
  b2 i hi := ⟨(World.cell?_of_block (a := ⟨bb, _, none⟩) hb).trans (h.b2 i hi).1, (frozen_of_block hb).trans (h.b2 i hi).2⟩
  b3 i hi := ⟨(World.cell?_of_block (a := ⟨bb, _, none⟩) hb).trans (h.b3 i hi).1, (frozen_of_block hb).trans (h.b3 i hi).2⟩
  b4 i hi := ⟨(World.cell?_of_block (a := ⟨bb, _, none⟩) hb).trans (h.b4 i hi).1, (frozen_of_block hb).trans (h.b4 i hi).2⟩
  n1 := h.n1
  n2 := h.n2
  n3 := h.n3
  mem := h.mem
  nodup := h.nodup
theorem TrB.below (h : TrB tb bb ob n cb co L O N w) (hb : Below w.heap.size w w') : TrB tb bb ob n cb co L O N w' :=
  h.keep (hb.block _ h.lt.1) (hb.block _ h.lt.2.1) (hb.block _ h.lt.2.2)
end
theorem tree_self (w : World) (a : Addr) : (binOp .eql 48 (.pointer (some a)) (.pointer (some a))).run Tryz.prog w = .ok (.bool true) w := by
  have h : (Tryz.prog.info? 82).isSome = true := by kernel_rfl
  obtain ⟨j, hj⟩ := Option.isSome_iff_exists.1 h
  exact run_eql_ptr_same w a Tryz.underlying48 hj
set_option maxRecDepth 100000 in
theorem n_btMade (tb : Nat) (w : World) (h : w.cell? ⟨tb, 0, none⟩ = some (.pointer (some ⟨tb, 0, none⟩))) : Calls Tryz.prog 121 #[.pointer (some ⟨tb, 0, none⟩)] w fun e w' => e = .returned (.bool true) ∧ w' = w := by
  have hl : tb < w.heap.size := World.block_lt_of_cell? _ _ h
  have hpe := tree_self
  go_enter Tryz.func121, Tryz.ntmps121
  go_wp2
  go_ret
  exact ⟨rfl, rfl⟩
set_option maxRecDepth 100000 in
theorem n_btLen (tb : Nat) (w : World) (a : Option Addr) (n c : Nat) (h : w.cell? ⟨tb, 0, none⟩ = some (.pointer (some ⟨tb, 0, none⟩))) (h2 : w.cell? ⟨tb, 2, none⟩ = some (.slice a n c)) :
    Calls Tryz.prog 93 #[.pointer (some ⟨tb, 0, none⟩)] w fun e w' => e = .returned (.int .i64 (n : Int)) ∧ w' = w := by
  have hl : tb < w.heap.size := World.block_lt_of_cell? _ _ h
  have HM := Lib.hid (n_btMade tb w h)
  go_enter Tryz.func93, Tryz.ntmps93
  go_wp2_with (go_at_call 121; refine HM.out.mono ?_; rintro e w1 ⟨rfl, rfl⟩)
  go_ret
  exact ⟨rfl, rfl⟩
set_option maxRecDepth 100000 in
set_option maxHeartbeats 2000000 in
theorem n_btWhole (tb : Nat) (w : World) (a : Option Addr) (n c : Nat) (h2 : w.cell? ⟨tb, 2, none⟩ = some (.slice a n c)) :
    Calls Tryz.prog 49 #[.pointer (some ⟨tb, 0, none⟩)] w fun e w' => e = .returned (ptV 0 n n false) ∧ Junk w w' := by
  have hl : tb < w.heap.size := World.block_lt_of_cell? _ _ h2
  unfold ptV
  go_enter Tryz.func49, Tryz.ntmps49
  go_upto_region 1 with fail
  go_region_held3 (fun w' => w'.cell? ⟨tb, 2, none⟩ = some (.slice a n c)) (first | (simp [go_sem, *]; done)) (first | fail)
  all_goals go_wp2_with fail
  all_goals refine bodyPost_ret (results_part rfl _ _ w.heap.size #[.int .i64 0, .int .i64 n, .int .i64 n, .bool false] rfl (by simp [go_sem, *]) rfl) rfl ⟨rfl, junk_of_below (by (repeat' first | with_reducible (first | apply Below.refl | assumption | apply bw_a | apply bw_d | apply bw_n | apply bw_p | apply bw_c | apply bw_r) | go_size))⟩
set_option maxRecDepth 100000 in
set_option maxHeartbeats 2000000 in
theorem n_btPlace1 (tb ob n co f node i : Nat) (y : Bool) (w : World) (hf : f < n) (hn : n ≤ 1000000) (h2 : w.cell? ⟨tb, 2, none⟩ = some (.slice (some ⟨ob, 0, none⟩) n co)) (h3 : w.cell? ⟨ob, f, none⟩ = some (.int .i64 (i : Int))) :
    Calls Tryz.prog 81 #[.pointer (some ⟨tb, 0, none⟩), ptV f 1 node y] w fun e w' => e = .returned (.int .i64 (i : Int)) ∧ Junk w w' := by
  have hl : tb < w.heap.size := World.block_lt_of_cell? _ _ h2
  have hl2 : ob < w.heap.size := World.block_lt_of_cell? _ _ h3
  have i1 : (f : Int) < (n : Int) := by omega
  unfold ptV
  go_enter Tryz.func81, Tryz.ntmps81
  go_upto_region 2 with fail
  go_region_held3 (fun w' => w'.cell? ⟨tb, 2, none⟩ = some (.slice (some ⟨ob, 0, none⟩) n co) ∧ w'.cell? ⟨ob, f, none⟩ = some (.int .i64 (i : Int)) ∧ w'.cell? ⟨w.heap.size, 0, none⟩ = some (.int .i64 (f : Int))) (first | (refine ⟨?_, ?_, ?_⟩ <;> (simp [go_sem, *]; done))) (first | fail)
  all_goals go_wp2_with fail
  all_goals go_ret
  all_goals exact ⟨rfl, junk_of_below (by (repeat' first | with_reducible (first | apply Below.refl | assumption | apply bw_a | apply bw_d | apply bw_n | apply bw_p | apply bw_c | apply bw_r) | go_size))⟩
set_option maxRecDepth 100000 in
theorem n_btPlace2 (tb f c node : Nat) (y : Bool) (w : World) (hc : 2 ≤ c) :
    Calls Tryz.prog 81 #[.pointer (some ⟨tb, 0, none⟩), ptV f c node y] w fun e w' => e = .returned (.int .i64 (node : Int)) ∧ Junk w w' := by
  have i1 : ((c : Int) == 1) = false := by rw [beq_eq_false_iff_ne]; omega
  unfold ptV
  go_enter Tryz.func81, Tryz.ntmps81
  go_wp2_with fail
  go_ret
  exact ⟨rfl, junk_of_below (by (repeat' first | with_reducible (first | apply Below.refl | assumption | apply bw_a | apply bw_d | apply bw_n | apply bw_p | apply bw_c | apply bw_r) | go_size))⟩
end

section
set_option linter.unusedVariables false
set_option linter.unusedSimpArgs false
open Go.RowKit
def keyY (y : Bool) (x1 x2 x3 x4 : Int) : Int := if y then x2 + x4 else x1 + x3
theorem n_btCompareY (y : Bool) (x1 x2 x3 x4 z1 z2 z3 z4 : Int) (w : World) : Calls Tryz.prog 78 #[keyV y x1 x2 x3 x4, keyV y z1 z2 z3 z4] w fun e w' => e = .returned (.int .i64 (sgn (keyY y x1 x2 x3 x4 - keyY y z1 z2 z3 z4))) ∧ JunkU w w' := by
  cases y
  · exact n_btCompare x1 x3 z1 z3 w
  · exact n_btCompare x2 x4 z2 z4 w
set_option maxRecDepth 100000 in
set_option maxHeartbeats 4000000 in
theorem n_btCmp (gp gt tb bb m cb f c k i j : Nat) (y : Bool) (x1 x2 x3 x4 z1 z2 z3 z4 : Int) (hx : InB (x1, x2, x3, x4)) (hz : InB (z1, z2, z3, z4)) (w : World)
    (p0 : w.cell? ⟨gp, 0, none⟩ = some (.int .i64 (f : Int))) (p1 : w.cell? ⟨gp, 1, none⟩ = some (.int .i64 (c : Int))) (p2 : w.cell? ⟨gp, 2, none⟩ = some (.int .i64 (k : Int))) (p3 : w.cell? ⟨gp, 3, none⟩ = some (.bool y))
    (q0 : w.cell? ⟨gt, 0, none⟩ = some (.pointer (some ⟨tb, 0, none⟩))) (t1 : w.cell? ⟨tb, 1, none⟩ = some (.slice (some ⟨bb, 0, none⟩) m cb)) (hi : i < m) (hj : j < m) (hm : m ≤ 1000000)
    (a1 : w.cell? ⟨bb, i * 4, none⟩ = some (.int .i64 x1)) (a2 : w.cell? ⟨bb, i * 4 + 1, none⟩ = some (.int .i64 x2)) (a3 : w.cell? ⟨bb, i * 4 + 2, none⟩ = some (.int .i64 x3)) (a4 : w.cell? ⟨bb, i * 4 + 3, none⟩ = some (.int .i64 x4))
    (b1 : w.cell? ⟨bb, j * 4, none⟩ = some (.int .i64 z1)) (b2 : w.cell? ⟨bb, j * 4 + 1, none⟩ = some (.int .i64 z2)) (b3 : w.cell? ⟨bb, j * 4 + 2, none⟩ = some (.int .i64 z3)) (b4 : w.cell? ⟨bb, j * 4 + 3, none⟩ = some (.int .i64 z4)) :
    Calls Tryz.prog 76 #[.int .i64 (i : Int), .int .i64 (j : Int), .pointer (some ⟨gp, 0, none⟩), .pointer (some ⟨gt, 0, none⟩)] w fun e w' => e = .returned (.int .i64 (sgn (keyY y x1 x2 x3 x4 - keyY y z1 z2 z3 z4))) ∧ JunkU w w' := by
  have H1 := Lib.hid (fun w' => n_btKey f c k y x1 x2 x3 x4 hx.1 hx.2.1 hx.2.2.1 hx.2.2.2 w')
  have H2 := Lib.hid (fun w' => n_btKey f c k y z1 z2 z3 z4 hz.1 hz.2.1 hz.2.2.1 hz.2.2.2 w')
  have H3 := Lib.hid (fun w' => n_btCompareY y x1 x2 x3 x4 z1 z2 z3 z4 w')
  unfold ptV bxV at H1 H2
  generalize keyV y x1 x2 x3 x4 = k1 at *
  generalize keyV y z1 z2 z3 z4 = k2 at *
  generalize sgn (keyY y x1 x2 x3 x4 - keyY y z1 z2 z3 z4) = s at *
  have l1 := World.block_lt_of_cell? _ _ p0
  have l2 := World.block_lt_of_cell? _ _ q0
  have l3 := World.block_lt_of_cell? _ _ t1
  have l4 := World.block_lt_of_cell? _ _ a1
  have i1 : (i : Int) < (m : Int) := by omega
  have i2 : (j : Int) < (m : Int) := by omega
  clear hx hz hm
  go_enter Tryz.func76, Tryz.ntmps76
  go_upto_region 1 with fail
  refine region_quiet_all (C := ClsW w w.drawn) (by kernel_rfl) (by kernel_rfl) ⟨#[], w.drawn + 1, Nat.le_succ _, by show _ = { w with heap := w.heap ++ #[], drawn := w.drawn + 1 }; rw [Array.append_empty]⟩ ?_
  repeat (refine qw_want (by rfl) (fun K hK => ?_); go_simp; first | (refine hK _ ?_; clear hK K) | (apply Exists.intro; refine ⟨?_, hK _ ?_⟩; (rintro w3_ ⟨J3_, d3_, hd3_, rfl⟩; first | (with_reducible exact rfl) | (go_simp; with_reducible exact rfl) | (go_simp; (first | (with_reducible refine (H1.out _).mono ?_) | (with_reducible refine (H2.out _).mono ?_) | (with_reducible refine (H3.out _).mono ?_)); rintro e_ w_ ⟨rfl, ⟨J4_, d4_, rfl⟩, hd4_⟩; exact ⟨rfl, J3_ ++ J4_, d4_, Nat.le_trans hd3_ hd4_, by simp only [plus_plus, Array.append_assoc]⟩)); clear hK K))
  refine qw_nil ?_
  rintro w3 ⟨J3, d3, hd3, rfl⟩
  have HD := Lib.hid hd3
  clear hd3
  go_wp2_with fail
  go_ret
  exact ⟨rfl, ⟨J3, d3, rfl⟩, HD.out⟩
end

section
set_option linter.unusedVariables false
set_option linter.unusedSimpArgs false
open Go.RowKit Go.Shelf Go.Lib Go.Sort
theorem spl_perm {α : Type} {O : List α} {a : Nat} {P : List α} (h : a + P.length ≤ O.length) (hp : P.Perm (slc O a P.length)) : (spl O a P).Perm O := by
  have e := spl_slc h
  have l := slc_len h
  conv => rhs; rw [← e]
  unfold spl
  rw [l]
  exact (List.Perm.append_left _ hp).append_right _
theorem sx_heap {α : Type} [Inhabited α] (enc : α → Value) (w : World) (g off m : Nat) (dk : Array α) (os : Array Obj) {k : Nat} (hk : k ≠ g) (hl : k < w.heap.size) : (sortWorld enc w g off m dk os).heap[k]? = w.heap[k]? := by
  unfold sortWorld
  rw [heap_grow_old _ _ (by rw [size_putRow]; exact hl)]
  unfold putRow mapBlock
  show (w.heap.modify g _)[k]? = _
  rw [Array.getElem?_modify, if_neg (fun e => hk e.symm)]
theorem sx_size {α : Type} [Inhabited α] (enc : α → Value) (w : World) (g off m : Nat) (dk : Array α) (os : Array Obj) : w.heap.size ≤ (sortWorld enc w g off m dk os).heap.size := by
  unfold sortWorld
  rw [size_grow, size_putRow]
  show w.heap.size ≤ w.heap.size + _
  omega
theorem sx_kept {α : Type} [Inhabited α] (enc : α → Value) (w : World) (x g off m : Nat) (dk : Array α) (os : Array Obj) : Kept2 x g w (sortWorld enc w g off m dk os) :=
  ⟨⟨rfl, rfl, rfl, sx_size enc w g off m dk os, fun k hk => absurd hk (Nat.not_lt_zero _)⟩, fun k hk _ hg => sx_heap enc w g off m dk os hg hk⟩
theorem sx_other {α : Type} [Inhabited α] (enc : α → Value) (w : World) (g off m : Nat) (dk : Array α) (os : Array Obj) (hg : g < w.heap.size) (i : Nat) (h : i < off ∨ off + dk.size ≤ i) :
    (sortWorld enc w g off m dk os).cell? ⟨g, i, none⟩ = w.cell? ⟨g, i, none⟩ ∧ (sortWorld enc w g off m dk os).frozen? ⟨g, i, none⟩ = w.frozen? ⟨g, i, none⟩ := by
  unfold sortWorld
  have hl : g < (putRow enc (Sort.ahead w m) g off dk).heap.size := by rw [size_putRow]; exact hg
  rw [cell?_grow _ _ _ hl, frozen?_grow _ _ _ hl, frozen?_putRow, cell?_putRow_other enc _ _ _ _ _ (.inr h)]
  exact ⟨rfl, rfl⟩
section
variable {tb bb ob n cb co : Nat} {L : List Bx} {O : List Nat} {N : Nat → Bx} {w : World}
theorem TrB.sorted {α : Type} [Inhabited α] (enc : α → Value) (h : TrB tb bb ob n cb co L O N w) (first : Nat) (d dk : Array α) (hH : Holds enc w ob first d) (hs : dk.size = d.size) (hf : first + d.size ≤ n) (M : List Nat) (hM : M.length = d.size)
    (hv : ∀ i, i < d.size → enc dk[i]! = .int .i64 ((M.getD i 0 : Nat) : Int)) (hp : M.Perm (slc O first d.size)) (m : Nat) (os : Array Obj) :
    TrB tb bb ob n cb co L (spl O first M) N (sortWorld enc w ob first m dk os) := by
  have hl := h.lt
  have hperm : (spl O first M).Perm O := spl_perm (by rw [hM, h.hO]; exact hf) (by rw [hM]; exact hp)
  have ht : (sortWorld enc w ob first m dk os).heap[tb]? = w.heap[tb]? := sx_heap _ _ _ _ _ _ _ h.n2 hl.1
  have hb : (sortWorld enc w ob first m dk os).heap[bb]? = w.heap[bb]? := sx_heap _ _ _ _ _ _ _ h.n3 hl.2.1
  have hh := holds_sortWorld enc w ob first m d dk os hl.2.2 hH hs
  exact {
    self := (World.cell?_of_block (a := ⟨tb, 0, none⟩) ht).trans h.self
    bs := (World.cell?_of_block (a := ⟨tb, 1, none⟩) ht).trans h.bs
    os := (World.cell?_of_block (a := ⟨tb, 2, none⟩) ht).trans h.os
    hL := h.hL
    hO := by rw [hperm.length_eq]; exact h.hO
    pos := h.pos
    le := h.le
    hco := h.hco
    hcb := h.hcb
    ord := fun i hi => by
      rw [spl_get (by rw [hM, h.hO]; exact hf)]
      by_cases hc : first ≤ i ∧ i < first + M.length
      · rw [if_pos hc]
        have := hh (i - first) (by omega)
        rw [show first + (i - first) = i by omega, hv (i - first) (by omega)] at this
        exact this
      · rw [if_neg hc]
        have := sx_other enc w ob first m dk os hl.2.2 i (by omega)
        rw [this.1, this.2]
        exact h.ord i hi
    b1 := fun i hi => ⟨(World.cell?_of_block (a := ⟨bb, _, none⟩) hb).trans (h.b1 i hi).1, (frozen_of_block hb).trans (h.b1 i hi).2⟩
    b2 := fun i hi => ⟨(World.cell?_of_block (a := ⟨bb, _, none⟩) hb).trans (h.b2 i hi).1, (frozen_of_block hb).trans (h.b2 i hi).2⟩
    b3 := fun i hi => ⟨(World.cell?_of_block (a := ⟨bb, _, none⟩) hb).trans (h.b3 i hi).1, (frozen_of_block hb).trans (h.b3 i hi).2⟩
    b4 := fun i hi => ⟨(World.cell?_of_block (a := ⟨bb, _, none⟩) hb).trans (h.b4 i hi).1, (frozen_of_block hb).trans (h.b4 i hi).2⟩
    n1 := h.n1
    n2 := h.n2
    n3 := h.n3
    mem := fun i hi => h.mem i (hperm.mem_iff.1 hi)
    nodup := hperm.nodup_iff.2 h.nodup }
def upL (P : List Nat) : List Nat := P.mergeSort fun x y => decide (x ≤ y)
theorem up_perm (P : List Nat) : (upL P).Perm P := List.mergeSort_perm _ _
theorem up_le (P : List Nat) : (upL P).Pairwise (· ≤ ·) := by
  have := List.pairwise_mergeSort (le := fun (x y : Nat) => decide (x ≤ y)) (fun a b c h1 h2 => by simp at *; omega) (fun a b => by simp; omega) P
  exact this.imp fun {a b} h => by simpa using h
theorem up_nums (P : List Nat) : (nums P).mergeSort (fun x y => decide (x ≤ y)) = nums (upL P) := by
  have h1 := List.pairwise_mergeSort (le := fun (x y : Int) => decide (x ≤ y)) (fun a b c h1 h2 => by simp at *; omega) (fun a b => by simp; omega) (nums P)
  have h2 : (nums (upL P)).Pairwise (fun a b => decide (a ≤ b) = true) := by
    unfold nums
    rw [List.pairwise_map]
    exact (up_le P).imp fun {a b} h => by simpa using h
  have hp : ((nums P).mergeSort fun x y => decide (x ≤ y)).Perm (nums (upL P)) := (List.mergeSort_perm _ _).trans (by unfold nums; exact (up_perm P).symm.map _)
  exact hp.eq_of_pairwise (fun a b _ _ h1 h2 => by simp at h1 h2; omega) h1 h2
theorem n_btSort (h : TrB tb bb ob n cb co L O N w) (first count cap : Nat) (hf : first + count ≤ n) :
    Calls Tryz.prog 74 #[.slice (some ⟨ob, first, none⟩) count cap] w fun e w' => e = .returned (.tuple #[]) ∧ TrB tb bb ob n cb co L (spl O first (upL (slc O first count))) N w' ∧ Kept2 bb ob w w' := by
  have hl : (slc O first count).length = count := slc_len (by rw [h.hO]; exact hf)
  have hz : (nums (slc O first count)).length = count := by rw [nums_len, hl]
  have hg : ∀ (l : List Nat) (j : Nat), j < l.length → (nums l).toArray[j]! = ((l.getD j 0 : Nat) : Int) := fun l j hj => by
    rw [getElem!_pos _ _ (by simpa [nums_len] using hj)]
    rw [← nums_get hj, List.getD_eq_getElem?_getD, List.getElem?_eq_getElem (by rw [nums_len]; exact hj)]
    simp
  have hH : Holds (Value.int .i64) w ob first (nums (slc O first count)).toArray := fun j hj => by
    have hj' : j < count := by simpa [hz] using hj
    have := h.ord (first + j) (by omega)
    rw [hg _ _ (by rw [hl]; exact hj'), slc_get hj']
    exact this
  have hS := Tryz.slices_Sort_int ob first cap (nums (slc O first count)) w hH h.lt.2.2 (by rw [hz]; have := h.le; omega)
  rw [hz] at hS
  refine hS.mono ?_
  rintro e w' ⟨rfl, m, os, rfl⟩
  rw [up_nums]
  have hul : (upL (slc O first count)).length = count := by rw [(up_perm _).length_eq, hl]
  refine ⟨rfl, ?_, sx_kept (Value.int .i64) w bb ob first m _ os⟩
  exact TrB.sorted (Value.int .i64) h first _ _ hH (by simp [nums_len, hul, hl]) (by simpa [hz] using hf) _ (by simp [hz, hul])
    (fun i hi => by rw [hg _ _ (by rw [hul]; simpa [hz] using hi)]) (by simpa [hz] using (up_perm (slc O first count))) m os
end
end

section
set_option linter.unusedVariables false
set_option linter.unusedSimpArgs false
open Go.RowKit Go.Shelf Go.Lib Go.Sort
def lvY (lv : Nat) : Bool := decide (lv % 2 = 1)
theorem keyY_lv (lv : Nat) (x1 x2 x3 x4 : Int) : keyY (lvY lv) x1 x2 x3 x4 = keyP lv (x1, x2, x3, x4) := by
  unfold keyY lvY keyP
  rcases Nat.mod_two_eq_zero_or_one lv with h | h <;> simp [h]
theorem lvY_next (lv : Nat) : (!lvY lv) = lvY (lv + 1) := by
  unfold lvY
  rcases Nat.mod_two_eq_zero_or_one lv with h | h
  · rw [h, show (lv + 1) % 2 = 1 by omega]; rfl
  · rw [h, show (lv + 1) % 2 = 0 by omega]; rfl
section
variable {tb bb ob n cb co : Nat} {L : List Bx} {O : List Nat} {N : Nat → Bx} {w : World}
theorem sgn_neg' (a : Int) : (sgn a < 0) ↔ a < 0 := by have := sgn_cases a; omega
set_option maxHeartbeats 1000000 in
theorem n_btStable (h : TrB tb bb ob n cb co L O N w) (hin : ∀ b ∈ L, InB b) (first count cap lv gp gt f c k : Nat) (hf : first + count ≤ n) (h0 : 0 < count) (hup : (slc O first count).Pairwise (· < ·))
    (p0 : w.cell? ⟨gp, 0, none⟩ = some (.int .i64 (f : Int))) (p1 : w.cell? ⟨gp, 1, none⟩ = some (.int .i64 (c : Int))) (p2 : w.cell? ⟨gp, 2, none⟩ = some (.int .i64 (k : Int))) (p3 : w.cell? ⟨gp, 3, none⟩ = some (.bool (lvY lv)))
    (q0 : w.cell? ⟨gt, 0, none⟩ = some (.pointer (some ⟨tb, 0, none⟩))) (hp : gp ≠ ob) (ht : gt ≠ ob) :
    Calls Tryz.prog 75 #[.slice (some ⟨ob, first, none⟩) count cap, .func (.func 76) #[] #[.pointer (some ⟨gp, 0, none⟩), .pointer (some ⟨gt, 0, none⟩)]] w fun e w' =>
      e = .returned (.tuple #[]) ∧ TrB tb bb ob n cb co L (spl O first (srtK (keyB L lv) (slc O first count))) N w' ∧ Kept2 bb ob w w' := by
  obtain ⟨z, hz⟩ : ∃ z, count = z + 1 := ⟨count - 1, by omega⟩
  obtain ⟨P, hP⟩ : ∃ P, slc O first count = P := ⟨_, rfl⟩
  have hPl : P.length = count := by rw [← hP]; exact slc_len (by rw [h.hO]; exact hf)
  have hlt := h.lt
  have hPg : ∀ i, i < count → P.getD i 0 = O.getD (first + i) 0 := fun i hi => by rw [← hP]; exact slc_get hi
  have hPm : ∀ i, i < count → P.getD i 0 < n := fun i hi => by
    rw [hPg i hi]
    exact h.mem _ (getD_memN (by rw [h.hO]; omega))
  rw [hP] at hup
  have hPn : P.Nodup := hup.imp fun {a b} h => by omega
  obtain ⟨d, hd, hds⟩ : ∃ d : Array (Fin (z + 1)), d.size = z + 1 ∧ ∀ i (hi : i < d.size), d[i].val = i := ⟨Array.ofFn id, by simp, fun i hi => by simp⟩
  have hdi : ∀ j, j < d.size → d[j]!.val = j := fun j hj => by rw [getElem!_pos d j hj]; exact hds j hj
  have hin' : ∀ i, InB (L.getD i Bz) := fun i => by
    by_cases hi : i < L.length
    · exact hin _ (by rw [List.getD_eq_getElem?_getD, List.getElem?_eq_getElem hi]; exact List.getElem_mem hi)
    · rw [List.getD_eq_getElem?_getD, List.getElem?_eq_none (by omega)]
      unfold InB In6; decide
  have hS : Sx (fun i => - keyB L lv (P.getD i 0)) (fun i => ((P.getD i 0 : Nat) : Int)) 76 #[.pointer (some ⟨gp, 0, none⟩), .pointer (some ⟨gt, 0, none⟩)] ob first
      (fun (x y : Fin (z + 1)) => sgn (keyB L lv (P.getD x.val 0) - keyB L lv (P.getD y.val 0))) count w d := {
    eg := enters_of Tryz.func76 (by kernel_rfl) rfl
    cmp := fun m os dk hk x y => by
      have k0 : ∀ {b : Nat}, b ≠ ob → b < w.heap.size → (sortWorld (encE (fun i => ((P.getD i 0 : Nat) : Int)) (z := z)) w ob first m dk os).heap[b]? = w.heap[b]? := fun hb hl => sx_heap _ _ _ _ _ _ _ hb hl
      have c0 : ∀ {b o : Nat} {v : Value}, b ≠ ob → w.cell? ⟨b, o, none⟩ = some v → (sortWorld (encE (fun i => ((P.getD i 0 : Nat) : Int)) (z := z)) w ob first m dk os).cell? ⟨b, o, none⟩ = some v := fun hb hc =>
        (World.cell?_of_block (a := ⟨_, _, none⟩) (k0 hb (World.block_lt_of_cell? _ _ hc))).trans hc
      obtain ⟨W, hW⟩ : ∃ W, sortWorld (encE (fun i => ((P.getD i 0 : Nat) : Int)) (z := z)) w ob first m dk os = W := ⟨_, rfl⟩
      rw [hW]
      rw [hW] at c0
      clear k0
      show Calls Tryz.prog 76 #[.int .i64 ((P.getD x.val 0 : Nat) : Int), .int .i64 ((P.getD y.val 0 : Nat) : Int), .pointer (some ⟨gp, 0, none⟩), .pointer (some ⟨gt, 0, none⟩)] W fun e w' =>
        e = .returned (.int .i64 (sgn (keyB L lv (P.getD x.val 0) - keyB L lv (P.getD y.val 0)))) ∧ ∃ q os', w' = grow (W.drewN q) os'
      have hxm := hPm x.val (by have := x.isLt; omega)
      have hym := hPm y.val (by have := y.isLt; omega)
      generalize P.getD x.val 0 = i at *
      generalize P.getD y.val 0 = j at *
      have ri : rowB n L N i = L.getD i Bz := by unfold rowB; rw [if_pos hxm]
      have rj : rowB n L N j = L.getD j Bz := by unfold rowB; rw [if_pos hym]
      have a1 := (h.b1 i (by omega)).1
      have a2 := (h.b2 i (by omega)).1
      have a3 := (h.b3 i (by omega)).1
      have a4 := (h.b4 i (by omega)).1
      have b1 := (h.b1 j (by omega)).1
      have b2 := (h.b2 j (by omega)).1
      have b3 := (h.b3 j (by omega)).1
      have b4 := (h.b4 j (by omega)).1
      rw [ri] at a1 a2 a3 a4
      rw [rj] at b1 b2 b3 b4
      have kx : keyB L lv i = keyY (lvY lv) (L.getD i Bz).1 (L.getD i Bz).2.1 (L.getD i Bz).2.2.1 (L.getD i Bz).2.2.2 := by rw [keyY_lv]; rfl
      have ky : keyB L lv j = keyY (lvY lv) (L.getD j Bz).1 (L.getD j Bz).2.1 (L.getD j Bz).2.2.1 (L.getD j Bz).2.2.2 := by rw [keyY_lv]; rfl
      rw [kx, ky]
      have hC := n_btCmp gp gt tb bb (2 * n - 1) cb f c k i j (lvY lv) _ _ _ _ _ _ _ _ (hin' i) (hin' j) W
        (c0 hp p0) (c0 hp p1) (c0 hp p2) (c0 hp p3) (c0 ht q0) (c0 h.n2 h.bs) (by omega) (by omega) (by have := h.le; omega)
        (c0 h.n3 a1) (c0 h.n3 a2) (c0 h.n3 a3) (c0 h.n3 a4) (c0 h.n3 b1) (c0 h.n3 b2) (c0 h.n3 b3) (c0 h.n3 b4)
      refine hC.mono ?_
      rintro e w' ⟨rfl, ⟨J, dd, rfl⟩, hdd⟩
      refine ⟨rfl, dd - W.drawn, J, ?_⟩
      have hdd' : W.drawn ≤ dd := hdd
      unfold grow World.plus World.drewN
      simp only [World.mk.injEq, and_true, true_and]
      omega
    lts := fun x y => by
      show decide (sgn (keyB L lv (P.getD x.val 0) - keyB L lv (P.getD y.val 0)) < 0) = decide (- keyB L lv (P.getD y.val 0) < - keyB L lv (P.getD x.val 0))
      rw [decide_eq_decide, sgn_neg']
      omega
    holds := fun j hj => by
      have hj' : j < count := by omega
      have := h.ord (first + j) (by omega)
      show w.cell? ⟨ob, first + j, none⟩ = some (.int .i64 ((P.getD (d[j]!).val 0 : Nat) : Int)) ∧ _
      rw [hdi j hj, hPg j hj']
      exact this
    lt := hlt.2.2
    sz := by omega
    big := by have := h.le; omega }
  refine (s2_SortStableFunc hS cap h0 (fun i hi => hdi i (by omega))).mono ?_
  rintro e w' ⟨rfl, d', ⟨hsl, p1', p2', p3'⟩, m, os, rfl⟩
  have hsz : d'.size = count := by omega
  have hM : (d'.toList.map fun (i : Fin (z + 1)) => P.getD i.val 0) = srtK (keyB L lv) P := by
    refine srt_is hPn ?_ ?_
    · have e1 : d'.extract 0 count = d' := by rw [← hsz]; exact Array.extract_size
      have e2 : d.extract 0 count = d := by rw [show count = d.size by omega]; exact Array.extract_size
      rw [e1, e2] at p3'
      refine (p3'.map _).trans ?_
      have : (d.toList.map fun (i : Fin (z + 1)) => P.getD i.val 0) = P := by
        apply List.ext_getElem
        · simp; omega
        · intro i h1 h2
          have hi : i < d.size := by simpa using h1
          simp only [List.getElem_map, Array.getElem_toList]
          rw [hds i hi, List.getD_eq_getElem?_getD, List.getElem?_eq_getElem h2]
          rfl
      rw [this]
    · unfold SrtK
      rw [List.pairwise_map, List.pairwise_iff_getElem]
      intro i j hi hj hij
      have hi' : i < d'.size := by simpa using hi
      have hj' : j < d'.size := by simpa using hj
      have hk := hsl i j (Nat.zero_le _) hij (by omega)
      have hnd : d'.toList.Nodup := by
        have e1 : d'.extract 0 count = d' := by rw [← hsz]; exact Array.extract_size
        have e2 : d.extract 0 count = d := by rw [show count = d.size by omega]; exact Array.extract_size
        rw [e1, e2] at p3'
        rw [p3'.nodup_iff]
        rw [List.nodup_iff_pairwise_ne, List.pairwise_iff_getElem]
        intro a b ha hb hab he
        have ha' : a < d.size := by simpa using ha
        have hb' : b < d.size := by simpa using hb
        simp only [Array.getElem_toList] at he
        have := congrArg Fin.val he
        rw [hds a ha', hds b hb'] at this
        omega
      have hne : d'[i].val ≠ d'[j].val := fun e => by
        have := (List.pairwise_iff_getElem.1 (List.nodup_iff_pairwise_ne.1 hnd)) i j hi hj hij
        exact this (by simpa using Fin.ext e)
      rw [getElem!_pos d' i hi', getElem!_pos d' j hj'] at hk
      simp only [Array.getElem_toList]
      unfold Rk at hk
      simp only at hk
      unfold aheadK
      have l1 := d'[i].isLt
      have l2 := d'[j].isLt
      rcases hk with hk | ⟨hk, hl⟩
      · exact .inl (by omega)
      · refine .inr ⟨by omega, ?_⟩
        have hlt : d'[i].val < d'[j].val := by omega
        have g : ∀ i (hi : i < P.length), P.getD i 0 = P[i] := fun i hi => by rw [List.getD_eq_getElem?_getD, List.getElem?_eq_getElem hi]; rfl
        rw [g _ (by omega), g _ (by omega)]
        exact List.pairwise_iff_getElem.1 hup _ _ _ _ hlt
  refine ⟨rfl, ?_, sx_kept _ w bb ob first m d' os⟩
  rw [hP, ← hM]
  have hml : (d'.toList.map fun (i : Fin (z + 1)) => P.getD i.val 0).length = d.size := by simp; omega
  refine TrB.sorted (encE (fun i => ((P.getD i 0 : Nat) : Int)) (z := z)) h first d d' hS.holds (by omega) (by omega) _ hml (fun i hi => ?_) ?_ m os
  · have hi' : i < d'.size := by omega
    unfold encE
    rw [getElem!_pos d' i hi', List.getD_eq_getElem?_getD (l := d'.toList.map _), List.getElem?_map, Array.getElem?_toList, Array.getElem?_eq_getElem hi']
    rfl
  · rw [hM, show d.size = count by omega, hP]
    exact srt_perm _ _
end
end

section
set_option linter.unusedVariables false
set_option linter.unusedSimpArgs false
open Go.RowKit Go.Shelf Go.Lib Go.Sort
abbrev s4W (w : World) (g a : Nat) (u1 u2 u3 u4 : Value) : World := (((w.setCell ⟨g, a, none⟩ u1).setCell ⟨g, a + 1, none⟩ u2).setCell ⟨g, a + 2, none⟩ u3).setCell ⟨g, a + 3, none⟩ u4
theorem s4_miss {w : World} {g a k : Nat} (h : k < a ∨ a + 4 ≤ k) (u1 u2 u3 u4 : Value) : (s4W w g a u1 u2 u3 u4).cell? ⟨g, k, none⟩ = w.cell? ⟨g, k, none⟩ := by
  have ne : ∀ j, a ≤ j → j < a + 4 → (⟨g, j, none⟩ : Addr) ≠ ⟨g, k, none⟩ := fun j h1 h2 e => by injection e with _ e _; omega
  unfold s4W
  rw [World.cell?_setCell_other _ _ _ _ (ne _ (by omega) (by omega)), World.cell?_setCell_other _ _ _ _ (ne _ (by omega) (by omega)), World.cell?_setCell_other _ _ _ _ (ne _ (by omega) (by omega)), World.cell?_setCell_other _ _ _ _ (ne _ (by omega) (by omega))]
theorem s4_hit {w : World} {g a : Nat} {v1 v2 v3 v4 : Value} (h1 : w.cell? ⟨g, a, none⟩ = some v1) (h2 : w.cell? ⟨g, a + 1, none⟩ = some v2) (h3 : w.cell? ⟨g, a + 2, none⟩ = some v3) (h4 : w.cell? ⟨g, a + 3, none⟩ = some v4) (u1 u2 u3 u4 : Value) :
    (s4W w g a u1 u2 u3 u4).cell? ⟨g, a, none⟩ = some u1 ∧ (s4W w g a u1 u2 u3 u4).cell? ⟨g, a + 1, none⟩ = some u2 ∧ (s4W w g a u1 u2 u3 u4).cell? ⟨g, a + 2, none⟩ = some u3 ∧ (s4W w g a u1 u2 u3 u4).cell? ⟨g, a + 3, none⟩ = some u4 := by
  have ne : ∀ i j, i ≠ j → (⟨g, i, none⟩ : Addr) ≠ ⟨g, j, none⟩ := fun i j h e => by injection e with _ e _; exact h e
  unfold s4W
  refine ⟨?_, ?_, ?_, ?_⟩
  · rw [World.cell?_setCell_other _ _ _ _ (ne _ _ (by omega)), World.cell?_setCell_other _ _ _ _ (ne _ _ (by omega)), World.cell?_setCell_other _ _ _ _ (ne _ _ (by omega))]
    exact World.cell?_setCell_same _ _ _ h1
  · rw [World.cell?_setCell_other _ _ _ _ (ne _ _ (by omega)), World.cell?_setCell_other _ _ _ _ (ne _ _ (by omega))]
    exact World.cell?_setCell_same _ _ _ (by rw [World.cell?_setCell_other _ _ _ _ (ne _ _ (by omega))]; exact h2)
  · rw [World.cell?_setCell_other _ _ _ _ (ne _ _ (by omega))]
    exact World.cell?_setCell_same _ _ _ (by rw [World.cell?_setCell_other _ _ _ _ (ne _ _ (by omega)), World.cell?_setCell_other _ _ _ _ (ne _ _ (by omega))]; exact h3)
  · exact World.cell?_setCell_same _ _ _ (by rw [World.cell?_setCell_other _ _ _ _ (ne _ _ (by omega)), World.cell?_setCell_other _ _ _ _ (ne _ _ (by omega)), World.cell?_setCell_other _ _ _ _ (ne _ _ (by omega))]; exact h4)
theorem s4_frozen {w : World} {g a : Nat} {b : Addr} (u1 u2 u3 u4 : Value) : (s4W w g a u1 u2 u3 u4).frozen? b = w.frozen? b := by
  unfold s4W; rw [World.frozen?_setCell, World.frozen?_setCell, World.frozen?_setCell, World.frozen?_setCell]
theorem s4_heap {w : World} {g a k : Nat} (h : k ≠ g) (u1 u2 u3 u4 : Value) : (s4W w g a u1 u2 u3 u4).heap[k]? = w.heap[k]? := by
  unfold s4W; rw [Below.heap_setCell _ _ _ k h, Below.heap_setCell _ _ _ k h, Below.heap_setCell _ _ _ k h, Below.heap_setCell _ _ _ k h]
theorem s4_kept (w : World) (g y a : Nat) (u1 u2 u3 u4 : Value) (J : Array Obj) {d : Nat} : Kept2 g y w ((s4W w g a u1 u2 u3 u4).plus J d) := by
  refine ⟨?_, fun k hk h1 _ => ?_⟩
  · unfold s4W; (repeat' first | with_reducible (first | apply Below.refl | assumption | apply bw_a | apply bw_d | apply bw_n | apply bw_p | apply bw_c | apply bw_r) | go_size)
  · have hs : (s4W w g a u1 u2 u3 u4).heap.size = w.heap.size := by unfold s4W; simp
    rw [(Junk.below ⟨J, d, rfl⟩ : Below (s4W w g a u1 u2 u3 u4).heap.size _ _).block k (by rw [hs]; exact hk), s4_heap h1]
section
variable {tb bb ob n cb co : Nat} {L : List Bx} {O : List Nat} {N : Nat → Bx} {w : World}
theorem TrB.plus (h : TrB tb bb ob n cb co L O N w) (J : Array Obj) (d : Nat) : TrB tb bb ob n cb co L O N (w.plus J d) := h.below (Junk.below ⟨J, d, rfl⟩)
theorem TrB.store (h : TrB tb bb ob n cb co L O N w) (node : Nat) (hn : n ≤ node) (hm : node < 2 * n - 1) (b : Bx) (J : Array Obj) (d : Nat) :
    TrB tb bb ob n cb co L O (fun i => if i = node then b else N i) ((s4W w bb (node * 4) (.int .i64 b.1) (.int .i64 b.2.1) (.int .i64 b.2.2.1) (.int .i64 b.2.2.2)).plus J d) := by
  refine TrB.plus ?_ J d
  have ht : (s4W w bb (node * 4) (.int .i64 b.1) (.int .i64 b.2.1) (.int .i64 b.2.2.1) (.int .i64 b.2.2.2)).heap[tb]? = w.heap[tb]? := s4_heap h.n1 _ _ _ _
  have ho : (s4W w bb (node * 4) (.int .i64 b.1) (.int .i64 b.2.1) (.int .i64 b.2.2.1) (.int .i64 b.2.2.2)).heap[ob]? = w.heap[ob]? := s4_heap (fun e => h.n3 e.symm) _ _ _ _
  have hh := s4_hit (h.b1 node hm).1 (h.b2 node hm).1 (h.b3 node hm).1 (h.b4 node hm).1 (.int .i64 b.1) (.int .i64 b.2.1) (.int .i64 b.2.2.1) (.int .i64 b.2.2.2)
  have r1 : rowB n L (fun i => if i = node then b else N i) node = b := by unfold rowB; rw [if_neg (by omega)]; exact if_pos rfl
  have r2 : ∀ i, i ≠ node → rowB n L (fun i => if i = node then b else N i) i = rowB n L N i := fun i hi => by
    unfold rowB
    show (if i < n then L.getD i Bz else if i = node then b else N i) = _
    rw [if_neg hi]
  have row : ∀ i k (v : Value), k < 4 → i ≠ node → w.cell? ⟨bb, i * 4 + k, none⟩ = some v → (s4W w bb (node * 4) (.int .i64 b.1) (.int .i64 b.2.1) (.int .i64 b.2.2.1) (.int .i64 b.2.2.2)).cell? ⟨bb, i * 4 + k, none⟩ = some v := fun i k v hk hi hc => by
    rw [s4_miss (by omega)]; exact hc
  exact {
    self := (World.cell?_of_block (a := ⟨tb, 0, none⟩) ht).trans h.self
    bs := (World.cell?_of_block (a := ⟨tb, 1, none⟩) ht).trans h.bs
    os := (World.cell?_of_block (a := ⟨tb, 2, none⟩) ht).trans h.os
    hL := h.hL
    hO := h.hO
    pos := h.pos
    le := h.le
    hco := h.hco
    hcb := h.hcb
    ord := fun i hi => ⟨(World.cell?_of_block (a := ⟨ob, i, none⟩) ho).trans (h.ord i hi).1, (frozen_of_block ho).trans (h.ord i hi).2⟩
    b1 := fun i hi => ⟨by
      by_cases e : i = node
      · rw [e, r1]; exact hh.1
      · rw [r2 i e]; exact row i 0 _ (by omega) e (h.b1 i hi).1, (s4_frozen _ _ _ _).trans (h.b1 i hi).2⟩
    b2 := fun i hi => ⟨by
      by_cases e : i = node
      · rw [e, r1]; exact hh.2.1
      · rw [r2 i e]; exact row i 1 _ (by omega) e (h.b2 i hi).1, (s4_frozen _ _ _ _).trans (h.b2 i hi).2⟩
    b3 := fun i hi => ⟨by
      by_cases e : i = node
      · rw [e, r1]; exact hh.2.2.1
      · rw [r2 i e]; exact row i 2 _ (by omega) e (h.b3 i hi).1, (s4_frozen _ _ _ _).trans (h.b3 i hi).2⟩
    b4 := fun i hi => ⟨by
      by_cases e : i = node
      · rw [e, r1]; exact hh.2.2.2
      · rw [r2 i e]; exact row i 3 _ (by omega) e (h.b4 i hi).1, (s4_frozen _ _ _ _).trans (h.b4 i hi).2⟩
    n1 := h.n1
    n2 := h.n2
    n3 := h.n3
    mem := h.mem
    nodup := h.nodup }
theorem n_btPlace (h : TrB tb bb ob n cb co L O N w) (f c node : Nat) (y : Bool) (h0 : 0 < c) (hf : f + c ≤ n) :
    Calls Tryz.prog 81 #[.pointer (some ⟨tb, 0, none⟩), ptV f c node y] w fun e w' => e = .returned (.int .i64 ((plcB (slc O f c) node : Nat) : Int)) ∧ Junk w w' := by
  have hl : (slc O f c).length = c := slc_len (by rw [h.hO]; exact hf)
  unfold plcB
  rw [hl]
  by_cases h1 : c = 1
  · subst h1
    rw [if_pos rfl, slc_get (by omega)]
    exact n_btPlace1 tb ob n co f node _ y w (by omega) (by have := h.le; omega) h.os (h.ord f (by omega)).1
  · rw [if_neg h1]
    exact n_btPlace2 tb f c node y w (by omega)
theorem place_row (h : TrB tb bb ob n cb co L O N w) {P : List Nat} {node : Nat} (hP : ∀ i ∈ P, i < n) (hp : 0 < P.length) (hn : n ≤ node) : rowB n L N (plcB P node) = valB L N P node := by
  unfold rowB plcB valB
  by_cases h1 : P.length = 1
  · rw [if_pos h1, if_pos h1, if_pos (hP _ (getD_memN (by omega)))]
  · rw [if_neg h1, if_neg h1, if_neg (by omega)]
theorem place_lt {P : List Nat} {node : Nat} (hP : ∀ i ∈ P, i < n) (hp : 0 < P.length) (hn : 0 < n) (hm : 2 ≤ P.length → node < 2 * n - 1) : plcB P node < 2 * n - 1 := by
  unfold plcB
  by_cases h1 : P.length = 1
  · rw [if_pos h1]; have := hP _ (getD_memN (show 0 < P.length by omega)); omega
  · rw [if_neg h1]; exact hm (by omega)
end
end
end Go.Proofs.YthphdiigjimchaaGreat

/- Contracts of package point: the four methods of extent. The least box with points: mathematics. No program. Contract of point.Bounds. Contract of point.Bounds. Contract of apportionref07.Bounds. -/
import Derived.Test.YthphdiigjimchaaGreatPtOne
import Derived.Test.YthphdiigjimchaaGreatKitOne
namespace Go.Proofs.YthphdiigjimchaaGreat
section
set_option linter.unusedVariables false
set_option linter.unusedSimpArgs false
open Go.RowKit
def xcells (lx ly hx hy : Int) : Array Value := #[.int .i64 lx, .int .i64 ly, .int .i64 hx, .int .i64 hy]
theorem turned_set {w : World} {b : Nat} {c : Array Value} (i : Nat) {v : Value} (h : w.rowAt b = some c) {W : World} (hj : Junk (w.setCell ⟨b, i, none⟩ v) W) : Turned b (c.setIfInBounds i v) w W := by
  unfold Turned; rw [← set1 h]; exact hj
set_option maxHeartbeats 1000000 in
theorem n_ptLeft (w : World) (g : Nat) (lx ly hx hy x y : Int) (h : w.rowAt g = some (xcells lx ly hx hy)) : Calls Tryz.prog 68 #[.pointer (some ⟨g, 0, none⟩), pt x y] w fun e w' => e = .returned (.tuple #[]) ∧ Turned g (xcells (min lx x) ly hx hy) w w' := by
  have hg : g < w.heap.size := World.block_lt_of_cell? _ _ (ucell_of_row h 0)
  have c0 := ucell_of_row h 0
  have z0 := ufrozen_of_row h
  simp [xcells] at c0
  have HR := Lib.hid h
  obtain ⟨m, hm⟩ : ∃ m, min lx x = m := ⟨_, rfl⟩
  rw [hm]
  have HM := Lib.hid hm
  clear h hm
  unfold pt
  go_enter Tryz.func68, Tryz.ntmps68
  go_wp2
  go_region
  all_goals go_wp2
  all_goals
    go_end0
    refine ⟨rfl, ?_⟩
    first
      | (have hm : m = x := by (rw [← HM.out]; omega)
         rw [hm]
         exact turned_set 0 HR.out (junk_of_below (by (repeat' first | with_reducible (first | apply Below.refl | assumption | apply bw_a | apply bw_d | apply bw_n | apply bw_p | apply bw_c | apply bw_r) | go_size))))
      | (have hm : m = lx := by (rw [← HM.out]; omega)
         rw [hm]
         exact turned_set 0 HR.out (junk_of_below (by (repeat' first | with_reducible (first | apply Below.refl | assumption | apply bw_a | apply bw_d | apply bw_n | apply bw_p | apply bw_c | apply bw_r) | go_size))))
set_option maxHeartbeats 1000000 in
theorem n_ptDown (w : World) (g : Nat) (lx ly hx hy x y : Int) (h : w.rowAt g = some (xcells lx ly hx hy)) : Calls Tryz.prog 69 #[.pointer (some ⟨g, 0, none⟩), pt x y] w fun e w' => e = .returned (.tuple #[]) ∧ Turned g (xcells lx (min ly y) hx hy) w w' := by
  have hg : g < w.heap.size := World.block_lt_of_cell? _ _ (ucell_of_row h 0)
  have c0 := ucell_of_row h 1
  have z0 := ufrozen_of_row h
  simp [xcells] at c0
  have HR := Lib.hid h
  obtain ⟨m, hm⟩ : ∃ m, min ly y = m := ⟨_, rfl⟩
  rw [hm]
  have HM := Lib.hid hm
  clear h hm
  unfold pt
  go_enter Tryz.func69, Tryz.ntmps69
  go_wp2
  go_region
  all_goals go_wp2
  all_goals
    go_end0
    refine ⟨rfl, ?_⟩
    first
      | (have hm : m = y := by (rw [← HM.out]; omega)
         rw [hm]
         exact turned_set 1 HR.out (junk_of_below (by (repeat' first | with_reducible (first | apply Below.refl | assumption | apply bw_a | apply bw_d | apply bw_n | apply bw_p | apply bw_c | apply bw_r) | go_size))))
      | (have hm : m = ly := by (rw [← HM.out]; omega)
         rw [hm]
         exact turned_set 1 HR.out (junk_of_below (by (repeat' first | with_reducible (first | apply Below.refl | assumption | apply bw_a | apply bw_d | apply bw_n | apply bw_p | apply bw_c | apply bw_r) | go_size))))
set_option maxHeartbeats 1000000 in
theorem n_ptRight (w : World) (g : Nat) (lx ly hx hy x y : Int) (h : w.rowAt g = some (xcells lx ly hx hy)) : Calls Tryz.prog 70 #[.pointer (some ⟨g, 0, none⟩), pt x y] w fun e w' => e = .returned (.tuple #[]) ∧ Turned g (xcells lx ly (max hx x) hy) w w' := by
  have hg : g < w.heap.size := World.block_lt_of_cell? _ _ (ucell_of_row h 0)
  have c0 := ucell_of_row h 2
  have z0 := ufrozen_of_row h
  simp [xcells] at c0
  have HR := Lib.hid h
  obtain ⟨m, hm⟩ : ∃ m, max hx x = m := ⟨_, rfl⟩
  rw [hm]
  have HM := Lib.hid hm
  clear h hm
  unfold pt
  go_enter Tryz.func70, Tryz.ntmps70
  go_wp2
  go_region
  all_goals go_wp2
  all_goals
    go_end0
    refine ⟨rfl, ?_⟩
    first
      | (have hm : m = x := by (rw [← HM.out]; omega)
         rw [hm]
         exact turned_set 2 HR.out (junk_of_below (by (repeat' first | with_reducible (first | apply Below.refl | assumption | apply bw_a | apply bw_d | apply bw_n | apply bw_p | apply bw_c | apply bw_r) | go_size))))
      | (have hm : m = hx := by (rw [← HM.out]; omega)
         rw [hm]
         exact turned_set 2 HR.out (junk_of_below (by (repeat' first | with_reducible (first | apply Below.refl | assumption | apply bw_a | apply bw_d | apply bw_n | apply bw_p | apply bw_c | apply bw_r) | go_size))))
set_option maxHeartbeats 1000000 in
theorem n_ptUp (w : World) (g : Nat) (lx ly hx hy x y : Int) (h : w.rowAt g = some (xcells lx ly hx hy)) : Calls Tryz.prog 71 #[.pointer (some ⟨g, 0, none⟩), pt x y] w fun e w' => e = .returned (.tuple #[]) ∧ Turned g (xcells lx ly hx (max hy y)) w w' := by
  have hg : g < w.heap.size := World.block_lt_of_cell? _ _ (ucell_of_row h 0)
  have c0 := ucell_of_row h 3
  have z0 := ufrozen_of_row h
  simp [xcells] at c0
  have HR := Lib.hid h
  obtain ⟨m, hm⟩ : ∃ m, max hy y = m := ⟨_, rfl⟩
  rw [hm]
  have HM := Lib.hid hm
  clear h hm
  unfold pt
  go_enter Tryz.func71, Tryz.ntmps71
  go_wp2
  go_region
  all_goals go_wp2
  all_goals
    go_end0
    refine ⟨rfl, ?_⟩
    first
      | (have hm : m = y := by (rw [← HM.out]; omega)
         rw [hm]
         exact turned_set 3 HR.out (junk_of_below (by (repeat' first | with_reducible (first | apply Below.refl | assumption | apply bw_a | apply bw_d | apply bw_n | apply bw_p | apply bw_c | apply bw_r) | go_size))))
      | (have hm : m = hy := by (rw [← HM.out]; omega)
         rw [hm]
         exact turned_set 3 HR.out (junk_of_below (by (repeat' first | with_reducible (first | apply Below.refl | assumption | apply bw_a | apply bw_d | apply bw_n | apply bw_p | apply bw_c | apply bw_r) | go_size))))
theorem results_box {fn : Func} {p : Tmp} (h : fn.results = #[.cell p 67]) (tmps : Array Value) (w : World) (g : Nat) (c : Array Value)
    (hp : tmps.getD p undef = .pointer (some ⟨g, 0, none⟩)) (hr : w.rowAt g = some c) (hc : c.size = 4) : (results fn tmps).run Tryz.prog w = .ok (.agg c) w := by
  obtain ⟨ty, hg⟩ := rowAt_some hr
  have hp' : tmps[p]?.getD undef = .pointer (some ⟨g, 0, none⟩) := by simpa using hp
  simp [results, h, hp', asAddr, run_loadVar_row w g ty _ c (0, 0) _ hg Tryz.underlying67 rfl (by rw [hc]; kernel_rfl)]
theorem results_box2 {fn : Func} {p t : Tmp} (h : fn.results = #[.cell p 67, .tmp t]) (tmps : Array Value) (w : World) (g : Nat) (c : Array Value)
    (hp : tmps.getD p undef = .pointer (some ⟨g, 0, none⟩)) (hr : w.rowAt g = some c) (hc : c.size = 4) : (results fn tmps).run Tryz.prog w = .ok (.tuple #[.agg c, tmps.getD t undef]) w := by
  obtain ⟨ty, hg⟩ := rowAt_some hr
  have hp' : tmps[p]?.getD undef = .pointer (some ⟨g, 0, none⟩) := by simpa using hp
  simp [results, h, hp', asAddr, run_loadVar_row w g ty _ c (0, 0) _ hg Tryz.underlying67 rfl (by rw [hc]; kernel_rfl)]
set_option maxHeartbeats 1000000 in
theorem n_ptBox (w : World) (g : Nat) (lx ly hx hy : Int) (h : w.rowAt g = some (xcells lx ly hx hy)) (b1 : -1099511627775 ≤ hx ∧ hx ≤ 1099511627775) (b2 : -1099511627775 ≤ hy ∧ hy ≤ 1099511627775) :
    Calls Tryz.prog 72 #[.pointer (some ⟨g, 0, none⟩)] w fun e w' => e = .returned (bxV lx ly (hx + 1) (hy + 1)) ∧ Junk w w' := by
  have hg : g < w.heap.size := World.block_lt_of_cell? _ _ (ucell_of_row h 0)
  have c0 := ucell_of_row h 0
  have c1 := ucell_of_row h 1
  have c2 := ucell_of_row h 2
  have c3 := ucell_of_row h 3
  have e1 : IntKind.i64.wrap (hx + 1) = hx + 1 := by simp [IntKind.wrap, IntKind.signed, IntKind.bits]; omega
  have e2 : IntKind.i64.wrap (hy + 1) = hy + 1 := by simp [IntKind.wrap, IntKind.signed, IntKind.bits]; omega
  simp [xcells] at c0 c1 c2 c3
  have HR := Lib.hid h
  clear h
  unfold bxV
  go_enter Tryz.func72, Tryz.ntmps72
  go_wp2
  go_region
  all_goals go_wp2
  all_goals refine bodyPost_ret (results_box rfl _ _ w.heap.size #[.int .i64 lx, .int .i64 ly, .int .i64 (hx + 1), .int .i64 (hy + 1)] rfl (by simp [go_sem]) rfl) rfl ⟨rfl, junk_of_below (by (repeat' first | with_reducible (first | apply Below.refl | assumption | apply bw_a | apply bw_d | apply bw_n | apply bw_p | apply bw_c | apply bw_r) | go_size))⟩
end

section
set_option linter.unusedVariables false
set_option linter.unusedSimpArgs false
open Go.RowKit
def lxF (K : List (Int × Int)) (m : Nat) : Int := (K.take m).foldl (fun s p => min s p.1) (K.getD 0 (0, 0)).1
def lyF (K : List (Int × Int)) (m : Nat) : Int := (K.take m).foldl (fun s p => min s p.2) (K.getD 0 (0, 0)).2
def hxF (K : List (Int × Int)) (m : Nat) : Int := (K.take m).foldl (fun s p => max s p.1) (K.getD 0 (0, 0)).1
def hyF (K : List (Int × Int)) (m : Nat) : Int := (K.take m).foldl (fun s p => max s p.2) (K.getD 0 (0, 0)).2
theorem fold_snoc {K : List (Int × Int)} {k : Nat} {x y : Int} (hk : k < K.length) (h : K.getD k (0, 0) = (x, y)) (f : Int → Int × Int → Int) (s : Int) : (K.take (k + 1)).foldl f s = f ((K.take k).foldl f s) (x, y) := by
  rw [List.take_succ_eq_append_getElem hk, List.foldl_append]
  rw [List.getD_eq_getElem?_getD, List.getElem?_eq_getElem hk] at h
  simp at h
  simp [h]
section
variable {K : List (Int × Int)} {k : Nat} {x y : Int}
theorem lx_step (hk : k < K.length) (h : K.getD k (0, 0) = (x, y)) : lxF K (k + 1) = min (lxF K k) x := fold_snoc hk h _ _
theorem ly_step (hk : k < K.length) (h : K.getD k (0, 0) = (x, y)) : lyF K (k + 1) = min (lyF K k) y := fold_snoc hk h _ _
theorem hx_step (hk : k < K.length) (h : K.getD k (0, 0) = (x, y)) : hxF K (k + 1) = max (hxF K k) x := fold_snoc hk h _ _
theorem hy_step (hk : k < K.length) (h : K.getD k (0, 0) = (x, y)) : hyF K (k + 1) = max (hyF K k) y := fold_snoc hk h _ _
end
theorem x0 (K : List (Int × Int)) : xcells (lxF K 0) (lyF K 0) (hxF K 0) (hyF K 0) = xcells (K.getD 0 (0, 0)).1 (K.getD 0 (0, 0)).2 (K.getD 0 (0, 0)).1 (K.getD 0 (0, 0)).2 := by
  simp [lxF, lyF, hxF, hyF]
theorem fold_inv (P : Int → Prop) (f : Int → Int × Int → Int) : ∀ (L : List (Int × Int)) (s : Int), P s → (∀ m p, p ∈ L → P m → P (f m p)) → P (L.foldl f s)
  | [], s, h, _ => h
  | p :: L, s, h, hs => fold_inv P f L (f s p) (hs s p (by simp) h) fun m q hq hm => hs m q (by simp [hq]) hm
theorem allOk_at {K : List (Int × Int)} (h : allOk K = true) {p : Int × Int} (hp : p ∈ K) : okP p.1 p.2 = true := by
  unfold allOk at h
  exact List.all_eq_true.1 h p hp
theorem mem0 {K : List (Int × Int)} (h : 0 < K.length) : K.getD 0 (0, 0) ∈ K := by
  rw [List.getD_eq_getElem?_getD, List.getElem?_eq_getElem h]
  exact List.getElem_mem h
theorem hx_ok {K : List (Int × Int)} (h : allOk K = true) (h0 : 0 < K.length) (m : Nat) : -1099511627775 ≤ hxF K m ∧ hxF K m ≤ 1099511627775 := by
  unfold hxF
  refine fold_inv (fun s => -1099511627775 ≤ s ∧ s ≤ 1099511627775) _ _ _ (okP_iff.1 (allOk_at h (mem0 h0))).1 fun s p hp hs => ?_
  have := (okP_iff.1 (allOk_at h (List.mem_of_mem_take hp))).1
  omega
theorem hy_ok {K : List (Int × Int)} (h : allOk K = true) (h0 : 0 < K.length) (m : Nat) : -1099511627775 ≤ hyF K m ∧ hyF K m ≤ 1099511627775 := by
  unfold hyF
  refine fold_inv (fun s => -1099511627775 ≤ s ∧ s ≤ 1099511627775) _ _ _ (okP_iff.1 (allOk_at h (mem0 h0))).2 fun s p hp hs => ?_
  have := (okP_iff.1 (allOk_at h (List.mem_of_mem_take hp))).2
  omega
theorem lx_ok {K : List (Int × Int)} (h : allOk K = true) (h0 : 0 < K.length) (m : Nat) : -1099511627775 ≤ lxF K m ∧ lxF K m ≤ 1099511627775 := by
  unfold lxF
  refine fold_inv (fun s => -1099511627775 ≤ s ∧ s ≤ 1099511627775) _ _ _ (okP_iff.1 (allOk_at h (mem0 h0))).1 fun s p hp hs => ?_
  have := (okP_iff.1 (allOk_at h (List.mem_of_mem_take hp))).1
  omega
theorem ly_ok {K : List (Int × Int)} (h : allOk K = true) (h0 : 0 < K.length) (m : Nat) : -1099511627775 ≤ lyF K m ∧ lyF K m ≤ 1099511627775 := by
  unfold lyF
  refine fold_inv (fun s => -1099511627775 ≤ s ∧ s ≤ 1099511627775) _ _ _ (okP_iff.1 (allOk_at h (mem0 h0))).2 fun s p hp hs => ?_
  have := (okP_iff.1 (allOk_at h (List.mem_of_mem_take hp))).2
  omega
def bndOk (K : List (Int × Int)) : Bool := decide (0 < K.length) && allOk K
def boxF (K : List (Int × Int)) : Int × Int × Int × Int := if bndOk K then (lxF K K.length, lyF K K.length, hxF K K.length + 1, hyF K K.length + 1) else (0, 0, 0, 0)
def boxV (K : List (Int × Int)) : Value := bxV (boxF K).1 (boxF K).2.1 (boxF K).2.2.1 (boxF K).2.2.2
theorem boxV_none {K : List (Int × Int)} (h : bndOk K = false) : boxV K = .agg #[.int .i64 0, .int .i64 0, .int .i64 0, .int .i64 0] := by
  unfold boxV boxF; rw [h]; rfl
theorem boxV_some {K : List (Int × Int)} (h : bndOk K = true) : boxV K = bxV (lxF K K.length) (lyF K K.length) (hxF K K.length + 1) (hyF K K.length + 1) := by
  unfold boxV boxF; rw [h]; rfl
end

section
set_option linter.unusedVariables false
set_option linter.unusedSimpArgs false
open Go.RowKit
def cnt (n j k i : Nat) : Nat := if i < j then n else if i = j then k else 0
def stF (K : List (Int × Int)) (j k : Nat) : Array Value := xcells (lxF K (cnt K.length j k 0)) (lyF K (cnt K.length j k 1)) (hxF K (cnt K.length j k 2)) (hyF K (cnt K.length j k 3))
theorem st_next (K : List (Int × Int)) (j : Nat) : stF K j K.length = stF K (j + 1) 0 := by
  have h : ∀ i, cnt K.length j K.length i = cnt K.length (j + 1) 0 i := by
    intro i
    unfold cnt
    repeat' split
    all_goals omega
  unfold stF
  simp only [h]
section
variable {K : List (Int × Int)} {k : Nat} {x y : Int} (hk : k < K.length) (h : K.getD k (0, 0) = (x, y))
include hk h
theorem st_0 : stF K 0 (k + 1) = xcells (min (lxF K k) x) (lyF K 0) (hxF K 0) (hyF K 0) := by simp [stF, cnt, lx_step hk h]
theorem st_1 : stF K 1 (k + 1) = xcells (lxF K K.length) (min (lyF K k) y) (hxF K 0) (hyF K 0) := by simp [stF, cnt, ly_step hk h]
theorem st_2 : stF K 2 (k + 1) = xcells (lxF K K.length) (lyF K K.length) (max (hxF K k) x) (hyF K 0) := by simp [stF, cnt, hx_step hk h]
theorem st_3 : stF K 3 (k + 1) = xcells (lxF K K.length) (lyF K K.length) (hxF K K.length) (max (hyF K k) y) := by simp [stF, cnt, hy_step hk h]
end
theorem st0 (K : List (Int × Int)) (k : Nat) : stF K 0 k = xcells (lxF K k) (lyF K 0) (hxF K 0) (hyF K 0) := by simp [stF, cnt]
theorem st1 (K : List (Int × Int)) (k : Nat) : stF K 1 k = xcells (lxF K K.length) (lyF K k) (hxF K 0) (hyF K 0) := by simp [stF, cnt]
theorem st2 (K : List (Int × Int)) (k : Nat) : stF K 2 k = xcells (lxF K K.length) (lyF K K.length) (hxF K k) (hyF K 0) := by simp [stF, cnt]
theorem st3 (K : List (Int × Int)) (k : Nat) : stF K 3 k = xcells (lxF K K.length) (lyF K K.length) (hxF K K.length) (hyF K k) := by simp [stF, cnt]
theorem st4 (K : List (Int × Int)) : stF K 4 0 = xcells (lxF K K.length) (lyF K K.length) (hxF K K.length) (hyF K K.length) := by simp [stF, cnt]
def ExtAt (w2 : World) (K : List (Int × Int)) (j k : Nat) (wr : World) : Prop := ∃ J d, wr = (w2.alloc (.cells (stF K j k) 117)).plus J d
theorem ext_step {w2 : World} {K : List (Int × Int)} {j k : Nat} {c : Array Value} (hc : stF K j (k + 1) = c) {J : Array Obj} {d : Nat} {o : Obj} {w' : World}
    (h : Turned w2.heap.size c (((w2.alloc (.cells (stF K j k) 117)).plus J d).alloc o) w') : ExtAt w2 K j (k + 1) w' := by
  unfold Turned at h
  rw [setRow_alloc_past _ _ _ _ (by simp; omega), setRow_plus _ _ _ _ _ (by simp), setRow_alloc_at _ _ _ _ _ rfl] at h
  obtain ⟨J1, d1, rfl⟩ := h
  unfold ExtAt
  rw [hc]
  obtain ⟨J2, d2, h2⟩ := junk_of_below (show Below (w2.alloc (.cells c 117)).heap.size (w2.alloc (.cells c 117)) ((((w2.alloc (.cells c 117)).plus J d).alloc o).plus J1 d1) by (repeat' first | with_reducible (first | apply Below.refl | assumption | apply bw_a | apply bw_d | apply bw_n | apply bw_p | apply bw_c | apply bw_r) | go_size))
  exact ⟨J2, d2, h2⟩
theorem ext_row {w2 : World} {K : List (Int × Int)} {j k : Nat} {J : Array Obj} {d : Nat} {o : Obj} : (((w2.alloc (.cells (stF K j k) 117)).plus J d).alloc o).rowAt w2.heap.size = some (stF K j k) := by
  rw [rowAt_alloc_past _ _ _ (by simp; omega), rowAt_plus _ _ _ _ (by simp), rowAt_alloc_at _ _ _ _ rfl]
theorem n_ext0 {w2 : World} {K : List (Int × Int)} {k : Nat} {x y : Int} (hk : k < K.length) (h : K.getD k (0, 0) = (x, y)) (J : Array Obj) (d : Nat) (o : Obj) :
    Calls Tryz.prog 68 #[.pointer (some ⟨w2.heap.size, 0, none⟩), pt x y] (((w2.alloc (.cells (stF K 0 k) 117)).plus J d).alloc o) fun e w' => e = .returned (.tuple #[]) ∧ ExtAt w2 K 0 (k + 1) w' :=
  (n_ptLeft _ _ _ _ _ _ x y (ext_row.trans (by rw [st0]))).mono fun e w' ⟨h1, h2⟩ => ⟨h1, ext_step (st_0 hk h) h2⟩
theorem n_ext1 {w2 : World} {K : List (Int × Int)} {k : Nat} {x y : Int} (hk : k < K.length) (h : K.getD k (0, 0) = (x, y)) (J : Array Obj) (d : Nat) (o : Obj) :
    Calls Tryz.prog 69 #[.pointer (some ⟨w2.heap.size, 0, none⟩), pt x y] (((w2.alloc (.cells (stF K 1 k) 117)).plus J d).alloc o) fun e w' => e = .returned (.tuple #[]) ∧ ExtAt w2 K 1 (k + 1) w' :=
  (n_ptDown _ _ _ _ _ _ x y (ext_row.trans (by rw [st1]))).mono fun e w' ⟨h1, h2⟩ => ⟨h1, ext_step (st_1 hk h) h2⟩
theorem n_ext2 {w2 : World} {K : List (Int × Int)} {k : Nat} {x y : Int} (hk : k < K.length) (h : K.getD k (0, 0) = (x, y)) (J : Array Obj) (d : Nat) (o : Obj) :
    Calls Tryz.prog 70 #[.pointer (some ⟨w2.heap.size, 0, none⟩), pt x y] (((w2.alloc (.cells (stF K 2 k) 117)).plus J d).alloc o) fun e w' => e = .returned (.tuple #[]) ∧ ExtAt w2 K 2 (k + 1) w' :=
  (n_ptRight _ _ _ _ _ _ x y (ext_row.trans (by rw [st2]))).mono fun e w' ⟨h1, h2⟩ => ⟨h1, ext_step (st_2 hk h) h2⟩
theorem n_ext3 {w2 : World} {K : List (Int × Int)} {k : Nat} {x y : Int} (hk : k < K.length) (h : K.getD k (0, 0) = (x, y)) (J : Array Obj) (d : Nat) (o : Obj) :
    Calls Tryz.prog 71 #[.pointer (some ⟨w2.heap.size, 0, none⟩), pt x y] (((w2.alloc (.cells (stF K 3 k) 117)).plus J d).alloc o) fun e w' => e = .returned (.tuple #[]) ∧ ExtAt w2 K 3 (k + 1) w' :=
  (n_ptUp _ _ _ _ _ _ x y (ext_row.trans (by rw [st3]))).mono fun e w' ⟨h1, h2⟩ => ⟨h1, ext_step (st_3 hk h) h2⟩
end

section
set_option linter.unusedVariables false
set_option linter.unusedSimpArgs false
open Go.RowKit
def OutAt (w2 : World) (K : List (Int × Int)) (i : Value) (wr : World) : Prop := ∃ j : Nat, i = .int .i64 (j : Int) ∧ j ≤ 4 ∧ ExtAt w2 K j 0 wr
def InnAt (w2 : World) (K : List (Int × Int)) (j : Nat) (i : Value) (wr : World) : Prop := ∃ k : Nat, i = .int .i64 (k : Int) ∧ k ≤ K.length ∧ ExtAt w2 K j k wr
theorem ix_0 (f0 f1 f2 f3 : Value) (w : World) : (Instr.index 119 (.agg #[f0, f1, f2, f3]) (.int .i64 0)).run Tryz.prog w = .ok f0 w := by kernel_rfl
theorem jx_0 (f0 f1 f2 f3 : Value) (w : World) : (Instr.index 119 (.agg #[f0, f1, f2, f3]) (.int .i64 ((0 : Nat) : Int))).run Tryz.prog w = .ok f0 w := by kernel_rfl
theorem ix_1 (f0 f1 f2 f3 : Value) (w : World) : (Instr.index 119 (.agg #[f0, f1, f2, f3]) (.int .i64 1)).run Tryz.prog w = .ok f1 w := by kernel_rfl
theorem jx_1 (f0 f1 f2 f3 : Value) (w : World) : (Instr.index 119 (.agg #[f0, f1, f2, f3]) (.int .i64 ((1 : Nat) : Int))).run Tryz.prog w = .ok f1 w := by kernel_rfl
theorem ix_2 (f0 f1 f2 f3 : Value) (w : World) : (Instr.index 119 (.agg #[f0, f1, f2, f3]) (.int .i64 2)).run Tryz.prog w = .ok f2 w := by kernel_rfl
theorem jx_2 (f0 f1 f2 f3 : Value) (w : World) : (Instr.index 119 (.agg #[f0, f1, f2, f3]) (.int .i64 ((2 : Nat) : Int))).run Tryz.prog w = .ok f2 w := by kernel_rfl
theorem ix_3 (f0 f1 f2 f3 : Value) (w : World) : (Instr.index 119 (.agg #[f0, f1, f2, f3]) (.int .i64 3)).run Tryz.prog w = .ok f3 w := by kernel_rfl
theorem jx_3 (f0 f1 f2 f3 : Value) (w : World) : (Instr.index 119 (.agg #[f0, f1, f2, f3]) (.int .i64 ((3 : Nat) : Int))).run Tryz.prog w = .ok f3 w := by kernel_rfl
set_option maxRecDepth 100000 in
set_option maxHeartbeats 4000000 in
theorem n_ptBounds (w : World) (a : Option Addr) (n ca : Nat) (K : List (Int × Int)) (hK : PReads w a n K) (hs : n ≤ 9223372036854775807) :
    Calls Tryz.prog 44 #[.slice a n ca] w fun e w' => e = .returned (.tuple #[boxV K, .bool (bndOk K)]) ∧ Junk w w' := by
  have HK := Lib.hid hK
  have HA := Lib.hid (fun w' (h : PReads w' a n K) => n_ptAll w' a n ca K h hs)
  have l1 := hK.1
  by_cases hn : n = 0
  · have hb : bndOk K = false := by unfold bndOk; simp; omega
    rw [boxV_none hb, hb]
    have e1 : ((n : Int) == 0) = true := by rw [beq_iff_eq]; omega
    clear hn l1 hK hb
    go_enter Tryz.func44, Tryz.ntmps44
    go_wp2
    refine bodyPost_ret (results_box2 rfl _ _ w.heap.size #[.int .i64 0, .int .i64 0, .int .i64 0, .int .i64 0] rfl (by simp [go_sem]) rfl) rfl ⟨rfl, junk_of_below (by (repeat' first | with_reducible (first | apply Below.refl | assumption | apply bw_a | apply bw_d | apply bw_n | apply bw_p | apply bw_c | apply bw_r) | go_size))⟩
  have e1 : ((n : Int) == 0) = false := by rw [beq_eq_false_iff_ne]; omega
  cases hall : allOk K with
  | false =>
    have hb : bndOk K = false := by unfold bndOk; rw [hall]; simp
    rw [boxV_none hb, hb]
    rw [hall] at HA
    clear hn l1 hK hb hall
    go_enter Tryz.func44, Tryz.ntmps44
    go_wp2_with (go_at_call 67; refine (HA.out _ (HK.out.below (by (repeat' first | with_reducible (first | apply Below.refl | assumption | apply bw_a | apply bw_d | apply bw_n | apply bw_p | apply bw_c | apply bw_r) | go_size)))).mono ?_; rintro e w1 ⟨rfl, J0, d0, rfl⟩)
    refine bodyPost_ret (results_box2 rfl _ _ w.heap.size #[.int .i64 0, .int .i64 0, .int .i64 0, .int .i64 0] rfl (by simp [go_sem]) rfl) rfl ⟨rfl, junk_of_below (by (repeat' first | with_reducible (first | apply Below.refl | assumption | apply bw_a | apply bw_d | apply bw_n | apply bw_p | apply bw_c | apply bw_r) | go_size))⟩
  | true =>
    have hb : bndOk K = true := by unfold bndOk; rw [hall]; simp; omega
    rw [boxV_some hb, hb]
    have HX := Lib.hid (hx_ok hall (by omega) K.length)
    have HY := Lib.hid (hy_ok hall (by omega) K.length)
    rw [hall] at HA
    rcases HK.out.2 with h0 | ⟨b1, o1, rfl, hc⟩
    · omega
    obtain ⟨p1, p2⟩ := hc 0 (by omega)
    have hx : ∃ x y : Int, (K.getD 0 (0, 0)) = (x, y) := ⟨_, _, rfl⟩
    obtain ⟨x, y, hx1⟩ := hx
    rw [hx1] at p1 p2
    simp at p1 p2
    have HC := Lib.hid hc
    have HX1 := Lib.hid hx1
    have HN := Lib.hid hn
    have L1 := Lib.hid l1
    have hbl : b1 < w.heap.size := World.block_lt_of_cell? _ _ p1
    have i1 : (0 : Int) < (n : Int) := by omega
    have hmf : ∀ (fn : Fn) (first cap : Array Value) (w : World), (Instr.makeFunc fn first cap).run Tryz.prog w = .ok (.func fn first cap) w := fun _ _ _ _ => rfl
    clear hn l1 hK hb hall hc hx1
    go_enter Tryz.func44, Tryz.ntmps44
    go_wp2_with (go_at_call 67; refine (HA.out _ (HK.out.below (by (repeat' first | with_reducible (first | apply Below.refl | assumption | apply bw_a | apply bw_d | apply bw_n | apply bw_p | apply bw_c | apply bw_r) | go_size)))).mono ?_; rintro e w1 ⟨rfl, J0, d0, rfl⟩)
    go_region
    go_wp2_with fail
    have hw : ∃ w2, ((w.alloc (.cells #[.int .i64 0, .int .i64 0, .int .i64 0, .int .i64 0] 67)).plus J0 (d0 + 1)) = w2 := ⟨_, rfl⟩
    obtain ⟨w2, hw2⟩ := hw
    have hz : w.heap.size + 1 + J0.size = w2.heap.size := by rw [← hw2]; simp
    have hj : Below w.heap.size w w2 := by rw [← hw2]; (repeat' first | with_reducible (first | apply Below.refl | assumption | apply bw_a | apply bw_d | apply bw_n | apply bw_p | apply bw_c | apply bw_r) | go_size)
    have hst : #[Value.int .i64 x, .int .i64 y, .int .i64 x, .int .i64 y] = stF K 0 0 := by rw [st0, x0, HX1.out]; rfl
    have hb2 : b1 < w2.heap.size := Nat.lt_of_lt_of_le hbl hj.size
    have HC2 := Lib.hid (fun i (hi : i < n) => show w2.cell? ⟨b1, o1 + i * 2, none⟩ = some (.int .i64 (K.getD i (0, 0)).1) ∧ w2.cell? ⟨b1, o1 + i * 2 + 1, none⟩ = some (.int .i64 (K.getD i (0, 0)).2) from by
      obtain ⟨h1, h2⟩ := HC.out i hi
      exact ⟨(World.cell?_of_block (a := ⟨b1, o1 + i * 2, none⟩) (hj.block b1 hbl)).trans h1, (World.cell?_of_block (a := ⟨b1, o1 + i * 2 + 1, none⟩) (hj.block b1 hbl)).trans h2⟩)
    rw [hw2, hz, hst]
    have HW2 := Lib.hid hw2
    clear hw2 hst hj p1 p2 hz
    go_loopw [30] (fun i wr => OutAt w2 K i wr) (fun i _ => 4 - (intOf i).toNat)
    case atStart => exact ⟨0, rfl, by omega, #[], _, (plus_nil _).symm⟩
    case round =>
      obtain ⟨j, hi, j4, J, d, rfl⟩ := hrel
      rcases (show j = 0 ∨ j = 1 ∨ j = 2 ∨ j = 3 ∨ j = 4 by omega) with rfl | rfl | rfl | rfl | rfl
      · obtain rfl : _ = Value.int .i64 0 := hi
        have hix := ix_0
        have hjx := jx_0
        go_wp2_with fail
        go_loopw [35] (fun i wr => InnAt w2 K 0 i wr) (fun i _ => n - (intOf i).toNat)
        case atStart => exact ⟨0, rfl, by omega, J, d, rfl⟩
        case round =>
          obtain ⟨k, rfl, k1, J1, d1, rfl⟩ := hrel
          rw [L1.out] at k1
          by_cases hlt : k < n
          · obtain ⟨q1, q2⟩ := HC2.out k hlt
            have i2 : (k : Int) < (n : Int) := by omega
            have hx : ∃ x y : Int, (K.getD k (0, 0)) = (x, y) := ⟨_, _, rfl⟩
            obtain ⟨u, v, hx1⟩ := hx
            rw [hx1] at q1 q2
            have hk : k < K.length := by rw [L1.out]; exact hlt
            have HE := Lib.hid (fun J d o => n_ext0 (w2 := w2) hk hx1 J d o)
            unfold pt at HE
            clear hx1 hk
            go_wp2_with (go_at_call 68; refine (HE.out _ _ _).mono ?_; rintro e w1 ⟨rfl, J2, d2, rfl⟩)
            go_roundw
            case rel => exact ⟨k + 1, by go_num, by rw [L1.out]; omega, J2, d2, rfl⟩
            case measure => simp [intOf]; omega
          · obtain rfl : k = n := by omega
            go_wp2_with fail
            go_roundw
            case rel => exact ⟨0 + 1, by go_num, by omega, J1, d1, by rw [← st_next, L1.out]⟩
            case measure => simp [intOf]
      · obtain rfl : _ = Value.int .i64 1 := hi
        have hix := ix_1
        have hjx := jx_1
        go_wp2_with fail
        go_loopw [35] (fun i wr => InnAt w2 K 1 i wr) (fun i _ => n - (intOf i).toNat)
        case atStart => exact ⟨0, rfl, by omega, J, d, rfl⟩
        case round =>
          obtain ⟨k, rfl, k1, J1, d1, rfl⟩ := hrel
          rw [L1.out] at k1
          by_cases hlt : k < n
          · obtain ⟨q1, q2⟩ := HC2.out k hlt
            have i2 : (k : Int) < (n : Int) := by omega
            have hx : ∃ x y : Int, (K.getD k (0, 0)) = (x, y) := ⟨_, _, rfl⟩
            obtain ⟨u, v, hx1⟩ := hx
            rw [hx1] at q1 q2
            have hk : k < K.length := by rw [L1.out]; exact hlt
            have HE := Lib.hid (fun J d o => n_ext1 (w2 := w2) hk hx1 J d o)
            unfold pt at HE
            clear hx1 hk
            go_wp2_with (go_at_call 69; refine (HE.out _ _ _).mono ?_; rintro e w1 ⟨rfl, J2, d2, rfl⟩)
            go_roundw
            case rel => exact ⟨k + 1, by go_num, by rw [L1.out]; omega, J2, d2, rfl⟩
            case measure => simp [intOf]; omega
          · obtain rfl : k = n := by omega
            go_wp2_with fail
            go_roundw
            case rel => exact ⟨1 + 1, by go_num, by omega, J1, d1, by rw [← st_next, L1.out]⟩
            case measure => simp [intOf]
      · obtain rfl : _ = Value.int .i64 2 := hi
        have hix := ix_2
        have hjx := jx_2
        go_wp2_with fail
        go_loopw [35] (fun i wr => InnAt w2 K 2 i wr) (fun i _ => n - (intOf i).toNat)
        case atStart => exact ⟨0, rfl, by omega, J, d, rfl⟩
        case round =>
          obtain ⟨k, rfl, k1, J1, d1, rfl⟩ := hrel
          rw [L1.out] at k1
          by_cases hlt : k < n
          · obtain ⟨q1, q2⟩ := HC2.out k hlt
            have i2 : (k : Int) < (n : Int) := by omega
            have hx : ∃ x y : Int, (K.getD k (0, 0)) = (x, y) := ⟨_, _, rfl⟩
            obtain ⟨u, v, hx1⟩ := hx
            rw [hx1] at q1 q2
            have hk : k < K.length := by rw [L1.out]; exact hlt
            have HE := Lib.hid (fun J d o => n_ext2 (w2 := w2) hk hx1 J d o)
            unfold pt at HE
            clear hx1 hk
            go_wp2_with (go_at_call 70; refine (HE.out _ _ _).mono ?_; rintro e w1 ⟨rfl, J2, d2, rfl⟩)
            go_roundw
            case rel => exact ⟨k + 1, by go_num, by rw [L1.out]; omega, J2, d2, rfl⟩
            case measure => simp [intOf]; omega
          · obtain rfl : k = n := by omega
            go_wp2_with fail
            go_roundw
            case rel => exact ⟨2 + 1, by go_num, by omega, J1, d1, by rw [← st_next, L1.out]⟩
            case measure => simp [intOf]
      · obtain rfl : _ = Value.int .i64 3 := hi
        have hix := ix_3
        have hjx := jx_3
        go_wp2_with fail
        go_loopw [35] (fun i wr => InnAt w2 K 3 i wr) (fun i _ => n - (intOf i).toNat)
        case atStart => exact ⟨0, rfl, by omega, J, d, rfl⟩
        case round =>
          obtain ⟨k, rfl, k1, J1, d1, rfl⟩ := hrel
          rw [L1.out] at k1
          by_cases hlt : k < n
          · obtain ⟨q1, q2⟩ := HC2.out k hlt
            have i2 : (k : Int) < (n : Int) := by omega
            have hx : ∃ x y : Int, (K.getD k (0, 0)) = (x, y) := ⟨_, _, rfl⟩
            obtain ⟨u, v, hx1⟩ := hx
            rw [hx1] at q1 q2
            have hk : k < K.length := by rw [L1.out]; exact hlt
            have HE := Lib.hid (fun J d o => n_ext3 (w2 := w2) hk hx1 J d o)
            unfold pt at HE
            clear hx1 hk
            go_wp2_with (go_at_call 71; refine (HE.out _ _ _).mono ?_; rintro e w1 ⟨rfl, J2, d2, rfl⟩)
            go_roundw
            case rel => exact ⟨k + 1, by go_num, by rw [L1.out]; omega, J2, d2, rfl⟩
            case measure => simp [intOf]; omega
          · obtain rfl : k = n := by omega
            go_wp2_with fail
            go_roundw
            case rel => exact ⟨3 + 1, by go_num, by omega, J1, d1, by rw [← st_next, L1.out]⟩
            case measure => simp [intOf]
      · obtain rfl : _ = Value.int .i64 4 := hi
        have HB := Lib.hid (fun J' d' => n_ptBox ((w2.alloc (.cells (stF K 4 0) 117)).plus J' d') w2.heap.size _ _ _ _ (by rw [rowAt_plus _ _ _ _ (by simp), rowAt_alloc_at _ _ _ _ rfl, st4]) HX.out HY.out)
        unfold bxV at *
        obtain rfl := HW2.out
        simp only [size_plus, World.size_alloc] at HB
        go_wp2_with (go_at_call 72; refine (HB.out _ _).mono ?_; rintro e w1 ⟨rfl, J5, d5, rfl⟩)
        refine bodyPost_ret (results_box2 rfl _ _ w.heap.size #[.int .i64 (lxF K K.length), .int .i64 (lyF K K.length), .int .i64 (hxF K K.length + 1), .int .i64 (hyF K K.length + 1)] rfl (by simp [go_sem]) rfl) rfl ⟨rfl, junk_of_below (by (repeat' first | with_reducible (first | apply Below.refl | assumption | apply bw_a | apply bw_d | apply bw_n | apply bw_p | apply bw_c | apply bw_r) | go_size))⟩
end

section
set_option linter.unusedVariables false
set_option linter.unusedSimpArgs false
open Go.RowKit
def RefW (w2 : World) (K : List (Int × Int)) (k : Nat) (wr : World) : Prop := Junk (w2.alloc (.cells (xcells (lxF K k) (lyF K k) (hxF K k) (hyF K k)) 67)) wr
def RefAt (w2 : World) (K : List (Int × Int)) (i : Value) (wr : World) : Prop := ∃ k : Nat, i = .int .i64 (k : Int) ∧ k ≤ K.length ∧ allOk (K.take k) = true ∧ RefW w2 K k wr
theorem ref_next {w2 : World} {K : List (Int × Int)} {k : Nat} {a b c d : Int} {wr : World} (h : Junk (w2.alloc (.cells #[.int .i64 a, .int .i64 b, .int .i64 c, .int .i64 d] 67)) wr)
    (h1 : lxF K k = a) (h2 : lyF K k = b) (h3 : hxF K k = c) (h4 : hyF K k = d) : RefW w2 K k wr := by
  unfold RefW
  rw [h1, h2, h3, h4]
  exact h
set_option maxRecDepth 100000 in
set_option maxHeartbeats 4000000 in
theorem r_ptBounds (w : World) (a : Option Addr) (n ca : Nat) (K : List (Int × Int)) (hK : PReads w a n K) (hs : n ≤ 9223372036854775807) :
    Calls Tryz.prog 61 #[.slice a n ca] w fun e w' => e = .returned (.tuple #[boxV K, .bool (bndOk K)]) ∧ Junk w w' := by
  have l1 := hK.1
  by_cases hn : n = 0
  · have hb : bndOk K = false := by unfold bndOk; simp; omega
    rw [boxV_none hb, hb]
    have e1 : ((n : Int) == 0) = true := by rw [beq_iff_eq]; omega
    clear hn l1 hK hb
    go_enter Tryz.func61, Tryz.ntmps61
    go_wp2
    refine bodyPost_ret (results_box2 rfl _ _ w.heap.size #[.int .i64 0, .int .i64 0, .int .i64 0, .int .i64 0] rfl (by simp [go_sem]) rfl) rfl ⟨rfl, junk_of_below (by (repeat' first | with_reducible (first | apply Below.refl | assumption | apply bw_a | apply bw_d | apply bw_n | apply bw_p | apply bw_c | apply bw_r) | go_size))⟩
  have e1 : ((n : Int) == 0) = false := by rw [beq_eq_false_iff_ne]; omega
  rcases hK.2 with h0 | ⟨b1, o1, rfl, hc⟩
  · omega
  obtain ⟨p1, p2⟩ := hc 0 (by omega)
  have hx : ∃ x y : Int, (K.getD 0 (0, 0)) = (x, y) := ⟨_, _, rfl⟩
  obtain ⟨x, y, hx1⟩ := hx
  rw [hx1] at p1 p2
  simp at p1 p2
  have hbl : b1 < w.heap.size := World.block_lt_of_cell? _ _ p1
  have i1 : (0 : Int) < (n : Int) := by omega
  have HC := Lib.hid hc
  have HX1 := Lib.hid hx1
  have L1 := Lib.hid l1
  have HN0 := Lib.hid hn
  clear hn l1 hK hc hx1
  obtain ⟨B, hB⟩ : ∃ B, bndOk K = B := ⟨_, rfl⟩
  rw [hB]
  obtain ⟨V, hV⟩ : ∃ V, boxV K = V := ⟨_, rfl⟩
  rw [hV]
  have HB := Lib.hid hB
  have HV := Lib.hid hV
  clear hB hV
  go_enter Tryz.func61, Tryz.ntmps61
  go_wp2_with fail
  go_region
  go_wp2_with fail
  have hw : ∃ w2, (w.alloc (.cells #[.int .i64 0, .int .i64 0, .int .i64 0, .int .i64 0] 67)) = w2 := ⟨_, rfl⟩
  obtain ⟨w2, hw2⟩ := hw
  have hz : w.heap.size + 1 = w2.heap.size := by rw [← hw2]; simp
  have hj : Below w.heap.size w w2 := by rw [← hw2]; (repeat' first | with_reducible (first | apply Below.refl | assumption | apply bw_a | apply bw_d | apply bw_n | apply bw_p | apply bw_c | apply bw_r) | go_size)
  have hb2 : b1 < w2.heap.size := Nat.lt_of_lt_of_le hbl hj.size
  have HC2 := Lib.hid (fun i (hi : i < n) => show w2.cell? ⟨b1, o1 + i * 2, none⟩ = some (.int .i64 (K.getD i (0, 0)).1) ∧ w2.cell? ⟨b1, o1 + i * 2 + 1, none⟩ = some (.int .i64 (K.getD i (0, 0)).2) from by
      obtain ⟨h1, h2⟩ := HC.out i hi
      exact ⟨(World.cell?_of_block (a := ⟨b1, o1 + i * 2, none⟩) (hj.block b1 hbl)).trans h1, (World.cell?_of_block (a := ⟨b1, o1 + i * 2 + 1, none⟩) (hj.block b1 hbl)).trans h2⟩)
  rw [hw2, hz]
  have HW2 := Lib.hid hw2
  clear hw2 hj p1 p2 hz
  go_loopw [5] (fun i wr => RefAt w2 K i wr) (fun i _ => n - (intOf i).toNat)
  case atStart => exact ⟨0, rfl, by omega, by simp [allOk], ref_next (junk_of_below (by (repeat' first | with_reducible (first | apply Below.refl | assumption | apply bw_a | apply bw_d | apply bw_n | apply bw_p | apply bw_c | apply bw_r) | go_size))) (by unfold lxF; rw [HX1.out]; rfl) (by unfold lyF; rw [HX1.out]; rfl) (by unfold hxF; rw [HX1.out]; rfl) (by unfold hyF; rw [HX1.out]; rfl)⟩
  case round =>
    obtain ⟨k, rfl, k1, hk, J, d, rfl⟩ := hrel
    rw [L1.out] at k1
    unfold xcells
    by_cases hlt : k < n
    · obtain ⟨q1, q2⟩ := HC2.out k hlt
      have i2 : (k : Int) < (n : Int) := by omega
      have hx : ∃ u v : Int, (K.getD k (0, 0)) = (u, v) := ⟨_, _, rfl⟩
      obtain ⟨u, v, hx1⟩ := hx
      rw [hx1] at q1 q2
      have hkl : k < K.length := by rw [L1.out]; exact hlt
      have HV1 := Lib.hid (fun w' => r_ptValid u v w')
      unfold pt at HV1
      cases hok : okP u v with
      | false =>
        rw [hok] at HV1
        have hall : allOk K = false := allOk_not hkl hx1 hok
        have hb : bndOk K = false := by unfold bndOk; rw [hall]; simp
        have hB := HB.out
        have hV := HV.out
        rw [boxV_none hb] at hV
        rw [hb] at hB
        obtain ⟨r1, r2⟩ := HC.out k hlt
        rw [hx1] at r1 r2
        clear q1 q2
        have hb3 : b1 < w.heap.size + 1 := by omega
        have hb4 : b1 < w.heap.size + 1 + 1 := by omega
        obtain rfl := HW2.out
        subst hB hV
        clear hx1 hkl hok hall hb HB HV HW2
        generalize lxF K k = A1 at *
        generalize lyF K k = A2 at *
        generalize hxF K k = A3 at *
        generalize hyF K k = A4 at *
        go_wp2_with (go_at_call 82; refine (HV1.out _).mono ?_; rintro e w1 ⟨rfl, J1, d1, rfl⟩)
        refine bodyPost_ret (results_box2 rfl _ _ w.heap.size #[.int .i64 0, .int .i64 0, .int .i64 0, .int .i64 0] rfl (by simp [go_sem]) rfl) rfl ⟨rfl, junk_of_below (by (repeat' first | with_reducible (first | apply Below.refl | assumption | apply bw_a | apply bw_d | apply bw_n | apply bw_p | apply bw_c | apply bw_r) | go_size))⟩
      | true =>
        rw [hok] at HV1
        have HN := Lib.hid ((allOk_take hkl hx1 hk).trans hok)
        have H1 := Lib.hid (lx_step hkl hx1)
        have H2 := Lib.hid (ly_step hkl hx1)
        have H3 := Lib.hid (hx_step hkl hx1)
        have H4 := Lib.hid (hy_step hkl hx1)
        clear hx1 hkl hok hk
        generalize lxF K k = A1 at *
        generalize lyF K k = A2 at *
        generalize hxF K k = A3 at *
        generalize hyF K k = A4 at *
        go_wp2_with (go_at_call 82; refine (HV1.out _).mono ?_; rintro e w1 ⟨rfl, J1, d1, rfl⟩)
        all_goals go_roundw
        case rel => exact ⟨k + 1, by go_num, by rw [L1.out]; omega, HN.out, ref_next (junk_of_below (by (repeat' first | with_reducible (first | apply Below.refl | assumption | apply bw_a | apply bw_d | apply bw_n | apply bw_p | apply bw_c | apply bw_r) | go_size))) (by rw [H1.out]; split <;> omega) (by rw [H2.out]; split <;> omega) (by rw [H3.out]; split <;> omega) (by rw [H4.out]; split <;> omega)⟩
        case measure => simp [intOf]; omega
    · obtain rfl : k = n := by omega
      have hkl : K.take k = K := List.take_of_length_le (by rw [L1.out]; omega)
      rw [hkl] at hk
      have hb : bndOk K = true := by unfold bndOk; rw [hk]; simp; have := HN0.out; have := L1.out; omega
      have hh := hx_ok hk (by have := HN0.out; have := L1.out; omega) k
      have hh2 := hy_ok hk (by have := HN0.out; have := L1.out; omega) k
      have hB := HB.out
      have hV := HV.out
      rw [boxV_some hb, L1.out] at hV
      rw [hb] at hB
      obtain rfl := HW2.out
      subst hB hV
      clear hk hkl hb HB HV HW2
      have e3 : IntKind.i64.wrap (hxF K k + 1) = hxF K k + 1 := by simp [IntKind.wrap, IntKind.signed, IntKind.bits]; omega
      have e4 : IntKind.i64.wrap (hyF K k + 1) = hyF K k + 1 := by simp [IntKind.wrap, IntKind.signed, IntKind.bits]; omega
      clear hh hh2
      go_wp2_with fail
      refine bodyPost_ret (results_box2 rfl _ _ w.heap.size #[.int .i64 (lxF K k), .int .i64 (lyF K k), .int .i64 (hxF K k + 1), .int .i64 (hyF K k + 1)] rfl (by simp [go_sem]) rfl) rfl ⟨rfl, junk_of_below (by (repeat' first | with_reducible (first | apply Below.refl | assumption | apply bw_a | apply bw_d | apply bw_n | apply bw_p | apply bw_c | apply bw_r) | go_size))⟩
end
end Go.Proofs.YthphdiigjimchaaGreat

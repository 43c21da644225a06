/- sync.Once in one goroutine: Do, not yet done and done; whatever the function. Package index: isMade, Len, Near; a region's slabs on first use; contains, In. Package index: contains, In. -/
import Derived.Test.YthphdiigjimchaaGreatWideA
import Derived.Test.YthphdiigjimchaaGreatKitOne
import Derived.Defers
import Derived.Laws.Pointers
import Derived.Laws.LoneSync
import Derived.Laws.NewBlocks
import Derived.RegionCalls
import Derived.Test.YthphdiigjimchaaGreatIxMath
import Derived.Test.YthphdiigjimchaaGreatSbOne
namespace Go.Proofs.YthphdiigjimchaaGreat
section
set_option linter.unusedVariables false
set_option linter.unusedSimpArgs false
open Go.RowKit
theorem once_disable (w : World) : (callFunc 178 #[]).run Tryz.prog w = .ok (.value (.tuple #[])) w := run_call_mark0 Tryz.func178 (by kernel_rfl) (by kernel_rfl) (by kernel_rfl) .disable (by kernel_rfl) w
theorem once_enable (w : World) : (callFunc 180 #[]).run Tryz.prog w = .ok (.value (.tuple #[])) w := run_call_mark0 Tryz.func180 (by kernel_rfl) (by kernel_rfl) (by kernel_rfl) .enable (by kernel_rfl) w
theorem once_acquire (a : Addr) (w : World) : (callFunc 181 #[.pointer (some a)]).run Tryz.prog w = .ok (.value (.tuple #[])) w := run_call_marked Tryz.func181 (by kernel_rfl) (by kernel_rfl) (by kernel_rfl) .acquire (by kernel_rfl) a w
theorem once_release (a : Addr) (w : World) : (callFunc 183 #[.pointer (some a)]).run Tryz.prog w = .ok (.value (.tuple #[])) w := run_call_marked Tryz.func183 (by kernel_rfl) (by kernel_rfl) (by kernel_rfl) .releaseMerge (by kernel_rfl) a w
theorem once_load (a : Addr) (x : Int) (w : World) (hc : w.cell? a = some (.int .u32 x)) : Calls Tryz.prog 87 #[.pointer (some a)] w fun e w' => e = .returned (.bool (x != 0)) ∧ w' = w := by
  have hl := run_call_load (P := Tryz.prog) Tryz.func113 (by kernel_rfl) (by kernel_rfl) (by kernel_rfl) .u32 (by kernel_rfl) hc
  go_enter Tryz.func87, Tryz.ntmps87
  go_wp2
  go_ret
  exact ⟨rfl, rfl⟩
theorem once_store (a : Addr) (x : Value) (u : FrameMode) (w : World) (hc : w.cell? a = some x) (hz : w.frozen? a = false) :
    CallsD Tryz.prog 116 #[.pointer (some a), .bool true] u w fun e u' w' => u' = u ∧ (e = .returned (.tuple #[]) ∧ w' = w.drew.setCell a (.int .u32 1)) := by
  have hc' : w.drew.cell? a = some x := by go_simp
  have hz' : w.drew.frozen? a = false := by go_simp
  have hst := run_call_store (P := Tryz.prog) Tryz.func150 (by kernel_rfl) (by kernel_rfl) (by kernel_rfl) (by kernel_rfl) (k := .u32) (y := 1) hc' hz'
  go_enter_d Tryz.func116, Tryz.ntmps116
  go_wp2
  go_region_calls
  all_goals (go_end0; exact ⟨rfl, rfl⟩)
set_option maxRecDepth 100000 in
theorem once_unlock (a : Addr) (u : FrameMode) (w : World) (hc : w.cell? a = some (.int .i32 1)) (hz : w.frozen? a = false) :
    CallsD Tryz.prog 115 #[.pointer (some a)] u w fun e u' w' => u' = u ∧ (e = .returned (.tuple #[]) ∧ w' = w.setCell a (.int .i32 0)) := by
  have hd := once_disable
  have he := once_enable
  have hr := once_release
  have hadd := run_call_add (P := Tryz.prog) Tryz.func184 (by kernel_rfl) (by kernel_rfl) (by kernel_rfl) .i32 (by kernel_rfl) (y := -1) (s := 0) hc hz (by simp [go_sem]; rfl)
  have hcv := run_convert_to_unsafe (P := Tryz.prog) (src := 217) (dst := 221) Tryz.underlying217 Tryz.underlying221 (by kernel_rfl) hc
  go_enter_d Tryz.func115, Tryz.ntmps115
  go_wp2
  go_end0
  go_wp2
  all_goals go_end0
  all_goals exact ⟨rfl, rfl⟩
set_option maxRecDepth 100000 in
theorem once_lock (a : Addr) (w : World) (hc : w.cell? a = some (.int .i32 0)) (hz : w.frozen? a = false) :
    Calls Tryz.prog 114 #[.pointer (some a)] w fun e w' => e = .returned (.tuple #[]) ∧ w' = w.setCell a (.int .i32 1) := by
  have hd := once_disable
  have he := once_enable
  have ha := once_acquire
  have hcas := run_call_cas_hit (P := Tryz.prog) Tryz.func179 (by kernel_rfl) (by kernel_rfl) (by kernel_rfl) .i32 (by kernel_rfl) (y := 1) hc hz
  have hc' : (w.setCell a (.int .i32 1)).cell? a = some (.int .i32 1) := World.cell?_setCell_same w a _ hc
  have hcv := run_convert_to_unsafe (P := Tryz.prog) (src := 217) (dst := 221) Tryz.underlying217 Tryz.underlying221 (by kernel_rfl) hc'
  go_enter Tryz.func114, Tryz.ntmps114
  go_wp2
  first | go_end0 | (simp only [Exit.inBlock, Exit.then]; refine bodyPost_ret (results_none rfl _ _ _) rfl ?_) | refine bodyPost_ret (results_none rfl _ _ _) rfl ?_
  exact ⟨rfl, rfl⟩
def OnceHeld (b off : Nat) (w : World) : Prop := w.cell? ⟨b, off, none⟩ = some (.int .u32 0) ∧ w.cell? ⟨b, off + 1, none⟩ = some (.int .i32 1) ∧ w.frozen? ⟨b, off, none⟩ = false ∧ w.frozen? ⟨b, off + 1, none⟩ = false
set_option maxRecDepth 100000 in
set_option maxHeartbeats 1600000 in
theorem once_slow (b off : Nat) (fst cap : Array Value) (w : World) (Q : World → Prop)
    (h0 : w.cell? ⟨b, off, none⟩ = some (.int .u32 0)) (h1 : w.cell? ⟨b, off + 1, none⟩ = some (.int .i32 0)) (f0 : w.frozen? ⟨b, off, none⟩ = false) (f1 : w.frozen? ⟨b, off + 1, none⟩ = false)
    (hf : Calls Tryz.prog 54 (fst ++ cap) (w.setCell ⟨b, off + 1, none⟩ (.int .i32 1)) fun e w' => e = .returned (.tuple #[]) ∧ Q w') (hQ : ∀ w', Q w' → OnceHeld b off w') :
    Calls Tryz.prog 88 #[.pointer (some ⟨b, off, none⟩), .func (.func 54) fst cap] w fun e w' => e = .returned (.tuple #[]) ∧ ∃ w1, Q w1 ∧ w' = (w1.drew.setCell ⟨b, off, none⟩ (.int .u32 1)).setCell ⟨b, off + 1, none⟩ (.int .i32 0) := by
  have hld := Lib.hid ((World.cell?_setCell_other _ ⟨b, off + 1, none⟩ ⟨b, off, none⟩ (.int .i32 1) (by simp)).trans h0)
  have hnot : ∀ (x : Bool) (w : World), (Op.unary .not (.bool x)).run Tryz.prog w = .ok (.bool (!x)) w := fun _ _ => rfl
  have HF := Lib.hid hf
  have HQ := Lib.hid hQ
  clear hf hQ
  go_enter_defers Tryz.func88, Tryz.ntmps88
  go_wp2_with (first
    | (go_at_call 114; refine (once_lock ⟨b, off + 1, none⟩ _ (by go_simp) (by go_simp)).mono ?_; rintro e w' ⟨rfl, rfl⟩)
    | (go_at_call 87; refine (once_load _ 0 _ hld.out).mono ?_; rintro e w' ⟨rfl, rfl⟩)
    | (go_at_call 54; refine HF.out.mono ?_; rintro e w1 ⟨rfl, hq⟩; have HQ1 := Lib.hid hq; clear hq))
  obtain ⟨k0, k1, z0, z1⟩ := HQ.out _ HQ1.out
  refine leaves_cons (f := 116) (args := #[.pointer (some ⟨b, off, none⟩), .bool true]) (by simp) (by simp [go_sem]) ?_
  refine (once_store ⟨b, off, none⟩ (.int .u32 0) .returning _ k0 z0).mono ?_
  rintro e u' w'' ⟨rfl, rfl, rfl⟩
  refine leaves_cons (f := 115) (args := #[.pointer (some ⟨b, off + 1, none⟩)]) (by simp [settle]) (by simp [go_sem]) ?_
  refine (once_unlock ⟨b, off + 1, none⟩ _ _ ((World.cell?_setCell_other _ ⟨b, off, none⟩ ⟨b, off + 1, none⟩ _ (by simp)).trans (by rw [World.cell?_drew]; exact k1)) (by simp [z1])).mono ?_
  rintro e u' w'' ⟨rfl, rfl, rfl⟩
  exact ⟨_, results_none rfl _ _ _, rfl, w1, HQ1.out, rfl⟩
set_option maxRecDepth 100000 in
theorem once_first (b off : Nat) (fst cap : Array Value) (w : World) (Q : World → Prop)
    (h0 : w.cell? ⟨b, off, none⟩ = some (.int .u32 0)) (h1 : w.cell? ⟨b, off + 1, none⟩ = some (.int .i32 0)) (f0 : w.frozen? ⟨b, off, none⟩ = false) (f1 : w.frozen? ⟨b, off + 1, none⟩ = false)
    (hf : Calls Tryz.prog 54 (fst ++ cap) (w.setCell ⟨b, off + 1, none⟩ (.int .i32 1)) fun e w' => e = .returned (.tuple #[]) ∧ Q w') (hQ : ∀ w', Q w' → OnceHeld b off w') :
    Calls Tryz.prog 53 #[.pointer (some ⟨b, off, none⟩), .func (.func 54) fst cap] w fun e w' => e = .returned (.tuple #[]) ∧ ∃ w1, Q w1 ∧ w' = (w1.drew.setCell ⟨b, off, none⟩ (.int .u32 1)).setCell ⟨b, off + 1, none⟩ (.int .i32 0) := by
  have HS := Lib.hid (once_slow b off fst cap w Q h0 h1 f0 f1 hf hQ)
  have HL := Lib.hid (once_load _ _ w h0)
  have hnot : ∀ (x : Bool) (w : World), (Op.unary .not (.bool x)).run Tryz.prog w = .ok (.bool (!x)) w := fun _ _ => rfl
  clear h0 h1 f0 f1 hf hQ
  go_enter Tryz.func53, Tryz.ntmps53
  go_wp2_with (first
    | (go_at_call 87; refine HL.out.mono ?_; rintro e w' ⟨rfl, rfl⟩)
    | (go_at_call 88; refine HS.out.mono ?_; rintro e w' ⟨rfl, hw⟩; have HW := Lib.hid hw; clear hw))
  go_end0
  exact ⟨rfl, HW.out⟩
theorem once_done (a : Addr) (d : Int) (hd : ¬ d = 0) (fv : Value) (w : World) (h0 : w.cell? a = some (.int .u32 d)) :
    Calls Tryz.prog 53 #[.pointer (some a), fv] w fun e w' => e = .returned (.tuple #[]) ∧ w' = w := by
  have HL := Lib.hid (once_load _ _ w h0)
  have hnot : ∀ (x : Bool) (w : World), (Op.unary .not (.bool x)).run Tryz.prog w = .ok (.bool (!x)) w := fun _ _ => rfl
  have hd' : (d != 0) = true := by simp [hd]
  clear h0
  go_enter Tryz.func53, Tryz.ntmps53
  go_wp2_with (go_at_call 87; refine HL.out.mono ?_; rintro e w' ⟨rfl, rfl⟩)
  go_end0
  exact ⟨rfl, rfl⟩
end

section
set_option linter.unusedVariables false
set_option linter.unusedSimpArgs false
open Go.RowKit
theorem index_self (w : World) (a : Addr) : (binOp .eql 30 (.pointer (some a)) (.pointer (some a))).run Tryz.prog w = .ok (.bool true) w := by
  have h : (Tryz.prog.info? 52).isSome = true := by kernel_rfl
  obtain ⟨j, hj⟩ := Option.isSome_iff_exists.1 h
  exact run_eql_ptr_same w a Tryz.underlying30 hj
theorem index_none (w : World) (a : Addr) : (binOp .eql 30 (.pointer none) (.pointer (some a))).run Tryz.prog w = .ok (.bool false) w := by
  have h : ∀ d : Nat, (Op.equalIn (d + 1) 30 (.pointer none) (.pointer (some a))).run Tryz.prog w = .ok false w := fun d => by
    simp [Op.equalIn, run_underlying Tryz.underlying30]
  simp only [binOp]
  simp [Op.equal, Op.maxDepth, h 9999]
set_option maxRecDepth 100000 in
theorem n_ixMade (xb : Nat) (w : World) (h : w.cell? ⟨xb, 0, none⟩ = some (.pointer (some ⟨xb, 0, none⟩))) : Calls Tryz.prog 34 #[.pointer (some ⟨xb, 0, none⟩)] w fun e w' => e = .returned (.bool true) ∧ w' = w := by
  have hl : xb < w.heap.size := World.block_lt_of_cell? _ _ h
  have hpe := index_self
  go_enter Tryz.func34, Tryz.ntmps34
  go_wp2
  go_ret
  exact ⟨rfl, rfl⟩
set_option maxRecDepth 100000 in
theorem n_ixNot (xb : Nat) (w : World) (h : w.cell? ⟨xb, 0, none⟩ = some (.pointer none)) : Calls Tryz.prog 34 #[.pointer (some ⟨xb, 0, none⟩)] w fun e w' => e = .returned (.bool false) ∧ w' = w := by
  have hl : xb < w.heap.size := World.block_lt_of_cell? _ _ h
  have hpe := index_none
  go_enter Tryz.func34, Tryz.ntmps34
  go_wp2
  go_ret
  exact ⟨rfl, rfl⟩
set_option maxRecDepth 100000 in
theorem n_ixNil (w : World) : Calls Tryz.prog 34 #[.pointer none] w fun e w' => e = .returned (.bool false) ∧ w' = w := by
  go_enter Tryz.func34, Tryz.ntmps34
  go_wp2
  go_ret
  exact ⟨rfl, rfl⟩
section
variable {w : World} {base xb : Nat} {L : List (List (List Pt))} {U : Nat → Prop}
set_option maxRecDepth 100000 in
theorem i_len (h : IxS w base xb L U) : Calls Tryz.prog 13 #[.pointer (some ⟨xb, 0, none⟩)] w fun e w' => e = .returned (.int .i64 (L.length : Int)) ∧ w' = w := by
  obtain ⟨_, _, V, ra, rc, sa, sc, fa, fc, hV, hC, hR⟩ := h
  have HM := Lib.hid (n_ixMade xb w hC.c0)
  have c3 := hC.c3
  have hl : xb < w.heap.size := World.block_lt_of_cell? _ _ c3
  clear hC hR hV
  go_enter Tryz.func13, Tryz.ntmps13
  go_wp2_with (go_at_call 34; refine HM.out.mono ?_; rintro e w1 ⟨rfl, hw⟩; rw [hw]; clear hw)
  go_ret
  exact ⟨rfl, rfl⟩
set_option maxRecDepth 100000 in
theorem i_near (h : IxS w base xb L U) (px py : Int) : Calls Tryz.prog 16 #[.pointer (some ⟨xb, 0, none⟩), pt px py] w fun e w' => (∃ v, e = .returned v ∧ IOwn w w' v (nearR (px, py) L)) ∧ Junk w w' := by
  rw [near_scan h.each.2]
  obtain ⟨_, _, V, ra, rc, sa, sc, fa, fc, hV, hC, hR⟩ := h
  have HM := Lib.hid (fun (W : World) (h : W.cell? ⟨xb, 0, none⟩ = some (.pointer (some ⟨xb, 0, none⟩))) => n_ixMade xb W h)
  have c0 := hC.c0
  obtain ⟨tb, c1, ht⟩ := hC.tree
  obtain ⟨b, t, ht⟩ := ht w (Agree.refl _ _)
  have HT := Lib.hid (fun (W : World) (h : TreeB W b t tb (L.map boxB)) => n_treeAt px py h)
  have HTr := Lib.hid ht
  have hl : xb < w.heap.size := World.block_lt_of_cell? _ _ c1
  clear hC hR hV ht
  unfold pt at *
  generalize scanB (inB px py) (L.map boxB) = S at *
  go_enter Tryz.func16, Tryz.ntmps16
  go_upto_region 3 with (go_at_call 34; refine (HM.out _ (by simp [go_sem, c0, hl])).mono ?_; rintro e w1 ⟨rfl, hw⟩; rw [hw]; clear hw)
  go_region_with (go_at_call 38; refine (HT.out _ (HTr.out.below (by ((try simp only [← Array.append_assoc]); repeat' first | with_reducible (first | apply Below.refl | assumption | apply bw_a | apply bw_d | apply bw_n | apply bw_e | apply bw_s | apply bw_p | apply bw_c | apply bw_r) | go_size)))).mono ?_; rintro e w1 ⟨⟨v, rfl, ho⟩, J1, d1, rfl⟩; have HO := Lib.hid ho; clear ho)
  all_goals go_wp2_with fail
  all_goals go_ret
  all_goals exact ⟨⟨_, rfl, iown_base HO.out (by simp)⟩, junk_of_below (by (repeat' first | with_reducible (first | apply Below.refl | assumption | apply bw_a | apply bw_d | apply bw_n | apply bw_p | apply bw_c | apply bw_r) | go_size))⟩
end
theorem set_any {w : World} {b o : Nat} {u : Value} {t : TypeId} (h : ∃ c, w.heap[b]? = some (.cells c t (0, 0))) : ∃ c, (w.setCell ⟨b, o, none⟩ u).heap[b]? = some (.cells c t (0, 0)) := by
  obtain ⟨cur, h⟩ := h
  obtain ⟨hlt, hk⟩ := Array.getElem?_eq_some_iff.1 h
  refine ⟨cur.setIfInBounds o u, ?_⟩
  show (w.heap.modify b _)[b]? = _
  rw [Array.getElem?_eq_getElem (by rw [Array.size_modify]; exact hlt), Array.getElem_modify_self, hk]
  rfl
theorem plus_new {w w' : World} (h : w'.heap.size = w.heap.size) (J : Array Obj) (d d' : Nat) {k : Nat} (hk : w.heap.size ≤ k) : (w'.plus J d').heap[k]? = (w.plus J d).heap[k]? := by
  show (w'.heap ++ J)[k]? = (w.heap ++ J)[k]?
  rw [Array.getElem?_append_right (by omega), Array.getElem?_append_right hk, h]
theorem cell_set_other {w : World} {b j i : Nat} {u : Value} (h : j ≠ i) : (w.setCell ⟨b, i, none⟩ u).cell? ⟨b, j, none⟩ = w.cell? ⟨b, j, none⟩ := World.cell?_setCell_other _ _ _ _ fun e => by injection e with _ e _; omega
structure FillQ (w1 : World) (rb sb i : Nat) (R : List (List Pt)) (w' : World) : Prop where
  low : Below 0 w1 w'
  old : ∀ k, k < w1.heap.size → k ≠ rb → k ≠ sb → w'.heap[k]? = w1.heap[k]?
  orb : ∀ j, j ≠ i → w'.cell? ⟨rb, j, none⟩ = w1.cell? ⟨rb, j, none⟩
  osb : ∀ j, j ≠ i → w'.cell? ⟨sb, j, none⟩ = w1.cell? ⟨sb, j, none⟩
  hr : ∃ c, w'.heap[rb]? = some (.cells c 28 (0, 0))
  hs : ∃ c, w'.heap[sb]? = some (.cells c 103 (0, 0))
  slabs : ∃ q, w'.cell? ⟨sb, i, none⟩ = some (.pointer (some ⟨q, 0, none⟩)) ∧ ∃ b t, w1.heap.size ≤ b ∧ t ≤ w'.heap.size ∧ SlabB w' b t q R
theorem FillQ.drew {w1 : World} {rb sb i : Nat} {R : List (List Pt)} {w' : World} (h : FillQ w1 rb sb i R w') : FillQ w1 rb sb i R w'.drew :=
  ⟨h.low.drew, h.old, h.orb, h.osb, h.hr, h.hs, by
    obtain ⟨q, h1, b, t, h2, h3, h4⟩ := h.slabs
    exact ⟨q, h1, b, t, h2, h3, h4.only (fun _ _ _ => rfl) h3⟩⟩
set_option maxRecDepth 100000 in
set_option maxHeartbeats 2000000 in
theorem n_ixFill (w : World) (xb gx gi rb sb n rc sc i m c : Nat) (x : Option Addr) (R : List (List Pt)) (cx : w.cell? ⟨gx, 0, none⟩ = some (.pointer (some ⟨xb, 0, none⟩))) (ci : w.cell? ⟨gi, 0, none⟩ = some (.int .i64 (i : Int)))
    (c2 : w.cell? ⟨xb, 2, none⟩ = some (.slice (some ⟨rb, 0, none⟩) n rc)) (c3 : w.cell? ⟨xb, 3, none⟩ = some (.slice (some ⟨sb, 0, none⟩) n sc)) (hi : i < n) (hn : n ≤ 64) (p1 : w.cell? ⟨rb, i, none⟩ = some (.slice x m c)) (hg : GRC w x m c R) (hR : regFine R)
    (p2 : w.cell? ⟨sb, i, none⟩ = some (.pointer none)) (hr : ∃ c, w.heap[rb]? = some (.cells c 28 (0, 0))) (hs : ∃ c, w.heap[sb]? = some (.cells c 103 (0, 0))) (ne : rb ≠ sb) (nx : xb ≠ rb) (ny : xb ≠ sb) (ngx : gx ≠ rb) (ngy : gx ≠ sb) (ngi : gi ≠ rb) (ngj : gi ≠ sb) :
    Calls Tryz.prog 54 #[.pointer (some ⟨gx, 0, none⟩), .pointer (some ⟨gi, 0, none⟩)] w fun e w' => e = .returned (.tuple #[]) ∧ FillQ w rb sb i R w' := by
  have hm := hR.long
  have hgl := hg.len
  have HB := Lib.hid (fun (W : World) (h : GRC W x m c R) => n_sbBuild W x m c R h (by omega) hR (fine_fit2 hR))
  have HG := Lib.hid hg
  have HR := Lib.hid hr
  have HS := Lib.hid hs
  have f1 : w.frozen? ⟨rb, i, none⟩ = false := by obtain ⟨c, h⟩ := hr; simp [World.frozen?, h]
  have f2 : w.frozen? ⟨sb, i, none⟩ = false := by obtain ⟨c, h⟩ := hs; simp [World.frozen?, h]
  have i1 : (i : Int) < (n : Int) := by omega
  have l1 := World.block_lt_of_cell? _ _ cx
  have l2 := World.block_lt_of_cell? _ _ ci
  have l3 := World.block_lt_of_cell? _ _ c2
  have l4 := World.block_lt_of_cell? _ _ p1
  have l5 := World.block_lt_of_cell? _ _ p2
  clear hg hR hr hs hm hgl
  go_enter Tryz.func54, Tryz.ntmps54
  go_upto_region 0 with fail
  go_region_held3 (fun w' => w'.cell? ⟨gx, 0, none⟩ = some (.pointer (some ⟨xb, 0, none⟩)) ∧ w'.cell? ⟨gi, 0, none⟩ = some (.int .i64 (i : Int)) ∧ w'.cell? ⟨xb, 2, none⟩ = some (.slice (some ⟨rb, 0, none⟩) n rc) ∧ w'.cell? ⟨xb, 3, none⟩ = some (.slice (some ⟨sb, 0, none⟩) n sc) ∧ w'.cell? ⟨rb, i, none⟩ = some (.slice x m c)) (first | (refine ⟨?_, ?_, ?_, ?_, ?_⟩ <;> (simp [go_sem, *]; done))) (first
    | (go_simp; go_at_call 55; (refine (HB.out _ (HG.out.below (by ((try simp only [← Array.append_assoc]); repeat' first | with_reducible (first | apply Below.refl | assumption | apply bw_a | apply bw_d | apply bw_n | apply bw_e | apply bw_s | apply bw_p | apply bw_c | apply bw_r) | go_size)))).mono ?_); rintro e w3 ⟨⟨q, rfl, hs⟩, J3, d3, rfl⟩; (try simp only [plus_of_drew, plus_plus, Array.append_assoc] at hs); have HSl := Lib.hid hs; clear hs; go_simp))
  all_goals go_wp2_with fail
  obtain ⟨W4, hW4⟩ : ∃ W4, (w.setCell ⟨sb, i, none⟩ (.pointer (some ⟨q, 0, none⟩))).plus J3 d3 = W4 := ⟨_, rfl⟩
  have hb4 : Below (w.setCell ⟨sb, i, none⟩ (.pointer (some ⟨q, 0, none⟩))).heap.size (w.setCell ⟨sb, i, none⟩ (.pointer (some ⟨q, 0, none⟩))) W4 := by rw [← hW4]; exact Junk.below ⟨_, _, rfl⟩
  have hb0 : Below 0 w W4 := ((Below.refl 0 w).setCell (Nat.zero_le _) _).trans (hb4.mono (Nat.zero_le _))
  have old : ∀ k, k < w.heap.size → k ≠ sb → W4.heap[k]? = w.heap[k]? := fun k hk hn => (hb4.block k (by simp; exact hk)).trans (Below.heap_setCell _ _ _ k hn)
  have hsb := hb4.block sb (by simp; exact l5)
  have hq : W4.cell? ⟨sb, i, none⟩ = some (.pointer (some ⟨q, 0, none⟩)) := (World.cell?_of_block (a := ⟨sb, i, none⟩) hsb).trans (World.cell?_setCell_same _ _ _ p2)
  have osb : ∀ j, j ≠ i → W4.cell? ⟨sb, j, none⟩ = w.cell? ⟨sb, j, none⟩ := fun j hj => (World.cell?_of_block (a := ⟨sb, j, none⟩) hsb).trans (cell_set_other hj)
  have hs4 : ∃ c, W4.heap[sb]? = some (.cells c 103 (0, 0)) := by rw [hsb]; exact set_any HS.out
  have hr4 : ∃ c, W4.heap[rb]? = some (.cells c 28 (0, 0)) := by rw [old rb l4 ne]; exact HR.out
  have hS4 : ∃ b t, w.heap.size ≤ b ∧ t ≤ W4.heap.size ∧ SlabB W4 b t q R := by
    have hz : W4.heap.size = w.heap.size + J3.size := by rw [← hW4]; simp
    have h := HSl.out
    simp only [size_plus, World.size_drew] at h
    refine ⟨_, _, Nat.le_refl _, by rw [hz]; exact Nat.le_refl _, h.only (fun k k1 k2 => ?_) (by rw [hz]; exact Nat.le_refl _)⟩
    rw [← hW4]
    exact plus_new (by simp) J3 _ _ k1
  have cx4 := (World.cell?_of_block (a := ⟨gx, 0, none⟩) (old gx l1 ngy)).trans cx
  have ci4 := (World.cell?_of_block (a := ⟨gi, 0, none⟩) (old gi l2 ngj)).trans ci
  have c24 := (World.cell?_of_block (a := ⟨xb, 2, none⟩) (old xb l3 ny)).trans c2
  have p14 := (World.cell?_of_block (a := ⟨rb, i, none⟩) (old rb l4 ne)).trans p1
  have f4 : W4.frozen? ⟨rb, i, none⟩ = false := by obtain ⟨c, h⟩ := hr4; simp [World.frozen?, h]
  have m1 := World.block_lt_of_cell? _ _ cx4
  have m2 := World.block_lt_of_cell? _ _ ci4
  have m3 := World.block_lt_of_cell? _ _ c24
  have m4 := World.block_lt_of_cell? _ _ p14
  have HFi := Lib.hid (show FillQ w rb sb i R (W4.setCell ⟨rb, i, none⟩ (.slice none 0 0)) from {
    low := hb0.trans ((Below.refl 0 _).setCell (Nat.zero_le _) _)
    old := fun k hk h1 h2 => (Below.heap_setCell _ _ _ k h1).trans (old k hk h2)
    orb := fun j hj => (cell_set_other hj).trans (World.cell?_of_block (a := ⟨rb, j, none⟩) (old rb l4 ne))
    osb := fun j hj => (World.cell?_of_block (a := ⟨sb, j, none⟩) (Below.heap_setCell _ _ _ sb ne.symm)).trans (osb j hj)
    hr := set_any hr4
    hs := by rw [Below.heap_setCell _ _ _ sb ne.symm]; exact hs4
    slabs := by
      obtain ⟨b, t, k1, k2, k3⟩ := hS4
      have l6 := l4
      refine ⟨q, (World.cell?_of_block (a := ⟨sb, i, none⟩) (Below.heap_setCell _ _ _ sb ne.symm)).trans hq, b, t, k1, by simpa using k2, k3.only (fun k j1 j2 => Below.heap_setCell _ _ _ k (by show k ≠ rb; omega)) (by simpa using k2)⟩ })
  rw [hW4]
  clear hW4 hb4 hb0 old hsb hq osb hs4 hr4 hS4 cx ci c2 c3 p1 p2 f1 f2 HSl
  go_region
  all_goals go_wp2_with fail
  all_goals go_end0
  all_goals first | exact ⟨rfl, HFi.out.drew⟩ | exact ⟨rfl, HFi.out⟩
end

section
set_option linter.unusedVariables false
set_option linter.unusedSimpArgs false
open Go.RowKit
def inX (i : Int) (p : Pt) (L : List (List (List Pt))) : Value := .tuple (if 0 ≤ i ∧ i < L.length then #[.bool (regQ p (L.getD i.toNat [])), .int .i64 0] else #[.bool false, .int .i64 6])
theorem IxS.filled {w w' : World} {base xb rb sb fb i q : Nat} {L : List (List (List Pt))} {U V : Nat → Prop} {rc sc fc : Nat} (h : IxS w base xb L U) (hV : ∀ k, V k → U k) (hC : IxC w V xb (some ⟨rb, 0, none⟩) (some ⟨sb, 0, none⟩) (some ⟨fb, 0, none⟩) rc sc fc L) (ur : U rb) (us : U sb) (uf : U fb) (hR : IxR w V rb sb fb L)
    (hs : w.heap.size ≤ w'.heap.size) (old : ∀ k, k < w.heap.size → k ≠ rb → k ≠ sb → k ≠ fb → w'.heap[k]? = w.heap[k]?) (orb : ∀ j, j ≠ i → w'.cell? ⟨rb, j, none⟩ = w.cell? ⟨rb, j, none⟩) (osb : ∀ j, j ≠ i → w'.cell? ⟨sb, j, none⟩ = w.cell? ⟨sb, j, none⟩) (ofb : ∀ j, j ≠ i * 3 → j ≠ i * 3 + 1 → w'.cell? ⟨fb, j, none⟩ = w.cell? ⟨fb, j, none⟩)
    (hr : ∃ c, w'.heap[rb]? = some (.cells c 28 (0, 0))) (hsb : ∃ c, w'.heap[sb]? = some (.cells c 103 (0, 0))) (hf : ∃ c, w'.heap[fb]? = some (.cells c 101 (0, 0)))
    (hq : w'.cell? ⟨sb, i, none⟩ = some (.pointer (some ⟨q, 0, none⟩))) (hd : w'.cell? ⟨fb, i * 3, none⟩ = some (.int .u32 1)) {b t : Nat} (hb : w.heap.size ≤ b) (ht : t ≤ w'.heap.size) (hS : SlabB w' b t q (L.getD i [])) :
    IxS w' base xb L fun k => U k ∨ (w.heap.size ≤ k ∧ k < w'.heap.size) := by
  have hA : Agree V w w' := fun k hv => old k (h.at k (hV k hv)).2 (fun e => hR.vr (e ▸ hv)) (fun e => hR.vs (e ▸ hv)) (fun e => hR.vf (e ▸ hv))
  have lr := (h.at _ ur).2
  have ls := (h.at _ us).2
  have lf := (h.at _ uf).2
  have hx := (h.at _ (hV _ hC.vx))
  refine ⟨h.fine, fun k hk => ?_, fun k => V k ∨ (w.heap.size ≤ k ∧ k < w'.heap.size), _, rc, _, sc, _, fc, fun k hk => hk.imp (hV k) id, hC.only hA fun k hk => .inl hk, .inr ⟨rb, sb, fb, rfl, rfl, rfl, .inl ur, .inl us, .inl uf, ?_⟩⟩
  · rcases hk with hk | hk
    · have := h.at k hk; omega
    · omega
  · refine hR.fill (fun k hk => .inl hk) hA ?_ ?_ ?_ hr hsb hf orb osb ofb hq hd fun w'' hw => ⟨b, t, hS.only (fun k k1 k2 => hw k (.inr ⟨by omega, by omega⟩)) ?_⟩
    · rintro (e | e)
      · exact hR.vr e
      · omega
    · rintro (e | e)
      · exact hR.vs e
      · omega
    · rintro (e | e)
      · exact hR.vf e
      · omega
    · have h1 := hS.lo
      have h2 := hS.hi
      have e := hw (t - 1) (.inr ⟨by omega, by omega⟩)
      rw [Array.getElem?_eq_getElem (show t - 1 < w'.heap.size by omega)] at e
      have := (Array.getElem?_eq_some_iff.1 e).1
      omega
structure DoneQ (W : World) (rb sb fb i : Nat) (R : List (List Pt)) (w' : World) : Prop where
  low : Below 0 W w'
  old : ∀ k, k < W.heap.size → k ≠ rb → k ≠ sb → k ≠ fb → w'.heap[k]? = W.heap[k]?
  orb : ∀ j, j ≠ i → w'.cell? ⟨rb, j, none⟩ = W.cell? ⟨rb, j, none⟩
  osb : ∀ j, j ≠ i → w'.cell? ⟨sb, j, none⟩ = W.cell? ⟨sb, j, none⟩
  ofb : ∀ j, j ≠ i * 3 → j ≠ i * 3 + 1 → w'.cell? ⟨fb, j, none⟩ = W.cell? ⟨fb, j, none⟩
  hr : ∃ c, w'.heap[rb]? = some (.cells c 28 (0, 0))
  hs : ∃ c, w'.heap[sb]? = some (.cells c 103 (0, 0))
  hf : ∃ c, w'.heap[fb]? = some (.cells c 101 (0, 0))
  once : w'.cell? ⟨fb, i * 3, none⟩ = some (.int .u32 1)
  slabs : ∃ q, w'.cell? ⟨sb, i, none⟩ = some (.pointer (some ⟨q, 0, none⟩)) ∧ ∃ b t, W.heap.size ≤ b ∧ t ≤ w'.heap.size ∧ SlabB w' b t q R
theorem n_ixDo (W : World) (xb gx gi rb sb fb n rc sc i m c : Nat) (x : Option Addr) (R : List (List Pt)) (cx : W.cell? ⟨gx, 0, none⟩ = some (.pointer (some ⟨xb, 0, none⟩))) (ci : W.cell? ⟨gi, 0, none⟩ = some (.int .i64 (i : Int)))
    (c2 : W.cell? ⟨xb, 2, none⟩ = some (.slice (some ⟨rb, 0, none⟩) n rc)) (c3 : W.cell? ⟨xb, 3, none⟩ = some (.slice (some ⟨sb, 0, none⟩) n sc)) (hi : i < n) (hn : n ≤ 64) (p1 : W.cell? ⟨rb, i, none⟩ = some (.slice x m c)) (hg : ∀ u, GRC (W.setCell ⟨fb, i * 3 + 1, none⟩ u) x m c R) (hR : regFine R)
    (p2 : W.cell? ⟨sb, i, none⟩ = some (.pointer none)) (o0 : W.cell? ⟨fb, i * 3, none⟩ = some (.int .u32 0)) (o1 : W.cell? ⟨fb, i * 3 + 1, none⟩ = some (.int .i32 0)) (hr : ∃ c, W.heap[rb]? = some (.cells c 28 (0, 0))) (hs : ∃ c, W.heap[sb]? = some (.cells c 103 (0, 0))) (hf : ∃ c, W.heap[fb]? = some (.cells c 101 (0, 0)))
    (rs : rb ≠ sb) (rf : rb ≠ fb) (sf : sb ≠ fb) (nx : xb ≠ rb) (ny : xb ≠ sb) (nz : xb ≠ fb) (g1 : gx ≠ rb) (g2 : gx ≠ sb) (g3 : gx ≠ fb) (g4 : gi ≠ rb) (g5 : gi ≠ sb) (g6 : gi ≠ fb) :
    Calls Tryz.prog 53 #[.pointer (some ⟨fb, i * 3, none⟩), .func (.func 54) #[] #[.pointer (some ⟨gx, 0, none⟩), .pointer (some ⟨gi, 0, none⟩)]] W fun e w' => e = .returned (.tuple #[]) ∧ DoneQ W rb sb fb i R w' := by
  have z0 : ∀ j, W.frozen? ⟨fb, j, none⟩ = false := fun j => by obtain ⟨c, h⟩ := hf; simp [World.frozen?, h]
  have lf : fb < W.heap.size := World.block_lt_of_cell? _ _ o0
  obtain ⟨W1, hW1⟩ : ∃ W1, W.setCell ⟨fb, i * 3 + 1, none⟩ (.int .i32 1) = W1 := ⟨_, rfl⟩
  have oth : ∀ k, k ≠ fb → W1.heap[k]? = W.heap[k]? := fun k hk => by rw [← hW1]; exact Below.heap_setCell _ _ _ k hk
  have hz1 : W1.heap.size = W.heap.size := by rw [← hW1]; simp
  have hg1 : GRC W1 x m c R := by rw [← hW1]; exact hg _
  have n0 : W1.cell? ⟨fb, i * 3, none⟩ = some (.int .u32 0) := by rw [← hW1, cell_set_other (by omega)]; exact o0
  have n1 : W1.cell? ⟨fb, i * 3 + 1, none⟩ = some (.int .i32 1) := by rw [← hW1]; exact World.cell?_setCell_same _ _ _ o1
  have nf : ∃ c, W1.heap[fb]? = some (.cells c 101 (0, 0)) := by rw [← hW1]; exact set_any hf
  have no : ∀ j, j ≠ i * 3 + 1 → W1.cell? ⟨fb, j, none⟩ = W.cell? ⟨fb, j, none⟩ := fun j hj => by rw [← hW1]; exact cell_set_other hj
  have hfill := n_ixFill W1 xb gx gi rb sb n rc sc i m c x R ((World.cell?_of_block (a := ⟨gx, 0, none⟩) (oth gx g3)).trans cx) ((World.cell?_of_block (a := ⟨gi, 0, none⟩) (oth gi g6)).trans ci) ((World.cell?_of_block (a := ⟨xb, 2, none⟩) (oth xb nz)).trans c2) ((World.cell?_of_block (a := ⟨xb, 3, none⟩) (oth xb nz)).trans c3) hi hn
    ((World.cell?_of_block (a := ⟨rb, i, none⟩) (oth rb rf)).trans p1) hg1 hR ((World.cell?_of_block (a := ⟨sb, i, none⟩) (oth sb sf)).trans p2) (by rw [oth rb rf]; exact hr) (by rw [oth sb sf]; exact hs) rs nx ny g1 g2 g4 g5
  have hb1 : Below 0 W W1 := by rw [← hW1]; exact (Below.refl 0 W).setCell (Nat.zero_le _) _
  refine (once_first fb (i * 3) #[] #[.pointer (some ⟨gx, 0, none⟩), .pointer (some ⟨gi, 0, none⟩)] W (FillQ W1 rb sb i R) o0 o1 (z0 _) (z0 _) (by rw [hW1]; exact hfill) (fun w' h => ?_)).mono ?_
  · have k := h.old fb (by omega) rf.symm sf.symm
    have kz : ∀ j, w'.frozen? ⟨fb, j, none⟩ = false := fun j => by obtain ⟨c, h⟩ := nf; rw [← k] at h; simp [World.frozen?, h]
    exact ⟨(World.cell?_of_block (a := ⟨fb, i * 3, none⟩) k).trans n0, (World.cell?_of_block (a := ⟨fb, i * 3 + 1, none⟩) k).trans n1, kz _, kz _⟩
  · rintro e w' ⟨rfl, w1, h, rfl⟩
    refine ⟨rfl, ?_⟩
    have k := h.old fb (by omega) rf.symm sf.symm
    obtain ⟨w2, hw2⟩ : ∃ w2, (w1.drew.setCell ⟨fb, i * 3, none⟩ (.int .u32 1)).setCell ⟨fb, i * 3 + 1, none⟩ (.int .i32 0) = w2 := ⟨_, rfl⟩
    have o2 : ∀ k, k ≠ fb → w2.heap[k]? = w1.heap[k]? := fun k hk => by
      rw [← hw2, Below.heap_setCell _ _ _ k hk, Below.heap_setCell _ _ _ k hk]; rfl
    have hz2 : w2.heap.size = w1.heap.size := by rw [← hw2]; simp
    have c1 : w1.cell? ⟨fb, i * 3, none⟩ = some (.int .u32 0) := (World.cell?_of_block (a := ⟨fb, i * 3, none⟩) k).trans n0
    have hb2 : Below 0 w1 w2 := by rw [← hw2]; exact (((Below.refl 0 w1).drew).setCell (Nat.zero_le _) _).setCell (Nat.zero_le _) _
    rw [hw2]
    obtain ⟨q, q1, b, t, q2, q3, q4⟩ := h.slabs
    have hsz := h.low.size
    refine ⟨(hb1.trans h.low).trans hb2, fun k hk a1 a2 a3 => (o2 k a3).trans ((h.old k (by omega) a1 a2).trans (oth k a3)), fun j hj => ?_, fun j hj => ?_, fun j j1 j2 => ?_, by rw [o2 rb rf]; exact h.hr, by rw [o2 sb sf]; exact h.hs, ?_, ?_, q, (World.cell?_of_block (a := ⟨sb, i, none⟩) (o2 sb sf)).trans q1, b, t, by omega, by omega, q4.only (fun k a1 a2 => o2 k (by omega)) (by omega)⟩
    · exact (World.cell?_of_block (a := ⟨rb, j, none⟩) (o2 rb rf)).trans ((h.orb j hj).trans (World.cell?_of_block (a := ⟨rb, j, none⟩) (oth rb rf)))
    · exact (World.cell?_of_block (a := ⟨sb, j, none⟩) (o2 sb sf)).trans ((h.osb j hj).trans (World.cell?_of_block (a := ⟨sb, j, none⟩) (oth sb sf)))
    · rw [← hw2, cell_set_other j2, cell_set_other j1]
      exact (World.cell?_of_block (a := ⟨fb, j, none⟩) k).trans (no j j2)
    · rw [← hw2]
      refine set_any (set_any ?_)
      obtain ⟨c, hc⟩ := nf
      exact ⟨c, k.trans hc⟩
    · rw [← hw2, cell_set_other (by omega)]
      exact World.cell?_setCell_same _ _ _ c1
section
variable {w : World} {base xb : Nat} {L : List (List (List Pt))} {U : Nat → Prop}
set_option maxRecDepth 100000 in
set_option maxHeartbeats 4000000 in
theorem n_ixContains (h : IxS w base xb L U) {i : Nat} (hi : i < L.length) (px py : Int) : Calls Tryz.prog 37 #[.pointer (some ⟨xb, 0, none⟩), .int .i64 (i : Int), pt px py] w fun e w' =>
    (∃ U', e = .returned (.bool (regQ (px, py) (L.getD i []))) ∧ IxS w' base xb L U' ∧ UGrow w w' U U') ∧ KeptU U base w w' := by
  have h' := h
  obtain ⟨hfine, hat, V, ra, rc, sa, sc, fa, fc, hV, hC, hR⟩ := h
  rcases hR with rfl | ⟨rb, sb, fb, rfl, rfl, rfl, ur, us, uf, hR⟩
  · simp at hi
  have hx := hat xb (hV xb hC.vx)
  have hfi := h'.each.2 i hi
  have h64 := h'.each.1
  have c0 := hC.c0
  have c2 := hC.c2
  have c3 := hC.c3
  have c4 := hC.c4
  have nx1 : xb ≠ rb := fun e => hR.vr (e ▸ hC.vx)
  have nx2 : xb ≠ sb := fun e => hR.vs (e ▸ hC.vx)
  have nx3 : xb ≠ fb := fun e => hR.vf (e ▸ hC.vx)
  obtain ⟨n, hn⟩ : ∃ n, L.length = n := ⟨_, rfl⟩
  rw [hn] at c2 c3 c4 hi h64
  have i1 : (i : Int) < (n : Int) := by omega
  rcases hR.slot i (by omega) with ⟨s1, s2, s3, x, m, c, s4, s5⟩ | ⟨q, s1, s2, s3⟩
  · have HR := Lib.hid hR
    have HC := Lib.hid hC
    have HVU := Lib.hid hV
    have HH := Lib.hid h'
    have HU := Lib.hid (And.intro ur (And.intro us uf))
    have hlr := (hat rb ur).2
    have hls := (hat sb us).2
    have hlf := (hat fb uf).2
    have HV := Lib.hid (fun k (h : V k) => (hat k (hV k h)).2)
    obtain ⟨W, hW⟩ : ∃ W, ((w.alloc (.cells #[.pointer (some ⟨xb, 0, none⟩)] 30)).alloc (.cells #[.int .i64 (i : Int)] 3)).alloc (.cells #[.int .i64 px, .int .i64 py] 42) = W := ⟨_, rfl⟩
    have hj : Below w.heap.size w W := by rw [← hW]; (repeat' first | with_reducible (first | apply Below.refl | assumption | apply bw_a | apply bw_d | apply bw_n | apply bw_p | apply bw_c | apply bw_r) | go_size)
    have d0 : W.cell? ⟨w.heap.size, 0, none⟩ = some (.pointer (some ⟨xb, 0, none⟩)) := by rw [← hW]; simp [go_sem]
    have d1 : W.cell? ⟨w.heap.size + 1, 0, none⟩ = some (.int .i64 (i : Int)) := by rw [← hW]; simp [go_sem]
    have d2 : W.cell? ⟨w.heap.size + 2, 0, none⟩ = some (.int .i64 px) := by rw [← hW]; simp [go_sem]
    have d3 : W.cell? ⟨w.heap.size + 2, 1, none⟩ = some (.int .i64 py) := by rw [← hW]; simp [go_sem]
    have e2 := (World.cell?_of_block (a := ⟨xb, 2, none⟩) (hj.block xb hx.2)).trans c2
    have e3 := (World.cell?_of_block (a := ⟨xb, 3, none⟩) (hj.block xb hx.2)).trans c3
    have e4 := (World.cell?_of_block (a := ⟨xb, 4, none⟩) (hj.block xb hx.2)).trans c4
    have HD := Lib.hid (fun (W' : World) (e : W'.heap = W.heap) =>
      have up : ∀ k, k < w.heap.size → W'.heap[k]? = w.heap[k]? := fun k hk => by rw [e]; exact hj.block k hk
      have sm : ∀ k, W'.heap[k]? = W.heap[k]? := fun k => by rw [e]
      n_ixDo W' xb w.heap.size (w.heap.size + 1) rb sb fb n rc sc i m c x (L.getD i []) ((World.cell?_of_block (a := ⟨w.heap.size, 0, none⟩) (sm _)).trans d0) ((World.cell?_of_block (a := ⟨w.heap.size + 1, 0, none⟩) (sm _)).trans d1) ((World.cell?_of_block (a := ⟨xb, 2, none⟩) (sm _)).trans e2) ((World.cell?_of_block (a := ⟨xb, 3, none⟩) (sm _)).trans e3) hi h64 ((World.cell?_of_block (a := ⟨rb, i, none⟩) (up rb hlr)).trans s4)
        (fun u => s5 _ fun k hk => (Below.heap_setCell _ _ _ k (fun e => hR.vf (by have e2 : k = fb := e; exact e2 ▸ hk))).trans (up k ((hat k (hV k hk)).2))) hfi ((World.cell?_of_block (a := ⟨sb, i, none⟩) (up sb hls)).trans s1) ((World.cell?_of_block (a := ⟨fb, i * 3, none⟩) (up fb hlf)).trans s2) ((World.cell?_of_block (a := ⟨fb, i * 3 + 1, none⟩) (up fb hlf)).trans s3)
        (by rw [up rb hlr]; exact hR.hr) (by rw [up sb hls]; exact hR.hs) (by rw [up fb hlf]; exact hR.hf) hR.rs hR.rf hR.sf nx1 nx2 nx3 (by omega) (by omega) (by omega) (by omega) (by omega) (by omega))
    have HIn := Lib.hid (fun (W : World) b t q (h : SlabB W b t q (L.getD i [])) => n_slIn h px py)
    have HW := Lib.hid (show W.heap.size = w.heap.size + 3 by rw [← hW]; simp)
    have HJ := Lib.hid hj
    obtain ⟨R, hRe⟩ : ∃ R, L.getD i [] = R := ⟨_, rfl⟩
    rw [hRe] at HIn HD ⊢
    have HRe := Lib.hid hRe
    have HNx := Lib.hid (And.intro nx1 (And.intro nx2 nx3))
    have HLs := Lib.hid (And.intro hlr (And.intro hls hlf))
    have HX := Lib.hid hx
    have f0 := World.block_lt_of_cell? _ _ d0
    have f1 := World.block_lt_of_cell? _ _ d1
    have f2 := World.block_lt_of_cell? _ _ d2
    have f3 := World.block_lt_of_cell? _ _ e2
    generalize regQ (px, py) R = r at *
    unfold pt at *
    have HWe := Lib.hid hW
    clear hW hRe hj s1 s2 s3 s4 s5 hR hC hV h' ur us uf hlr hls hlf hat hx hfi hfine c0 c2 c3 c4 nx1 nx2 nx3
    go_enter Tryz.func37, Tryz.ntmps37
    go_upto_region 1 with fail
    rw [HWe.out]
    go_region_held3 (fun w' => w'.cell? ⟨w.heap.size, 0, none⟩ = some (.pointer (some ⟨xb, 0, none⟩)) ∧ w'.cell? ⟨w.heap.size + 1, 0, none⟩ = some (.int .i64 (i : Int)) ∧ w'.cell? ⟨xb, 4, none⟩ = some (.slice (some ⟨fb, 0, none⟩) n fc)) (first | (refine ⟨?_, ?_, ?_⟩ <;> (simp [go_sem, *]; done))) (first
      | (go_simp; go_at_call 53; (refine (HD.out W.drew rfl).mono ?_); rintro e w1 ⟨rfl, hd0⟩; have hd : DoneQ W rb sb fb i R w1 := ⟨(Below.refl 0 W).drew.trans hd0.low, hd0.old, hd0.orb, hd0.osb, hd0.ofb, hd0.hr, hd0.hs, hd0.hf, hd0.once, hd0.slabs⟩; clear hd0; have HDn := Lib.hid hd; have t0 := (World.cell?_of_block (a := ⟨w.heap.size, 0, none⟩) (hd.old w.heap.size (by simpa using f0) (by have := HLs.out; omega) (by have := HLs.out; omega) (by have := HLs.out; omega))).trans d0; have t1 := (World.cell?_of_block (a := ⟨w.heap.size + 1, 0, none⟩) (hd.old (w.heap.size + 1) (by simpa using f1) (by have := HLs.out; omega) (by have := HLs.out; omega) (by have := HLs.out; omega))).trans d1; have t2 := (World.cell?_of_block (a := ⟨xb, 4, none⟩) (hd.old xb (by simpa using f3) HNx.out.1 HNx.out.2.1 HNx.out.2.2)).trans e4; clear hd; go_simp))
    have hd := HDn.out
    have hsz := hd.low.size
    have hW := HW.out
    have hls := HLs.out
    obtain ⟨q, q1, b, t, q2, q3, q4⟩ := hd.slabs
    have old : ∀ k, k < w.heap.size → k ≠ rb → k ≠ sb → k ≠ fb → w1.heap[k]? = w.heap[k]? := fun k hk a1 a2 a3 => (hd.old k (by omega) a1 a2 a3).trans (HJ.out.block k hk)
    have HFin := Lib.hid (fun (wf : World) (hb : Below w1.heap.size w1 wf) => show IxS wf base xb L (fun k => U k ∨ (w.heap.size ≤ k ∧ k < wf.heap.size)) ∧ KeptU U base w wf from by
      have hz := hb.size
      have c1 : ∀ bl o, bl < w1.heap.size → wf.cell? ⟨bl, o, none⟩ = w1.cell? ⟨bl, o, none⟩ := fun bl o h => World.cell?_of_block (a := ⟨bl, o, none⟩) (hb.block bl h)
      have cW : ∀ bl o, bl < w.heap.size → W.cell? ⟨bl, o, none⟩ = w.cell? ⟨bl, o, none⟩ := fun bl o h => World.cell?_of_block (a := ⟨bl, o, none⟩) (HJ.out.block bl h)
      refine ⟨HH.out.filled (i := i) (q := q) HVU.out HC.out HU.out.1 HU.out.2.1 HU.out.2.2 HR.out (by omega) (fun k hk a1 a2 a3 => (hb.block k (by omega)).trans (old k hk a1 a2 a3)) (fun j hj => (c1 rb j (by omega)).trans ((hd.orb j hj).trans (cW rb j hls.1))) (fun j hj => (c1 sb j (by omega)).trans ((hd.osb j hj).trans (cW sb j hls.2.1)))
        (fun j j1 j2 => (c1 fb j (by omega)).trans ((hd.ofb j j1 j2).trans (cW fb j hls.2.2))) (by rw [hb.block rb (by omega)]; exact hd.hr) (by rw [hb.block sb (by omega)]; exact hd.hs) (by rw [hb.block fb (by omega)]; exact hd.hf) ((c1 sb i (by omega)).trans q1) ((c1 fb _ (by omega)).trans hd.once) (show w.heap.size ≤ b by omega) (show t ≤ wf.heap.size by omega) (by rw [HRe.out]; exact q4.only (fun k k1 k2 => hb.block k (by omega)) (by omega)), ?_⟩
      have h0 : Below 0 w wf := ((HJ.out.mono (Nat.zero_le _)).trans hd.low).trans (hb.mono (Nat.zero_le _))
      have hU : ∀ k, ¬ U k → k ≠ rb ∧ k ≠ sb ∧ k ≠ fb := fun k hk => ⟨fun e => hk (e ▸ HU.out.1), fun e => hk (e ▸ HU.out.2.1), fun e => hk (e ▸ HU.out.2.2)⟩
      refine ⟨⟨h0.os, h0.tape, h0.output, h0.size, fun k hk => ?_⟩, fun k hk hn => (hb.block k (by omega)).trans (old k hk (hU k hn).1 (hU k hn).2.1 (hU k hn).2.2)⟩
      have hn : ¬ U k := fun hu => by have := (HH.out.at k hu).1; omega
      have := HX.out
      exact (hb.block k (by omega)).trans (old k (by omega) (hU k hn).1 (hU k hn).2.1 (hU k hn).2.2))
    have t3 := (World.cell?_of_block (a := ⟨xb, 3, none⟩) (hd.old xb (by simpa using f3) HNx.out.1 HNx.out.2.1 HNx.out.2.2)).trans e3
    have t5 := (World.cell?_of_block (a := ⟨w.heap.size + 2, 0, none⟩) (hd.old (w.heap.size + 2) (by simpa using f2) (by omega) (by omega) (by omega))).trans d2
    have t6 := (World.cell?_of_block (a := ⟨w.heap.size + 2, 1, none⟩) (hd.old (w.heap.size + 2) (by simpa using f2) (by omega) (by omega) (by omega))).trans d3
    have HSl := Lib.hid q4
    have g0 := World.block_lt_of_cell? _ _ t0
    have g1 := World.block_lt_of_cell? _ _ t1
    have g2 := World.block_lt_of_cell? _ _ t5
    have g3 := World.block_lt_of_cell? _ _ t3
    have g4 := World.block_lt_of_cell? _ _ q1
    clear d0 d1 d2 d3 e2 e3 e4 f0 f1 f2 f3 hd hW hls q2 q3 q4 old hsz HD HDn t2
    go_upto_region 2 with fail
    go_region_held3 (fun w' => w'.cell? ⟨w.heap.size, 0, none⟩ = some (.pointer (some ⟨xb, 0, none⟩)) ∧ w'.cell? ⟨w.heap.size + 1, 0, none⟩ = some (.int .i64 (i : Int)) ∧ w'.cell? ⟨xb, 3, none⟩ = some (.slice (some ⟨sb, 0, none⟩) n sc) ∧ w'.cell? ⟨sb, i, none⟩ = some (.pointer (some ⟨q, 0, none⟩)) ∧ w'.cell? ⟨w.heap.size + 2, 0, none⟩ = some (.int .i64 px) ∧ w'.cell? ⟨w.heap.size + 2, 1, none⟩ = some (.int .i64 py)) (first | (refine ⟨?_, ?_, ?_, ?_, ?_, ?_⟩ <;> (simp [go_sem, *]; done))) (first
      | (go_simp; go_at_call 56; (refine (HIn.out _ b t q (HSl.out.below (by ((try simp only [← Array.append_assoc]); repeat' first | with_reducible (first | apply Below.refl | assumption | apply bw_a | apply bw_d | apply bw_n | apply bw_e | apply bw_s | apply bw_p | apply bw_c | apply bw_r) | go_size)))).mono ?_); rintro e w3 ⟨rfl, J3, d3, rfl⟩; go_simp))
    all_goals go_wp2_with fail
    all_goals go_ret
    all_goals exact ⟨⟨rfl, _, (HFin.out _ (by ((try simp only [← Array.append_assoc]); repeat' first | with_reducible (first | apply Below.refl | assumption | apply bw_a | apply bw_d | apply bw_n | apply bw_e | apply bw_s | apply bw_p | apply bw_c | apply bw_r) | go_size))).1, fun k hk => hk⟩, (HFin.out _ (by ((try simp only [← Array.append_assoc]); repeat' first | with_reducible (first | apply Below.refl | assumption | apply bw_a | apply bw_d | apply bw_n | apply bw_e | apply bw_s | apply bw_p | apply bw_c | apply bw_r) | go_size))).2⟩
  · obtain ⟨b, t, hS⟩ := s3 w (Agree.refl _ _)
    have HIn := Lib.hid (fun (W : World) (h : SlabB W b t q (L.getD i [])) => n_slIn h px py)
    have HS := Lib.hid hS
    have HD := Lib.hid (fun (W : World) fv (h : W.cell? ⟨fb, i * 3, none⟩ = some (.int .u32 1)) => once_done ⟨fb, i * 3, none⟩ 1 (by decide) fv W h)
    have HH := Lib.hid h'
    have hbase : base ≤ w.heap.size := by omega
    have HBs := Lib.hid hbase
    generalize regQ (px, py) (L.getD i []) = r at *
    unfold pt at *
    have l1 := World.block_lt_of_cell? _ _ s1
    have l2 := World.block_lt_of_cell? _ _ s2
    have lx := hx.2
    clear hS s3 hC hR h' hat hV hx hfi hfine ur us uf hbase
    go_enter Tryz.func37, Tryz.ntmps37
    go_upto_region 1 with fail
    go_region_held3 (fun w' => w'.cell? ⟨w.heap.size, 0, none⟩ = some (.pointer (some ⟨xb, 0, none⟩)) ∧ w'.cell? ⟨w.heap.size + 1, 0, none⟩ = some (.int .i64 (i : Int)) ∧ w'.cell? ⟨xb, 4, none⟩ = some (.slice (some ⟨fb, 0, none⟩) n fc)) (first | (refine ⟨?_, ?_, ?_⟩ <;> (simp [go_sem, *]; done))) (first
      | (go_simp; go_at_call 53; (refine (HD.out _ _ (by simp [go_sem, l2]; exact s2)).mono ?_); rintro e w1 ⟨rfl, rfl⟩; go_simp))
    go_upto_region 2 with fail
    go_region_held3 (fun w' => w'.cell? ⟨w.heap.size, 0, none⟩ = some (.pointer (some ⟨xb, 0, none⟩)) ∧ w'.cell? ⟨w.heap.size + 1, 0, none⟩ = some (.int .i64 (i : Int)) ∧ w'.cell? ⟨xb, 3, none⟩ = some (.slice (some ⟨sb, 0, none⟩) n sc) ∧ w'.cell? ⟨sb, i, none⟩ = some (.pointer (some ⟨q, 0, none⟩)) ∧ w'.cell? ⟨w.heap.size + 2, 0, none⟩ = some (.int .i64 px) ∧ w'.cell? ⟨w.heap.size + 2, 1, none⟩ = some (.int .i64 py)) (first | (refine ⟨?_, ?_, ?_, ?_, ?_, ?_⟩ <;> (simp [go_sem, *]; done))) (first
      | (go_simp; go_at_call 56; (refine (HIn.out _ (HS.out.below (by ((try simp only [← Array.append_assoc]); repeat' first | with_reducible (first | apply Below.refl | assumption | apply bw_a | apply bw_d | apply bw_n | apply bw_e | apply bw_s | apply bw_p | apply bw_c | apply bw_r) | go_size)))).mono ?_); rintro e w3 ⟨rfl, J3, d3, rfl⟩; go_simp))
    all_goals go_wp2_with fail
    all_goals go_ret
    all_goals exact ⟨⟨rfl, _, HH.out.below (by ((try simp only [← Array.append_assoc]); repeat' first | with_reducible (first | apply Below.refl | assumption | apply bw_a | apply bw_d | apply bw_n | apply bw_e | apply bw_s | apply bw_p | apply bw_c | apply bw_r) | go_size)), UGrow.refl _ _ _⟩, KeptU.of_below (by ((try simp only [← Array.append_assoc]); repeat' first | with_reducible (first | apply Below.refl | assumption | apply bw_a | apply bw_d | apply bw_n | apply bw_e | apply bw_s | apply bw_p | apply bw_c | apply bw_r) | go_size)) HBs.out⟩
set_option maxRecDepth 100000 in
theorem i_in (h : IxS w base xb L U) (i px py : Int) : Calls Tryz.prog 20 #[.pointer (some ⟨xb, 0, none⟩), .int .i64 i, pt px py] w fun e w' =>
    (∃ U', e = .returned (inX i (px, py) L) ∧ IxS w' base xb L U' ∧ UGrow w w' U U') ∧ KeptU U base w w' := by
  have HM := Lib.hid (fun (W : World) (h : W.cell? ⟨xb, 0, none⟩ = some (.pointer (some ⟨xb, 0, none⟩))) => n_ixMade xb W h)
  have HH := Lib.hid h
  have hat := h.at
  obtain ⟨_, _, V, ra, rc, sa, sc, fa, fc, hV, hC, hR⟩ := h
  have c0 := hC.c0
  have c3 := hC.c3
  have hx := hat xb (hV xb hC.vx)
  have hl : xb < w.heap.size := hx.2
  have HBs := Lib.hid (show base ≤ w.heap.size by omega)
  clear hC hR hV hat hx
  by_cases hi : 0 ≤ i ∧ i < L.length
  · have hX : inX i (px, py) L = .tuple #[.bool (regQ (px, py) (L.getD i.toNat [])), .int .i64 0] := by unfold inX; rw [if_pos hi]
    rw [hX]
    obtain ⟨k, rfl⟩ : ∃ k : Nat, i = k := ⟨i.toNat, by omega⟩
    rw [Int.toNat_natCast]
    have hk : k < L.length := by omega
    have HCn := Lib.hid (fun (W : World) (h : IxS W base xb L U) => n_ixContains h hk px py)
    generalize regQ (px, py) (L.getD k []) = r at *
    generalize L.length = n at *
    have i1 : ¬ (k : Int) < 0 := by omega
    have i2 : ¬ (n : Int) ≤ (k : Int) := by omega
    have i2' : ¬ (k : Int) ≥ (n : Int) := by omega
    unfold pt at *
    clear hX hi
    go_enter Tryz.func20, Tryz.ntmps20
    go_wp2_with (first
      | (go_at_call 34; refine (HM.out _ (by simp [go_sem, c0, hl])).mono ?_; rintro e w1 ⟨rfl, hw⟩; rw [hw]; clear hw)
      | (go_at_call 37; refine (HCn.out _ (HH.out.below (by ((try simp only [← Array.append_assoc]); repeat' first | with_reducible (first | apply Below.refl | assumption | apply bw_a | apply bw_d | apply bw_n | apply bw_e | apply bw_s | apply bw_p | apply bw_c | apply bw_r) | go_size)))).mono ?_; rintro e w2 ⟨⟨U', rfl, h1, h2⟩, h3⟩; have HR := Lib.hid (And.intro h1 (And.intro h2 h3)); clear h1 h2 h3))
    go_ret2
    refine ⟨⟨U', rfl, HR.out.1, UGrow.trans (UGrow.refl w _ U) HR.out.2.1 (by simp) HR.out.2.2.low.size⟩, KeptU.trans (KeptU.of_below (by (repeat' first | with_reducible (first | apply Below.refl | assumption | apply bw_a | apply bw_d | apply bw_n | apply bw_p | apply bw_c | apply bw_r) | go_size)) HBs.out) HR.out.2.2 (UGrow.refl _ _ _)⟩
  · have hX : inX i (px, py) L = .tuple #[.bool false, .int .i64 6] := by unfold inX; rw [if_neg hi]
    rw [hX]
    generalize L.length = n at *
    unfold pt at *
    clear hX
    by_cases h0 : i < 0
    · go_enter Tryz.func20, Tryz.ntmps20
      go_wp2_with (go_at_call 34; refine (HM.out _ (by simp [go_sem, c0, hl])).mono ?_; rintro e w1 ⟨rfl, hw⟩; rw [hw]; clear hw)
      go_ret2
      exact ⟨⟨U, rfl, HH.out.below (by (repeat' first | with_reducible (first | apply Below.refl | assumption | apply bw_a | apply bw_d | apply bw_n | apply bw_p | apply bw_c | apply bw_r) | go_size)), UGrow.refl _ _ _⟩, KeptU.of_below (by (repeat' first | with_reducible (first | apply Below.refl | assumption | apply bw_a | apply bw_d | apply bw_n | apply bw_p | apply bw_c | apply bw_r) | go_size)) HBs.out⟩
    · have i2 : (n : Int) ≤ i := by omega
      have i2' : i ≥ (n : Int) := by omega
      clear hi
      go_enter Tryz.func20, Tryz.ntmps20
      go_wp2_with (go_at_call 34; refine (HM.out _ (by simp [go_sem, c0, hl])).mono ?_; rintro e w1 ⟨rfl, hw⟩; rw [hw]; clear hw)
      go_ret2
      exact ⟨⟨U, rfl, HH.out.below (by (repeat' first | with_reducible (first | apply Below.refl | assumption | apply bw_a | apply bw_d | apply bw_n | apply bw_p | apply bw_c | apply bw_r) | go_size)), UGrow.refl _ _ _⟩, KeptU.of_below (by (repeat' first | with_reducible (first | apply Below.refl | assumption | apply bw_a | apply bw_d | apply bw_n | apply bw_p | apply bw_c | apply bw_r) | go_size)) HBs.out⟩
end
end
end Go.Proofs.YthphdiigjimchaaGreat

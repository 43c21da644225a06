/- Package boxtree: walk: what fits of a part is put behind what was found. Package boxtree: find, At, Over. Package boxtree: trees, of any boxes; At, Over, Len, Box, Order, Depth. Package boxtree: Depth, Box, Order of a tree; all of what is no tree. Rows of boxes of the call's own: boxes of noughts are put behind; slices.Clone. -/
import Derived.Test.YthphdiigjimchaaGreatBtTree
import Derived.Sort.OwnSortedInts
import Derived.Test.YthphdiigjimchaaGreatBtRef
import Derived.Lib.AppendZerosOnto
import Derived.Lib.SliceRun
import Derived.Lib.Walk
namespace Go.Proofs.YthphdiigjimchaaGreat
section
set_option linter.unusedVariables false
set_option linter.unusedSimpArgs false
open Go.RowKit
def PKeeps (w w' : World) : Prop := ∀ (k : Nat) (c : Array Value), w.heap[k]? = some (.cells c 85 (0, 0)) → w'.heap[k]? = some (.cells c 85 (0, 0))
theorem pk_below {w w' : World} (h : Below w.heap.size w w') : PKeeps w w' := fun k c hc => (h.block k (heap_lt hc)).trans hc
theorem pk_trans {w w' w'' : World} (h : PKeeps w w') (h2 : PKeeps w' w'') : PKeeps w w'' := fun k c hc => h2 k c (h k c hc)
theorem pk_grown {w w' : World} {base n : Nat} {v : Value} {l : List Value} (hg : w.grownBy w' v.ownBlock) (ho : w.ownsRow base 3 1 v n l) : PKeeps w w' := fun k c hc => by
  have hlt := heap_lt hc
  refine (hg.block k hlt (fun e => ?_)).trans hc
  obtain ⟨_, h2⟩ := ho
  rcases h2 with ⟨rfl, _⟩ | ⟨g, cap, cur, rfl, _, hc2, _⟩
  · simp [Value.ownBlock] at e
  · simp [Value.ownBlock] at e
    subst e
    rw [hc] at hc2
    injection hc2 with hc2
    injection hc2 with _ hc2 _
    exact absurd hc2 (by decide)
theorem pk_cell {w : World} {k o : Nat} {c : Array Value} (h : w.heap[k]? = some (.cells c 85 (0, 0))) : w.cell? ⟨k, o, none⟩ = c[o]? := cell_of_row w k o _ _ _ h
def FitsB (W0 : World) (g : Nat) (cb : Array Value) (q : Bx → Bool) : Prop :=
  (∀ args w, (callFunc g args).run Tryz.prog w = .ok (.enter g args) w) ∧ ∀ W, Below W0.heap.size W0 W → ∀ x1 x2 x3 x4, Calls Tryz.prog g (#[bxV x1 x2 x3 x4] ++ cb) W fun e w' => e = .returned (.bool (q (x1, x2, x3, x4))) ∧ Junk W w'
set_option maxRecDepth 100000 in
set_option maxHeartbeats 8000000 in
theorem n_btWalk (L : List Bx) (q : Bx → Bool) (hq : Mono q) (tb bb ob n cb co g gk : Nat) (O : List Nat) (N : Nat → Bx) (W0 : World) (hT : TrB tb bb ob n cb co L O N W0) (hF : FitsB W0 g #[.pointer (some ⟨gk, 0, none⟩)] q) :
    ∀ (f first count node : Nat) (y : Bool) (K : List Nat) (v : Value) (w : World), count ≤ f → 0 < count → first + count ≤ n → n ≤ node → node + count ≤ 2 * n → GoodB L N f (slc O first count) node → Below W0.heap.size W0 w →
      w.ownsRow W0.heap.size 3 1 v K.length (ints (nums K)) → K.length + count ≤ 1000000 →
    Calls Tryz.prog 94 #[.pointer (some ⟨tb, 0, none⟩), ptV first count node y, .func (.func g) #[] #[.pointer (some ⟨gk, 0, none⟩)], v] w fun e w' =>
      (∃ v', e = .returned v' ∧ w'.ownsRow W0.heap.size 3 1 v' (K ++ hitB L q (slc O first count)).length (ints (nums (K ++ hitB L q (slc O first count))))) ∧ Below W0.heap.size w w' ∧ PKeeps w w' := by
  intro f
  induction f with
  | zero => intro first count node y K v w h1 h2; omega
  | succ f ih =>
    intro first count node y K v w hcf h0 hf hnode hnode2 hG hB hown hKl
    have hsz := hB.size
    have hTw := hT.below hB
    have hle := hT.le
    obtain ⟨P, hP⟩ : ∃ P, slc O first count = P := ⟨_, rfl⟩
    have hPl : P.length = count := by rw [← hP]; exact slc_len (by rw [hT.hO]; exact hf)
    have hPm : ∀ i ∈ P, i < n := fun i hi => hT.mem i (by rw [← hP] at hi; unfold slc at hi; exact List.mem_of_mem_drop (List.mem_of_mem_take hi))
    rw [hP] at hG ⊢
    have HPl := Lib.hid (fun (W : World) (hW : TrB tb bb ob n cb co L O N W) => show Calls Tryz.prog 81 #[.pointer (some ⟨tb, 0, none⟩), ptV first count node y] W fun e w' => e = .returned (.int .i64 ((plcB P node : Nat) : Int)) ∧ Junk W w' from by
      have := n_btPlace hW first count node y h0 hf
      rw [hP] at this
      exact this)
    have hrow := place_row hT (P := P) (node := node) hPm (by omega) hnode
    have hplt := place_lt (n := n) (P := P) (node := node) hPm (by omega) hT.pos (by omega)
    have hmiss := good_miss (L := L) (N := N) hq (f + 1) P node (by omega) (fun e => by rw [e] at hPl; simp at hPl; omega) hG
    obtain ⟨p, hp⟩ : ∃ p, plcB P node = p := ⟨_, rfl⟩
    rw [hp] at hrow hplt
    simp only [hp] at HPl
    have b1 := (hTw.b1 p hplt).1
    have b2 := (hTw.b2 p hplt).1
    have b3 := (hTw.b3 p hplt).1
    have b4 := (hTw.b4 p hplt).1
    rw [hrow] at b1 b2 b3 b4
    obtain ⟨⟨x1, x2, x3, x4⟩, hx⟩ : ∃ x : Bx, valB L N P node = x := ⟨_, rfl⟩
    rw [hx] at b1 b2 b3 b4 hmiss
    simp only at b1 b2 b3 b4
    obtain ⟨u, hu⟩ : ∃ u, q (x1, x2, x3, x4) = u := ⟨_, rfl⟩
    have hen := hF.1
    have HFi := Lib.hid (fun W (hW : Below W0.heap.size W0 W) => show Calls Tryz.prog g (#[bxV x1 x2 x3 x4] ++ #[.pointer (some ⟨gk, 0, none⟩)]) W fun e w' => e = .returned (.bool u) ∧ Junk W w' from by
      have := hF.2 W hW x1 x2 x3 x4
      rw [hu] at this
      exact this)
    have t1 := hTw.bs
    have l1 := World.block_lt_of_cell? _ _ t1
    have l2 := World.block_lt_of_cell? _ _ b1
    obtain ⟨m, hm⟩ : ∃ m, 2 * n - 1 = m := ⟨_, rfl⟩
    rw [hm] at t1 hplt
    have i1 : (p : Int) < (m : Int) := by omega
    have HT := Lib.hid hTw
    have HB := Lib.hid hB
    have HO := Lib.hid hown
    have HIh := Lib.hid ih
    have HGd := Lib.hid hG
    have HMi := Lib.hid hmiss
    have HPm := Lib.hid hPm
    have HP := Lib.hid hP
    have Hp := Lib.hid hp
    have Hx := Lib.hid hx
    have Hu := Lib.hid hu
    have HC := Lib.hid (show count ≤ f + 1 ∧ 0 < count ∧ first + count ≤ n ∧ n ≤ node ∧ node + count ≤ 2 * n ∧ K.length + count ≤ 1000000 ∧ P.length = count ∧ n ≤ 1000 from ⟨hcf, h0, hf, hnode, hnode2, hKl, hPl, hle⟩)
    clear hTw hB hown ih hG hmiss hPm hP hp hx hu hrow hm hF hT hcf h0 hf hnode hnode2 hKl hPl hle
    unfold ptV bxV at *
    cases u with
    | false =>
      have HN := Lib.hid (hit_none (L := L) (HMi.out Hu.out))
      clear HMi HIh HGd
      go_enter Tryz.func94, Tryz.ntmps94
      go_wp2_with (first | (go_at_call 81; refine (HPl.out _ (HT.out.below (by ((try simp only [← Array.append_assoc]); repeat' first | with_reducible (first | apply Below.refl | assumption | apply bw_a | apply bw_d | apply bw_n | apply bw_e | apply bw_s | apply bw_p | apply bw_c | apply bw_r) | go_size)))).mono ?_; rintro e w1 ⟨rfl, J1, d1, rfl⟩) | (go_at_fn g; refine (HFi.out _ (HB.out.trans (by ((try simp only [← Array.append_assoc]); repeat' first | with_reducible (first | apply Below.refl | assumption | apply bw_a | apply bw_d | apply bw_n | apply bw_e | apply bw_s | apply bw_p | apply bw_c | apply bw_r) | go_size)))).mono ?_; rintro e w1 ⟨rfl, J2, d2, rfl⟩))
      go_ret
      exact ⟨⟨_, rfl, by rw [HN.out, List.append_nil]; exact powns_below HO.out (by ((try simp only [← Array.append_assoc]); repeat' first | with_reducible (first | apply Below.refl | assumption | apply bw_a | apply bw_d | apply bw_n | apply bw_e | apply bw_s | apply bw_p | apply bw_c | apply bw_r) | go_size))⟩, (show Below w.heap.size w _ by ((try simp only [← Array.append_assoc]); repeat' first | with_reducible (first | apply Below.refl | assumption | apply bw_a | apply bw_d | apply bw_n | apply bw_e | apply bw_s | apply bw_p | apply bw_c | apply bw_r) | go_size)).mono hsz, pk_below (by ((try simp only [← Array.append_assoc]); repeat' first | with_reducible (first | apply Below.refl | assumption | apply bw_a | apply bw_d | apply bw_n | apply bw_e | apply bw_s | apply bw_p | apply bw_c | apply bw_r) | go_size))⟩
    | true =>
      by_cases hc1 : count = 1
      · have HH := Lib.hid (show hitB L q P = [p] from by
          obtain ⟨k1, k2, k3, k4, k5, k6, k7, k8⟩ := HC.out
          have hpl : P.length = 1 := by omega
          have e : P = [p] := by
            have := Hp.out
            unfold plcB at this
            rw [if_pos hpl] at this
            obtain ⟨z, hz⟩ := List.length_eq_one_iff.1 hpl
            rw [hz] at this
            rw [hz, show z = p from this]
          have hv := Hx.out
          unfold valB at hv
          rw [if_pos hpl, e] at hv
          rw [e]
          exact hit_one (by rw [show L.getD p Bz = _ from hv]; exact Hu.out))
        have i3 : p < 1000 := by
          obtain ⟨k1, k2, k3, k4, k5, k6, k7, k8⟩ := HC.out
          have hpl : P.length = 1 := by omega
          have := Hp.out
          unfold plcB at this
          rw [if_pos hpl] at this
          have := HPm.out _ (getD_memN (show 0 < P.length by omega))
          omega
        have i4 : K.length + 1 ≤ 17592186044416 := by have := HC.out; omega
        have HFt := Lib.hid (show Fit64 [(p : Int)] 1 from fun i hi => by
          obtain rfl : i = 0 := by omega
          show -9223372036854775808 ≤ (p : Int) ∧ (p : Int) ≤ 9223372036854775807
          omega)
        have HN := Lib.hid (show nums K ++ [(p : Int)] = nums (K ++ hitB L q P) from by rw [HH.out, nums_snoc])
        have HL := Lib.hid (show (K ++ hitB L q P).length = K.length + 1 from by rw [HH.out]; simp)
        clear HMi HIh HGd HC
        subst hc1
        have i2 : ((1 : Int) == 1) = true := rfl
        simp only [show ((1 : Nat) : Int) = 1 from rfl] at HPl ⊢
        go_enter Tryz.func94, Tryz.ntmps94
        go_wp2_with (first | (at_builtin; refine wpList_app rfl (.tmp 31) (.tmp 33) rfl W0.heap.size _ K.length (nums K) rfl (powns_below HO.out (by ((try simp only [← Array.append_assoc]); repeat' first | with_reducible (first | apply Below.refl | assumption | apply bw_a | apply bw_d | apply bw_n | apply bw_e | apply bw_s | apply bw_p | apply bw_c | apply bw_r) | go_size))) _ 1 1 [(p : Int)] rfl (by intro h; cases h) (reads_cell (by simp [go_sem]) HFt.out) i4 (by simp; omega) ?_; intro v' w' hown' hg') | (go_at_call 81; refine (HPl.out _ (HT.out.below (by ((try simp only [← Array.append_assoc]); repeat' first | with_reducible (first | apply Below.refl | assumption | apply bw_a | apply bw_d | apply bw_n | apply bw_e | apply bw_s | apply bw_p | apply bw_c | apply bw_r) | go_size)))).mono ?_; rintro e w1 ⟨rfl, J1, d1, rfl⟩) | (go_at_fn g; refine (HFi.out _ (HB.out.trans (by ((try simp only [← Array.append_assoc]); repeat' first | with_reducible (first | apply Below.refl | assumption | apply bw_a | apply bw_d | apply bw_n | apply bw_e | apply bw_s | apply bw_p | apply bw_c | apply bw_r) | go_size)))).mono ?_; rintro e w1 ⟨rfl, J2, d2, rfl⟩))
        go_ret
        refine ⟨⟨_, rfl, by rw [HL.out, ← HN.out]; exact hown'⟩, ?_, ?_⟩
        · exact grown_below (B := W0.heap.size) (a := w) ((show Below w.heap.size w _ by ((try simp only [← Array.append_assoc]); repeat' first | with_reducible (first | apply Below.refl | assumption | apply bw_a | apply bw_d | apply bw_n | apply bw_e | apply bw_s | apply bw_p | apply bw_c | apply bw_r) | go_size)).mono hsz) hg' (by simp; omega) (powns_block HO.out)
        · exact pk_trans (pk_below (by ((try simp only [← Array.append_assoc]); repeat' first | with_reducible (first | apply Below.refl | assumption | apply bw_a | apply bw_d | apply bw_n | apply bw_e | apply bw_s | apply bw_p | apply bw_c | apply bw_r) | go_size))) (pk_grown hg' (powns_below HO.out (by ((try simp only [← Array.append_assoc]); repeat' first | with_reducible (first | apply Below.refl | assumption | apply bw_a | apply bw_d | apply bw_n | apply bw_e | apply bw_s | apply bw_p | apply bw_c | apply bw_r) | go_size))))
      · have i2 : ((count : Int) == 1) = false := by rw [beq_eq_false_iff_ne]; omega
        obtain ⟨k1, k2, k3, k4, k5, k6, k7, k8⟩ := HC.out
        obtain ⟨h, hh⟩ : ∃ h, (count + 1) / 2 = h := ⟨_, rfl⟩
        have hh1 : 0 < h := by omega
        have hh2 : h < count := by omega
        have hgd := HGd.out
        unfold GoodB at hgd
        rw [k7, hh] at hgd
        rcases hgd with hgd | ⟨_, hgA, hgB⟩
        · omega
        have hT0 := HT.out.hO
        have eA : slc O first h = P.take h := by
          rw [← HP.out]
          unfold slc
          rw [List.take_take, Nat.min_eq_left (by omega)]
        have eB : slc O (first + h) (count - h) = P.drop h := by
          rw [← HP.out]
          unfold slc
          rw [← List.drop_drop, List.drop_take]
        have HH := Lib.hid (fun W => show Calls Tryz.prog 79 #[ptV first count node y] W fun e w' => e = .returned (.tuple #[ptV first h (node + 1) (!y), ptV (first + h) (count - h) (node + h) (!y)]) ∧ Junk W w' from by
          have := n_btHalves first count node y (by omega) (by omega) (by omega) W
          rw [hh] at this
          exact this)
        have HA := Lib.hid (fun (W : World) (hb : Below W0.heap.size W0 W) (ho : W.ownsRow W0.heap.size 3 1 v K.length (ints (nums K))) => by
          have := HIh.out first h (node + 1) (!y) K v W (by omega) hh1 (by omega) (by omega) (by omega) (by rw [eA]; exact hgA) hb ho (by omega)
          rw [eA] at this
          exact this)
        have hlA : (K ++ hitB L q (P.take h)).length ≤ K.length + h := by
          rw [List.length_append]
          have := hit_le L q (P.take h)
          rw [List.length_take] at this
          omega
        have HBc := Lib.hid (fun (W : World) (v1 : Value) (hb : Below W0.heap.size W0 W) (ho : W.ownsRow W0.heap.size 3 1 v1 (K ++ hitB L q (P.take h)).length (ints (nums (K ++ hitB L q (P.take h))))) => by
          have := HIh.out (first + h) (count - h) (node + h) (!y) (K ++ hitB L q (P.take h)) v1 W (by omega) (by omega) (by omega) (by omega) (by omega) (by rw [eB]; exact hgB) hb ho (by omega)
          rw [eB, List.append_assoc, ← hit_app, List.take_append_drop] at this
          exact this)
        obtain ⟨na, hna⟩ : ∃ x, node + 1 = x := ⟨_, rfl⟩
        obtain ⟨nb, hnb⟩ : ∃ x, node + h = x := ⟨_, rfl⟩
        obtain ⟨fb, hfb⟩ : ∃ x, first + h = x := ⟨_, rfl⟩
        obtain ⟨c2, hc2⟩ : ∃ x, count - h = x := ⟨_, rfl⟩
        simp only [hna, hnb, hfb, hc2] at HH HA HBc
        unfold ptV at *
        clear k1 k2 k3 k4 k5 k6 k7 k8 hh hh1 hh2 hgA hgB hT0 eA eB hlA hna hnb hfb hc2 HMi HIh HGd HC HP
        go_enter Tryz.func94, Tryz.ntmps94
        go_wp2_with (first | (go_at_call 79; refine (HH.out _).mono ?_; rintro e w1 ⟨rfl, J3, d3, rfl⟩) | (go_at_call 81; refine (HPl.out _ (HT.out.below (by ((try simp only [← Array.append_assoc]); repeat' first | with_reducible (first | apply Below.refl | assumption | apply bw_a | apply bw_d | apply bw_n | apply bw_e | apply bw_s | apply bw_p | apply bw_c | apply bw_r) | go_size)))).mono ?_; rintro e w1 ⟨rfl, J1, d1, rfl⟩) | (go_at_fn g; refine (HFi.out _ (HB.out.trans (by ((try simp only [← Array.append_assoc]); repeat' first | with_reducible (first | apply Below.refl | assumption | apply bw_a | apply bw_d | apply bw_n | apply bw_e | apply bw_s | apply bw_p | apply bw_c | apply bw_r) | go_size)))).mono ?_; rintro e w1 ⟨rfl, J2, d2, rfl⟩))
        obtain ⟨W1, hW1⟩ : ∃ W1, (w.alloc (Obj.cells #[Value.int IntKind.i64 (first : Int), Value.int IntKind.i64 (count : Int), Value.int IntKind.i64 (node : Int), Value.bool y] 85)).plus (J1 ++ (J2 ++ J3)) d3 = W1 := ⟨_, rfl⟩
        have hs1 : w.heap.size + 1 + (J1.size + (J2.size + J3.size)) = W1.heap.size := by rw [← hW1]; simp
        have hb1 : Below w.heap.size w W1 := by rw [← hW1]; ((try simp only [← Array.append_assoc]); repeat' first | with_reducible (first | apply Below.refl | assumption | apply bw_a | apply bw_d | apply bw_n | apply bw_e | apply bw_s | apply bw_p | apply bw_c | apply bw_r) | go_size)
        rw [hW1, hs1]
        clear hW1 hs1
        obtain ⟨cA, hcA⟩ : ∃ c : Array Value, #[Value.int IntKind.i64 (first : Int), Value.int IntKind.i64 (h : Int), Value.int IntKind.i64 (na : Int), Value.bool !y] = c := ⟨_, rfl⟩
        obtain ⟨cB, hcB⟩ : ∃ c : Array Value, #[Value.int IntKind.i64 (fb : Int), Value.int IntKind.i64 (c2 : Int), Value.int IntKind.i64 (nb : Int), Value.bool !y] = c := ⟨_, rfl⟩
        obtain ⟨W3, hW3⟩ : ∃ W3, (W1.alloc (Obj.cells cA 85)).alloc (Obj.cells cB 85) = W3 := ⟨_, rfl⟩
        have hb3 : Below w.heap.size w W3 := by rw [← hW3]; exact hb1.trans (by have := hb1.size; ((try simp only [← Array.append_assoc]); repeat' first | with_reducible (first | apply Below.refl | assumption | apply bw_a | apply bw_d | apply bw_n | apply bw_e | apply bw_s | apply bw_p | apply bw_c | apply bw_r) | go_size))
        have ka : W3.heap[W1.heap.size]? = some (.cells cA 85 (0, 0)) := by
          rw [← hW3]
          have e : (W1.alloc (Obj.cells cA 85)).heap[W1.heap.size]? = some (.cells cA 85 (0, 0)) := World.alloc_heap_new W1 _
          exact (((Below.refl _ _).alloc (Nat.le_refl _) _ : Below (W1.alloc (Obj.cells cA 85)).heap.size _ _).block _ (heap_lt e)).trans e
        have kb : W3.heap[W1.heap.size + 1]? = some (.cells cB 85 (0, 0)) := by
          rw [← hW3]
          have e := World.alloc_heap_new (W1.alloc (Obj.cells cA 85)) (Obj.cells cB 85)
          simpa using e
        rw [hcA, hcB, hW3]
        clear hW3 hb1
        obtain ⟨ga, hga⟩ : ∃ g, W1.heap.size = g := ⟨_, rfl⟩
        rw [hga] at ka kb ⊢
        clear hga
        obtain ⟨gb, hgb⟩ : ∃ g, ga + 1 = g := ⟨_, rfl⟩
        rw [hgb] at kb ⊢
        clear hgb
        have HB3 := Lib.hid (HB.out.trans (hb3.mono hsz))
        have HO3 := Lib.hid (powns_below HO.out hb3)
        have HW3 := Lib.hid hb3
        have hcells : ∀ (W : World), W.heap[ga]? = some (.cells cA 85 (0, 0)) → W.heap[gb]? = some (.cells cB 85 (0, 0)) →
            W.cell? ⟨ga, 0, none⟩ = some (.int .i64 (first : Int)) ∧ W.cell? ⟨ga, 1, none⟩ = some (.int .i64 (h : Int)) ∧ W.cell? ⟨ga, 2, none⟩ = some (.int .i64 (na : Int)) ∧ W.cell? ⟨ga, 3, none⟩ = some (.bool !y) ∧
            W.cell? ⟨gb, 0, none⟩ = some (.int .i64 (fb : Int)) ∧ W.cell? ⟨gb, 1, none⟩ = some (.int .i64 (c2 : Int)) ∧ W.cell? ⟨gb, 2, none⟩ = some (.int .i64 (nb : Int)) ∧ W.cell? ⟨gb, 3, none⟩ = some (.bool !y) := fun W e1 e2 => by
          subst hcA
          subst hcB
          exact ⟨pk_cell e1, pk_cell e1, pk_cell e1, pk_cell e1, pk_cell e2, pk_cell e2, pk_cell e2, pk_cell e2⟩
        have HCl := Lib.hid hcells
        have Ka := Lib.hid ka
        have Kb := Lib.hid kb
        obtain ⟨c0, c1, c2', c3, d0, d1', d2', d3'⟩ := hcells _ ka kb
        have l3 := World.block_lt_of_cell? _ _ c0
        have l4 := World.block_lt_of_cell? _ _ d0
        clear hcells ka kb hb3 hcA hcB b1 b2 b3 b4 t1 i1 hplt l1 l2 HB HO HT HPl HFi HH hen
        go_region_held3 (fun w' => w'.cell? ⟨ga, 0, none⟩ = some (.int .i64 (first : Int)) ∧ w'.cell? ⟨ga, 1, none⟩ = some (.int .i64 (h : Int)) ∧ w'.cell? ⟨ga, 2, none⟩ = some (.int .i64 (na : Int)) ∧ w'.cell? ⟨ga, 3, none⟩ = some (.bool !y) ∧
            w'.cell? ⟨gb, 0, none⟩ = some (.int .i64 (fb : Int)) ∧ w'.cell? ⟨gb, 1, none⟩ = some (.int .i64 (c2 : Int)) ∧ w'.cell? ⟨gb, 2, none⟩ = some (.int .i64 (nb : Int)) ∧ w'.cell? ⟨gb, 3, none⟩ = some (.bool !y))
          (first | (refine ⟨?_, ?_, ?_, ?_, ?_, ?_, ?_, ?_⟩ <;> (simp [go_sem, *]; done))) (first
          | (go_simp; go_at_call 94; (with_reducible refine (HA.out _ ?_ ?_).mono ?_); (exact HB3.out.trans (by ((try simp only [← Array.append_assoc]); repeat' first | with_reducible (first | apply Below.refl | assumption | apply bw_a | apply bw_d | apply bw_n | apply bw_e | apply bw_s | apply bw_p | apply bw_c | apply bw_r) | go_size))); (exact powns_below HO3.out (by ((try simp only [← Array.append_assoc]); repeat' first | with_reducible (first | apply Below.refl | assumption | apply bw_a | apply bw_d | apply bw_n | apply bw_e | apply bw_s | apply bw_p | apply bw_c | apply bw_r) | go_size))); rintro e w1 ⟨⟨v1, rfl, ho1⟩, hb1, hk1⟩; have HO4 := Lib.hid ho1; have HB4 := Lib.hid (show Below W0.heap.size W3 w1 from (show Below W0.heap.size W3 _ by ((try simp only [← Array.append_assoc]); repeat' first | with_reducible (first | apply Below.refl | assumption | apply bw_a | apply bw_d | apply bw_n | apply bw_e | apply bw_s | apply bw_p | apply bw_c | apply bw_r) | go_size)).trans hb1); have HK4 := Lib.hid (show PKeeps W3 w1 from pk_trans (pk_below (by ((try simp only [← Array.append_assoc]); repeat' first | with_reducible (first | apply Below.refl | assumption | apply bw_a | apply bw_d | apply bw_n | apply bw_e | apply bw_s | apply bw_p | apply bw_c | apply bw_r) | go_size))) hk1); obtain ⟨e0, e1, e2, e3, f0, f1, f2, f3⟩ := HCl.out _ (HK4.out _ _ Ka.out) (HK4.out _ _ Kb.out); clear ho1 hb1 hk1 c0 c1 c2' c3 d0 d1' d2' d3' l3 l4; have l3 := World.block_lt_of_cell? _ _ e0; have l4 := World.block_lt_of_cell? _ _ f0; go_simp)
          | (go_simp; go_at_call 94; (with_reducible refine (HBc.out _ _ ?_ ?_).mono ?_); (exact HB3.out.trans HB4.out); (exact HO4.out); rintro e w2 ⟨⟨v2, rfl, ho2⟩, hb2, hk2⟩; have HO5 := Lib.hid ho2; have HB5 := Lib.hid (HB4.out.trans hb2); have HK5 := Lib.hid (pk_trans HK4.out hk2); obtain ⟨g0, g1, g2, g3, h0, h1, h2, h3⟩ := HCl.out _ (HK5.out _ _ Ka.out) (HK5.out _ _ Kb.out); clear ho2 hb2 hk2; go_simp))
        all_goals go_wp2_with fail
        all_goals go_ret
        all_goals exact ⟨⟨_, rfl, by have h5 := HO5.out; rw [List.length_append] at h5; exact h5⟩, (HW3.out.mono hsz).trans HB5.out, pk_trans (pk_below HW3.out) HK5.out⟩
end

section
set_option linter.unusedVariables false
set_option linter.unusedSimpArgs false
open Go.RowKit Go.Shelf Go.Lib Go.Sort
theorem n_btSortOwn (w : World) (base : Nat) (v : Value) (K : List Nat) (h : w.ownsRow base 3 1 v K.length (ints (nums K))) (hl : K.length ≤ 1000000) :
    Calls Tryz.prog 74 #[v] w fun e w' => e = .returned (.tuple #[]) ∧ w'.ownsRow base 3 1 v K.length (ints (nums (upL K))) ∧ w.grownBy w' v.ownBlock := by
  have h' := h
  obtain ⟨hl0, h2⟩ := h
  rcases h2 with ⟨rfl, hz⟩ | ⟨g, cap, cur, rfl, hg, hc, hnc, hcap, hcs, ht⟩
  · have hK : K = [] := List.eq_nil_of_length_eq_zero hz
    subst hK
    refine (Tryz.slices_Sort_int_none none 0 w).mono ?_
    rintro e w' ⟨rfl, rfl⟩
    exact ⟨rfl, by rw [show upL [] = [] from List.mergeSort_nil]; exact h', World.grownBy.refl _ _⟩
  · have hz : (nums K).length = K.length := nums_len K
    have ht' : cur.toList.take (nums K).length = (nums K).map (Value.int .i64) := by rw [hz]; rw [Nat.mul_one] at ht; exact ht
    have hH := holds_of_blockI hc ht'
    have hS := Tryz.slices_Sort_int g 0 cap (nums K) w hH (heap_lt hc) (by rw [hz]; omega)
    rw [hz] at hS
    refine hS.mono ?_
    rintro e w' ⟨rfl, m, os, rfl⟩
    rw [up_nums]
    refine ⟨rfl, ?_, grownBy_sortedI _⟩
    have hu : (nums (upL K)).length = K.length := by rw [nums_len, (up_perm K).length_eq]
    have := ownsRow_sortedI (w := w) (base := base) (g := g) (cap := cap) (n := m) (e := 3) (os := os) (cur := cur) (ss := nums K) (ts := nums (upL K)) (by rw [hu, hz]) hg hc (by rw [hz]; exact hnc) hcap hcs
    rw [hz] at this
    exact this
section
variable {tb bb ob n cb co : Nat} {L : List Bx} {O : List Nat} {N : Nat → Bx} {w : World}
set_option maxRecDepth 100000 in
set_option maxHeartbeats 2000000 in
theorem n_btFind (q : Bx → Bool) (hq : Mono q) (g gk : Nat) (hT : TrB tb bb ob n cb co L O N w) (hF : FitsB w g #[.pointer (some ⟨gk, 0, none⟩)] q) (hG : GoodB L N n O n) (hP : O.Perm (List.range L.length)) :
    Calls Tryz.prog 57 #[.pointer (some ⟨tb, 0, none⟩), .func (.func g) #[] #[.pointer (some ⟨gk, 0, none⟩)]] w fun e w' => (∃ v, e = .returned v ∧ IOwn w w' v (scanB q L)) ∧ Junk w w' := by
  have h0 := hT.pos
  have hle := hT.le
  have hOl := hT.hO
  have hsl : slc O 0 n = O := by rw [← hOl]; exact slc_all O
  have hhl : (hitB L q O).length ≤ 1000 := by have := hit_le L q O; omega
  have hscan : upL (hitB L q O) = scanB q L := hit_scan hP (up_perm _) (nodup_up ((up_perm _).nodup_iff.2 (hT.nodup.sublist List.filter_sublist)) (up_le _))
  have hsl2 : (hitB L q O).length = (scanB q L).length := by rw [← hscan, (up_perm _).length_eq]
  have HLn := Lib.hid (fun W (hW : TrB tb bb ob n cb co L O N W) => n_btLen tb W _ n co hW.self hW.os)
  have HWh := Lib.hid (fun W (hW : TrB tb bb ob n cb co L O N W) => n_btWhole tb W _ n co hW.os)
  have HWk := Lib.hid (fun W (hB : Below w.heap.size w W) => show Calls Tryz.prog 94 #[.pointer (some ⟨tb, 0, none⟩), ptV 0 n n false, .func (.func g) #[] #[.pointer (some ⟨gk, 0, none⟩)], .slice none 0 0] W fun e w' =>
      (∃ v', e = .returned v' ∧ w'.ownsRow w.heap.size 3 1 v' (hitB L q O).length (ints (nums (hitB L q O)))) ∧ Below w.heap.size W w' from by
    have := n_btWalk L q hq tb bb ob n cb co g gk O N w hT hF n 0 n n false [] (.slice none 0 0) W (Nat.le_refl _) h0 (by omega) (Nat.le_refl _) (by omega) (by rw [hsl]; exact hG) hB (inil_owns _ _) (by simp; omega)
    rw [hsl, List.nil_append] at this
    exact this.mono fun e w' h => ⟨h.1, h.2.1⟩)
  have i1 : ((n : Int) == 0) = false := by rw [beq_eq_false_iff_ne]; omega
  have HT := Lib.hid hT
  have HSc := Lib.hid hscan
  have HS2 := Lib.hid hsl2
  unfold ptV at *
  clear hT hF hG hP hsl hscan hsl2 hOl hq
  go_enter Tryz.func57, Tryz.ntmps57
  go_wp2_with (first | (go_at_call 93; refine (HLn.out _ HT.out).mono ?_; rintro e w1 ⟨rfl, hw⟩; rw [hw]; clear hw) | (go_at_call 49; refine ((HWh.out _ HT.out)).mono ?_; rintro e w1 ⟨rfl, J1, d1, rfl⟩) | (go_at_call 94; refine (HWk.out _ (by ((try simp only [← Array.append_assoc]); repeat' first | with_reducible (first | apply Below.refl | assumption | apply bw_a | apply bw_d | apply bw_n | apply bw_e | apply bw_s | apply bw_p | apply bw_c | apply bw_r) | go_size))).mono ?_; rintro e w2 ⟨⟨v, rfl, ho⟩, hb⟩; have HO := Lib.hid ho; have HB := Lib.hid (show Below w.heap.size w w2 from (show Below w.heap.size w _ by ((try simp only [← Array.append_assoc]); repeat' first | with_reducible (first | apply Below.refl | assumption | apply bw_a | apply bw_d | apply bw_n | apply bw_e | apply bw_s | apply bw_p | apply bw_c | apply bw_r) | go_size)).trans hb); have hsz := HB.out.size; clear ho hb) | (go_at_call 74; refine (n_btSortOwn _ _ _ _ HO.out (by omega)).mono ?_; rintro e w3 ⟨rfl, ho3, hg3⟩; have HO3 := Lib.hid ho3; have HB3 := Lib.hid (grown_below (B := w.heap.size) (a := w) HB.out hg3 hsz (powns_block HO.out)); clear ho3 hg3))
  go_ret
  refine ⟨⟨_, rfl, ?_⟩, junk_of_below HB3.out⟩
  unfold IOwn
  have := HO3.out
  rw [HSc.out, HS2.out] at this
  exact this
end
end

section
set_option linter.unusedVariables false
set_option linter.unusedSimpArgs false
open Go.RowKit Go.Shelf
def TreeB (w : World) (base top tb : Nat) (L : List Bx) : Prop :=
  base ≤ tb ∧ tb < top ∧ top ≤ w.heap.size ∧ ((L = [] ∧ w.cell? ⟨tb, 0, none⟩ = some (.pointer (some ⟨tb, 0, none⟩)) ∧ w.cell? ⟨tb, 2, none⟩ = some (.slice none 0 0)) ∨
    ∃ bb ob n cb co N, (base ≤ bb ∧ bb < top) ∧ (base ≤ ob ∧ ob < top) ∧ TrB tb bb ob n cb co L (ordB L) N w ∧ GoodB L N n (ordB L) n)
theorem TreeB.keep {w w' : World} {base top tb : Nat} {L : List Bx} (h : TreeB w base top tb L) (hs : w.heap.size ≤ w'.heap.size) (hk : ∀ k, base ≤ k → k < top → w'.heap[k]? = w.heap[k]?) : TreeB w' base top tb L := by
  obtain ⟨h1, h2, h3, h4⟩ := h
  refine ⟨h1, h2, Nat.le_trans h3 hs, ?_⟩
  rcases h4 with ⟨rfl, c0, c2⟩ | ⟨bb, ob, n, cb, co, N, hb, ho, hT, hG⟩
  · have k := hk tb h1 h2
    exact .inl ⟨rfl, (World.cell?_of_block (a := ⟨tb, 0, none⟩) k).trans c0, (World.cell?_of_block (a := ⟨tb, 2, none⟩) k).trans c2⟩
  · exact .inr ⟨bb, ob, n, cb, co, N, hb, ho, hT.keep (hk tb h1 h2) (hk bb hb.1 hb.2) (hk ob ho.1 ho.2), hG⟩
theorem TreeB.below {w w' : World} {base top tb : Nat} {L : List Bx} (h : TreeB w base top tb L) (hb : Below w.heap.size w w') : TreeB w' base top tb L :=
  h.keep hb.size fun k _ h2 => hb.block k (Nat.lt_of_lt_of_le h2 h.2.2.1)
theorem mono_in (px py : Int) : Mono (inB px py) := by
  constructor <;> intro x y h <;> unfold inB inF arB at * <;> rw [decide_eq_true_eq] at * <;> simp only <;> omega
def meetX (x b : Bx) : Bool := meetF x.1 x.2.1 x.2.2.1 x.2.2.2 b.1 b.2.1 b.2.2.1 b.2.2.2
set_option maxRecDepth 100000 in
set_option maxHeartbeats 2000000 in
theorem n_btAt1 (px py x1 x2 x3 x4 : Int) (gk : Nat) (w : World) (c0 : w.cell? ⟨gk, 0, none⟩ = some (.int .i64 px)) (c1 : w.cell? ⟨gk, 1, none⟩ = some (.int .i64 py)) :
    Calls Tryz.prog 58 #[bxV x1 x2 x3 x4, .pointer (some ⟨gk, 0, none⟩)] w fun e w' => e = .returned (.bool (inB px py (x1, x2, x3, x4))) ∧ Junk w w' := by
  have H := Lib.hid (fun w' => n_ptIn px py x1 x2 x3 x4 w')
  have l0 := World.block_lt_of_cell? _ _ c0
  unfold inB
  unfold pt bxV at *
  simp only
  generalize inF px py x1 x2 x3 x4 = r at *
  go_enter Tryz.func58, Tryz.ntmps58
  go_wp2_with (go_at_call 59; refine (H.out _).mono ?_; rintro e w1 ⟨rfl, J1, d1, rfl⟩)
  go_ret
  exact ⟨rfl, junk_of_below (by (repeat' first | with_reducible (first | apply Below.refl | assumption | apply bw_a | apply bw_d | apply bw_n | apply bw_p | apply bw_c | apply bw_r) | go_size))⟩
set_option maxRecDepth 100000 in
set_option maxHeartbeats 2000000 in
theorem n_btFind0 (p : Option Addr) (fv : Value) (w : World) (h : Calls Tryz.prog 93 #[.pointer p] w fun e w' => e = .returned (.int .i64 0) ∧ w' = w) :
    Calls Tryz.prog 57 #[.pointer p, fv] w fun e w' => e = .returned (.slice none 0 0) ∧ w' = w := by
  have H := Lib.hid h
  clear h
  go_enter Tryz.func57, Tryz.ntmps57
  go_wp2_with (go_at_call 93; refine H.out.mono ?_; rintro e w1 ⟨rfl, hw⟩; rw [hw]; clear hw)
  go_ret
  exact ⟨rfl, rfl⟩
theorem iown_nil (w w' : World) : IOwn w w' (.slice none 0 0) [] := inil_owns w' w.heap.size
section
variable {w : World} {base top tb : Nat} {L : List Bx}
theorem n_treeLen (h : TreeB w base top tb L) : Calls Tryz.prog 93 #[.pointer (some ⟨tb, 0, none⟩)] w fun e w' => e = .returned (.int .i64 (L.length : Int)) ∧ w' = w := by
  obtain ⟨_, _, _, h4⟩ := h
  rcases h4 with ⟨rfl, c0, c2⟩ | ⟨bb, ob, n, cb, co, N, hb, ho, hT, hG⟩
  · exact n_btLen tb w none 0 0 c0 c2
  · rw [hT.hL]; exact n_btLen tb w _ n co hT.self hT.os
set_option maxRecDepth 100000 in
set_option maxHeartbeats 2000000 in
theorem n_treeAt (px py : Int) (h : TreeB w base top tb L) : Calls Tryz.prog 38 #[.pointer (some ⟨tb, 0, none⟩), pt px py] w fun e w' => (∃ v, e = .returned v ∧ IOwn w w' v (scanB (inB px py) L)) ∧ Junk w w' := by
  have HT := Lib.hid h
  have HF := Lib.hid (fun (gk : Nat) (W : World) (hW : TreeB W base top tb L) (c0 : W.cell? ⟨gk, 0, none⟩ = some (.int .i64 px)) (c1 : W.cell? ⟨gk, 1, none⟩ = some (.int .i64 py)) =>
      show Calls Tryz.prog 57 #[.pointer (some ⟨tb, 0, none⟩), .func (.func 58) #[] #[.pointer (some ⟨gk, 0, none⟩)]] W fun e w' => (∃ v, e = .returned v ∧ IOwn W w' v (scanB (inB px py) L)) ∧ Junk W w' by
    have hl := n_treeLen hW
    obtain ⟨_, _, _, h4⟩ := hW
    rcases h4 with ⟨rfl, d0, d2⟩ | ⟨bb, ob, n, cb, co, N, hb, ho, hT, hG⟩
    · refine (n_btFind0 _ _ W hl).mono ?_
      rintro e w' ⟨rfl, rfl⟩
      exact ⟨⟨_, rfl, iown_nil _ _⟩, ⟨#[], _, (plus_nil _).symm⟩⟩
    · refine n_btFind (inB px py) (mono_in px py) 58 gk hT ⟨enters_of Tryz.func58 (by kernel_rfl) rfl, fun W' hb x1 x2 x3 x4 => ?_⟩ hG (ordB_perm L)
      have k := hb.block gk (World.block_lt_of_cell? _ _ c0)
      exact n_btAt1 px py x1 x2 x3 x4 gk W' ((World.cell?_of_block (a := ⟨gk, 0, none⟩) k).trans c0) ((World.cell?_of_block (a := ⟨gk, 1, none⟩) k).trans c1))
  clear h
  unfold pt
  go_enter Tryz.func38, Tryz.ntmps38
  go_wp2_with (go_at_call 57; refine (HF.out _ _ (HT.out.below (by ((try simp only [← Array.append_assoc]); repeat' first | with_reducible (first | apply Below.refl | assumption | apply bw_a | apply bw_d | apply bw_n | apply bw_e | apply bw_s | apply bw_p | apply bw_c | apply bw_r) | go_size))) (by simp [go_sem]) (by simp [go_sem])).mono ?_; rintro e w1 ⟨⟨v, rfl, ho⟩, J1, d1, rfl⟩; have HO := Lib.hid ho; clear ho)
  go_ret
  exact ⟨⟨_, rfl, iown_base HO.out (by simp)⟩, junk_of_below (by (repeat' first | with_reducible (first | apply Below.refl | assumption | apply bw_a | apply bw_d | apply bw_n | apply bw_p | apply bw_c | apply bw_r) | go_size))⟩
end
end

section
set_option linter.unusedVariables false
set_option linter.unusedSimpArgs false
open Go.RowKit Go.Shelf
def DpAt (W : World) (T : Nat) (v pv : Value) (wr : World) : Prop := ∃ (c k first node : Nat) (y : Bool) (g : Nat), v = .int .i64 (k : Int) ∧ pv = .pointer (some ⟨g, 0, none⟩) ∧ 0 < c ∧ c ≤ 1000 ∧ k + depthF c = T + 1 ∧ first + c ≤ 1000 ∧ node + c ≤ 2000 ∧ W.heap.size ≤ g ∧ wr.rowAt g = some #[.int .i64 (first : Int), .int .i64 (c : Int), .int .i64 (node : Int), .bool y] ∧ Below W.heap.size W wr
section
variable {w : World} {base top tb : Nat} {L : List Bx}
def bxAt (L : List Bx) (i : Int) : Value := if 0 ≤ i ∧ i < L.length then .tuple #[bvB (L.getD i.toNat Bx0), .int .i64 0] else .tuple #[bvB Bx0, .int .i64 6]
end
end

section
set_option linter.unusedVariables false
set_option linter.unusedSimpArgs false
open Go.RowKit
def zeroBx : Array Value := #[.int .i64 0, .int .i64 0, .int .i64 0, .int .i64 0]
theorem zero_cells_at (k j : Nat) (h : j < k * 4) : (Builtin.zeroCells zeroBx k)[j]? = some (.int .i64 0) := by
  unfold Builtin.zeroCells
  rw [Array.getElem?_map, Array.getElem?_eq_getElem (by simpa [zeroBx] using h)]
  simp only [Array.getElem_range, Option.map_some]
  show some (zeroBx[j % 4]!) = _
  have : j % 4 = 0 ∨ j % 4 = 1 ∨ j % 4 = 2 ∨ j % 4 = 3 := by omega
  rcases this with e | e | e | e <;> rw [e] <;> rfl
theorem boxcells_zero (k j : Nat) (h : j < k * 4) : (boxcells (List.replicate k Bx0))[j]? = some (.int .i64 0) := by
  obtain ⟨m1, m2, m3, m4⟩ := boxcells_at (List.replicate k Bx0) (j / 4) (by rw [List.length_replicate]; omega)
  have e : (List.replicate k Bx0).getD (j / 4) Bx0 = Bx0 := by
    rw [List.getD_eq_getElem?_getD, List.getElem?_replicate, if_pos (by omega)]; rfl
  rw [e] at m1 m2 m3 m4
  have : j = j / 4 * 4 ∨ j = j / 4 * 4 + 1 ∨ j = j / 4 * 4 + 2 ∨ j = j / 4 * 4 + 3 := by omega
  rcases this with e | e | e | e <;> rw [e] <;> assumption
theorem zero_cells (k : Nat) : Builtin.zeroCells zeroBx k = (boxcells (List.replicate k Bx0)).toArray := by
  apply Array.ext_getElem?
  intro j
  by_cases h : j < k * 4
  · rw [zero_cells_at k j h]
    simpa using (boxcells_zero k j h).symm
  · rw [Array.getElem?_eq_none (by rw [size_zeroCells]; show k * 4 ≤ j; omega), Array.getElem?_eq_none (by
      rw [List.size_toArray, boxcells_len, List.length_replicate]; omega)]
theorem append_make (w : World) (base : Nat) (ty : TypeId) (v : Value) (n k : Nat) (xs : List Value) (hown : w.ownsRow base 67 4 v n xs) (hn : 0 < n) (hk : 0 < k) (hl : n + k ≤ 100000) (hb : base ≤ w.heap.size) :
    ∃ v' w', (Builtin.append_ #[65, 3] ty #[v, .int .i64 (k : Int)]).run Tryz.prog w = .ok v' w' ∧ w'.ownsRow base 67 4 v' (n + k) (xs ++ boxcells (List.replicate k Bx0)) ∧ w.grownBy w' v.ownBlock := by
  obtain ⟨i0, hi0, hz0, hz1, hz2⟩ := info_bx
  have hn1 : (boxcells (List.replicate k Bx0)).length = k * 4 := by rw [boxcells_len, List.length_replicate]
  obtain ⟨hxl, h2⟩ := hown
  rcases h2 with ⟨rfl, h0⟩ | ⟨g, cap, cur, rfl, hg, hc, hnc, hcap, hcs, ht⟩
  · omega
  have hown : w.ownsRow base 67 4 (.slice (some ⟨g, 0, none⟩) n cap) n xs := ⟨hxl, .inr ⟨g, cap, cur, rfl, hg, hc, hnc, hcap, hcs, ht⟩⟩
  have hlen : (xs ++ boxcells (List.replicate k Bx0)).length = (n + k) * 4 := by rw [List.length_append, hxl, hn1]; omega
  by_cases hroom : n + k ≤ cap
  · have hw : IntKind.i64.wrap (k : Int) = k := by rw [IntKind.wrap_i64]; omega
    have hneg : ¬ ((k : Int) < 0) := by omega
    have h48i : ¬ (281474976710656 < (k : Int) * (i0.bytes : Int)) := by rw [hz2]; omega
    have hns : ¬ (k * i0.size = 0) := by rw [hz1]; omega
    have hst := run_storeCells_at Tryz.prog g (n * 4) 67 (boxcells (List.replicate k Bx0)) 0 cur w hc (by rw [hn1, hcs]; omega) (boxcells_one _)
    simp only [Nat.add_zero] at hst
    have hzc : (Value.agg zeroBx).cells = zeroBx := rfl
    have hr : (Builtin.append_ #[65, 3] ty #[.slice (some ⟨g, 0, none⟩) n cap, .int .i64 (k : Int)]).run Tryz.prog w = .ok (.slice (some ⟨g, 0, none⟩) (n + k) cap)
        (w.setRow g (cur.toList.take (n * 4) ++ boxcells (List.replicate k Bx0) ++ cur.toList.drop (n * 4 + (boxcells (List.replicate k Bx0)).length)).toArray) := by
      rw [hz1] at hns
      simp [Builtin.append_, run_underlying Tryz.underlying65, run_underlying Tryz.underlying3, sizeOf, typeInfo, zeroValue, hi0, hz0, hz1, asInt, asIntOf, hw, hneg, hns, h48i, hroom, Addr.add_lit]
      rw [show #[Value.int IntKind.i64 0, Value.int IntKind.i64 0, Value.int IntKind.i64 0, Value.int IntKind.i64 0] = zeroBx from rfl, hzc, zero_cells]
      simp [hst]
    refine ⟨_, _, hr, ⟨hlen, .inr ⟨g, cap, _, rfl, hg, setRow_heap w g cur _ _ _ hc, hroom, hcap, ?_, ?_⟩⟩, ⟨rfl, rfl, rfl, by simp, fun k _ hk => setRow_other w g k _ (fun e => hk (by simp [Value.ownBlock, e]))⟩⟩
    · simp only [List.size_toArray, List.length_append, List.length_take, List.length_drop, Array.length_toList, hn1]
      omega
    · rw [ht, ← hlen]
      exact List.take_left
  · have hcells := hown.cells (g := g) rfl
    have hold := run_firstCells_some (P := Tryz.prog) w.drew i0.size n ⟨g, 0, none⟩ n cap xs (by rw [hz1]; exact hxl) (by simpa using hcells)
    have hr := Lib.run_append_grow_zeros w 65 3 ty 67 i0 _ .i64 .i64 Tryz.underlying65 Tryz.underlying3 hi0 hz0 (some ⟨g, 0, none⟩) n cap xs hold k hk (by rw [hz1]; decide) (by omega) (by omega) (by rw [hz2]; omega) (by rw [hz2]; exact growslice_fits (by omega) (by omega))
    have hge := grownCap_ge w (n + k) cap 67
    have hcm := grownCap_le_maxLen w (n + k) cap 67 (by unfold maxLen; omega)
    refine ⟨_, _, hr, ⟨hlen, .inr ⟨w.heap.size, _, _, rfl, hb, heap_alloc_new w.drew _, hge, hcm, ?_, ?_⟩⟩, ⟨rfl, rfl, rfl, by simp, fun k hk _ => heap_alloc_old w.drew _ hk⟩⟩
    · have hzc : (Value.agg #[.int .i64 0, .int .i64 0, .int .i64 0, .int .i64 0]).cells.size = 4 := rfl
      simp only [Array.size_append, List.size_toArray, size_zeroCells, hzc, hxl]
      omega
    · rw [show (Value.agg #[.int .i64 0, .int .i64 0, .int .i64 0, .int .i64 0]).cells = zeroBx from rfl, zero_cells]
      simp only [Array.toList_append, List.append_assoc]
      rw [← List.append_assoc, ← hlen]
      exact List.take_left
set_option maxRecDepth 100000 in
set_option maxHeartbeats 2000000 in
theorem n_btClone (w : World) (a : Option Addr) (n ca : Nat) (L : List Bx) (hr : XReads w a n L) (hok : SOk a n ca) (hm : n ≤ 100000) :
    Calls Tryz.prog 47 #[.slice a n ca] w fun e w' => (∃ v, e = .returned v ∧ w'.ownsRow w.heap.size 67 4 v n (boxcells L)) ∧ Below w.heap.size w w' := by
  have hnil : ∀ (w : World) (a : Option Addr) (n c n' c' : Nat), (binOp .eql 65 (.slice a n c) (.slice none n' c')).run Tryz.prog w = .ok (.bool a.isNone) w := fun w a n c n' c' => Lib.run_eql_slice_nil w _ _ a n c n' c' Tryz.underlying65
  cases a with
  | none =>
    have h1 := hok.le
    have h2 := hok.nil rfl
    obtain rfl : n = 0 := by omega
    have hL : L = [] := List.eq_nil_of_length_eq_zero hr.1
    subst hL
    clear hr hok
    go_enter Tryz.func47, Tryz.ntmps47
    go_wp2
    go_ret
    exact ⟨⟨_, rfl, xnil_owns _ _⟩, Below.refl _ _⟩
  | some ad =>
    have HR := Lib.hid hr
    have HK := Lib.hid hok
    clear hr hok
    go_enter Tryz.func47, Tryz.ntmps47
    go_wp2_with (at_builtin; refine wpList_xcopy rfl (.tmp 5) (.tmp 6) rfl rfl (some ad) n ca L rfl HK.out HR.out (by omega) ?_; intro v' w' hc')
    go_ret
    exact ⟨⟨_, rfl, hc'.1⟩, hc'.2⟩
end
end Go.Proofs.YthphdiigjimchaaGreat

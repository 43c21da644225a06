/- The law BoxtreeFinds: the walk. -/
import Derived.Test.YtnpkhhchbahcpaaBnLaw
namespace Go.Proofs.Ytnpkhhchbahcpaa
set_option linter.unusedVariables false
set_option linter.unusedSimpArgs false
open Go.RowKit

/-- Loop 1, between two rounds: what was handed in still reads from the k-th box on. -/
def FiA (W1 : World) (g n : Nat) (L : List Bx) (x : Value) (wr : World) : Prop := ∃ k : Nat, x = .int .i64 (k : Int) ∧ k ≤ n ∧ Kept2 g g W1 wr ∧
  ∀ i, k ≤ i → i < n → (wr.cell? ⟨g, i * 4, none⟩ = some (.int .i64 (L.getD i Bx0).1) ∧ wr.cell? ⟨g, i * 4 + 1, none⟩ = some (.int .i64 (L.getD i Bx0).2.1) ∧ wr.cell? ⟨g, i * 4 + 2, none⟩ = some (.int .i64 (L.getD i Bx0).2.2.1) ∧ wr.cell? ⟨g, i * 4 + 3, none⟩ = some (.int .i64 (L.getD i Bx0).2.2.2)) ∧
    ∀ j, wr.frozen? ⟨g, i * 4 + j, none⟩ = false
/-- Loops 2 and 3. -/
def FiB (W : World) (n : Nat) (x : Value) (wr : World) : Prop := ∃ k : Nat, x = .int .i64 (k : Int) ∧ k ≤ n ∧ Below W.heap.size W wr
/-- Loop within loop 2: what was told is written over. -/
def FiC (W : World) (g n : Nat) (x : Value) (wr : World) : Prop := ∃ k : Nat, x = .int .i64 (k : Int) ∧ k ≤ n ∧ Kept2 g g W wr ∧ ∀ i, k ≤ i → i < n → (∃ v, wr.cell? ⟨g, i, none⟩ = some v) ∧ wr.frozen? ⟨g, i, none⟩ = false
theorem dn_cell (w : World) (q : Nat) (a : Addr) : (w.drewN q).cell? a = w.cell? a := rfl
theorem dn_frozen (w : World) (q : Nat) (a : Addr) : (w.drewN q).frozen? a = w.frozen? a := rfl
theorem dn_heap (w : World) (q j : Nat) : (w.drewN q).heap[j]? = w.heap[j]? := rfl
theorem dn_size (w : World) (q : Nat) : (w.drewN q).heap.size = w.heap.size := rfl
theorem fia_next {W1 wr : World} {g n k : Nat} {L : List Bx} (hk : k < n) (hK : Kept2 g g W1 wr)
    (hc : ∀ i, k ≤ i → i < n → (wr.cell? ⟨g, i * 4, none⟩ = some (.int .i64 (L.getD i Bx0).1) ∧ wr.cell? ⟨g, i * 4 + 1, none⟩ = some (.int .i64 (L.getD i Bx0).2.1) ∧ wr.cell? ⟨g, i * 4 + 2, none⟩ = some (.int .i64 (L.getD i Bx0).2.2.1) ∧ wr.cell? ⟨g, i * 4 + 3, none⟩ = some (.int .i64 (L.getD i Bx0).2.2.2)) ∧ ∀ j, wr.frozen? ⟨g, i * 4 + j, none⟩ = false)
    (u1 u2 u3 u4 : Value) (q : Nat) : FiA W1 g n L (.int .i64 ((k + 1 : Nat) : Int)) ((s4W wr g (k * 4) u1 u2 u3 u4).drewN q) := by
  have hh : ∀ j, ((s4W wr g (k * 4) u1 u2 u3 u4).drewN q).heap[j]? = (s4W wr g (k * 4) u1 u2 u3 u4).heap[j]? := fun j => dn_heap _ _ _
  have hs : ((s4W wr g (k * 4) u1 u2 u3 u4).drewN q).heap.size = wr.heap.size := by rw [dn_size]; unfold s4W; simp
  have hb : Below 0 wr ((s4W wr g (k * 4) u1 u2 u3 u4).drewN q) := by unfold s4W; (repeat' (first | (with_reducible exact Below.refl _ _) | (with_reducible assumption) | (with_reducible refine Below.alloc ?_ ?_ _) | (with_reducible refine Below.drew ?_) | (with_reducible refine below_drewN ?_ _) | (with_reducible refine below_plus ?_ ?_ _ _) | (with_reducible refine Below.setCell ?_ ?_ _) | (with_reducible refine Below.setRow ?_ ?_ _) | go_size))
  refine ⟨k + 1, rfl, hk, hK.trans ⟨hb, fun j hj h1 _ => (hh j).trans (s4_heap h1 u1 u2 u3 u4)⟩, fun i h1 h2 => ?_⟩
  obtain ⟨⟨c1, c2, c3, c4⟩, hf⟩ := hc i (by omega) h2
  exact ⟨⟨(dn_cell _ _ _).trans ((s4_miss (by omega) u1 u2 u3 u4).trans c1), (dn_cell _ _ _).trans ((s4_miss (by omega) u1 u2 u3 u4).trans c2), (dn_cell _ _ _).trans ((s4_miss (by omega) u1 u2 u3 u4).trans c3), (dn_cell _ _ _).trans ((s4_miss (by omega) u1 u2 u3 u4).trans c4)⟩,
    fun j => (dn_frozen _ _ _).trans ((s4_frozen u1 u2 u3 u4).trans (hf j))⟩
theorem own_row4 {w : World} {base : Nat} {v : Value} {n : Nat} {L : List Bx} (h : w.ownsRow base 33 4 v n (boxcells L)) (hL : L.length = n) (h0 : 0 < n) : ∃ g c, v = .slice (some ⟨g, 0, none⟩) n c ∧ base ≤ g ∧ g < w.heap.size ∧
    (∀ i, i < n → w.cell? ⟨g, i * 4, none⟩ = some (.int .i64 (L.getD i Bx0).1) ∧ w.cell? ⟨g, i * 4 + 1, none⟩ = some (.int .i64 (L.getD i Bx0).2.1) ∧ w.cell? ⟨g, i * 4 + 2, none⟩ = some (.int .i64 (L.getD i Bx0).2.2.1) ∧ w.cell? ⟨g, i * 4 + 3, none⟩ = some (.int .i64 (L.getD i Bx0).2.2.2)) ∧
    ∀ j, w.frozen? ⟨g, j, none⟩ = false := by
  have h' := h
  obtain ⟨_, h2⟩ := h
  rcases h2 with ⟨rfl, rfl⟩ | ⟨g, cap, cur, rfl, hg, hc, hnc, hcap, hcs, ht⟩
  · omega
  have hcell : ∀ j u, (boxcells L)[j]? = some u → w.cell? ⟨g, j, none⟩ = some u := fun j u hu => by
    have := h'.cells (g := g) rfl j u hu
    have ha : (⟨g, 0, none⟩ : Addr).add j = ⟨g, j, none⟩ := by unfold Addr.add; split <;> simp_all
    rw [ha] at this
    exact this
  refine ⟨g, cap, rfl, hg, heap_lt hc, fun i hi => ?_, fun j => by simp [World.frozen?, hc]⟩
  obtain ⟨m1, m2, m3, m4⟩ := boxcells_at L i (by omega)
  exact ⟨hcell _ _ m1, hcell _ _ m2, hcell _ _ m3, hcell _ _ m4⟩
theorem own_row1 {w : World} {base : Nat} {v : Value} {n : Nat} {l : List Nat} (h : w.ownsRow base 3 1 v n (ints (nums l))) (hL : l.length = n) (h0 : 0 < n) : ∃ g c, v = .slice (some ⟨g, 0, none⟩) n c ∧ base ≤ g ∧ g < w.heap.size ∧ (∀ i, i < n → ∃ u, w.cell? ⟨g, i, none⟩ = some u) ∧ ∀ j, w.frozen? ⟨g, j, none⟩ = false := by
  have h' := h
  obtain ⟨_, h2⟩ := h
  rcases h2 with ⟨rfl, rfl⟩ | ⟨g, cap, cur, rfl, hg, hc, hnc, hcap, hcs, ht⟩
  · omega
  refine ⟨g, cap, rfl, hg, heap_lt hc, fun i hi => ?_, fun j => by simp [World.frozen?, hc]⟩
  have hl2 : (ints (nums l)).length = n := by unfold ints nums; rw [List.length_map, List.length_map]; exact hL
  have := h'.cells (g := g) rfl i ((ints (nums l))[i]'(by omega)) (List.getElem?_eq_getElem (by omega))
  have ha : (⟨g, 0, none⟩ : Addr).add i = ⟨g, i, none⟩ := by unfold Addr.add; split <;> simp_all
  rw [ha] at this
  exact ⟨_, this⟩
theorem fic_next {W wr : World} {g n k : Nat} (hk : k < n) (hK : Kept2 g g W wr) (hc : ∀ i, k ≤ i → i < n → (∃ v, wr.cell? ⟨g, i, none⟩ = some v) ∧ wr.frozen? ⟨g, i, none⟩ = false) (u : Value) : FiC W g n (.int .i64 ((k + 1 : Nat) : Int)) (wr.setCell ⟨g, k, none⟩ u) := by
  have hb : Below 0 wr (wr.setCell ⟨g, k, none⟩ u) := by (repeat' (first | (with_reducible exact Below.refl _ _) | (with_reducible assumption) | (with_reducible refine Below.alloc ?_ ?_ _) | (with_reducible refine Below.drew ?_) | (with_reducible refine below_drewN ?_ _) | (with_reducible refine below_plus ?_ ?_ _ _) | (with_reducible refine Below.setCell ?_ ?_ _) | (with_reducible refine Below.setRow ?_ ?_ _) | go_size))
  refine ⟨k + 1, rfl, hk, hK.trans ⟨hb, fun j hj h1 _ => Below.heap_setCell _ _ _ j h1⟩, fun i h1 h2 => ?_⟩
  obtain ⟨⟨v, hv⟩, hf⟩ := hc i (by omega) h2
  refine ⟨⟨v, ?_⟩, by rw [World.frozen?_setCell]; exact hf⟩
  rw [World.cell?_setCell_other _ _ _ _ (fun e => by injection e with _ e _; omega)]
  exact hv
theorem xrc_of_owns {w : World} {base : Nat} {v : Value} {n : Nat} {L : List Bx} (h : w.ownsRow base 33 4 v n (boxcells L)) : ∃ a c, v = .slice a n c ∧ XRC w a n c L := by
  obtain ⟨a, c, e, h1, h2⟩ := xreads_of_owns h
  exact ⟨a, c, e, h1, h2⟩

set_option maxRecDepth 100000 in
set_option maxHeartbeats 8000000 in
theorem l_boxtreeFinds (w : World) (a : Option Addr) (n ca : Nat) (L : List Bx) (hX : XRC w a n ca L) (hin : InBs L) (hs : n ≤ 9223372036854775807) (hz : a = none → n = 0 ∧ ca = 0)
    (pa : Option Addr) (pn pc : Nat) (K : List Pt) (hP : PRC w pa pn pc K) (hps : pn ≤ 9223372036854775807) (hpz : pa = none → pn = 0 ∧ pc = 0)
    (xa : Option Addr) (xn xc : Nat) (M : List Bx) (hM : XRC w xa xn xc M) (hMin : InBs M) (hxs : xn ≤ 9223372036854775807) (hxz : xa = none → xn = 0 ∧ xc = 0) :
    Calls Try.prog 3 #[.slice a n ca, .slice pa pn pc, .slice xa xn xc] w fun e w' => e = .returned (.bool true) ∧ Junk w w' := by
  have HAw := Lib.hid l_btAwake
  by_cases hbig : 120 < n ∨ 20 < pn ∨ 20 < xn
  · clear hX hin hP hM hMin hz hpz hxz hs hps hxs
    by_cases h1 : 120 < n
    · have i1 : (n : Int) > 120 := by omega
      have i2 : (120 : Int) < (n : Int) := by omega
      go_enter Try.func3, Try.ntmps3
      go_wp2_with (go_at_call 10; refine (HAw.out _).mono ?_; rintro e w1 ⟨rfl, J1, d1, rfl⟩)
      go_ret
      exact ⟨rfl, junk_of_below (by (repeat' (first | (with_reducible exact Below.refl _ _) | (with_reducible assumption) | (with_reducible refine Below.alloc ?_ ?_ _) | (with_reducible refine Below.drew ?_) | (with_reducible refine below_drewN ?_ _) | (with_reducible refine below_plus ?_ ?_ _ _) | (with_reducible refine Below.setCell ?_ ?_ _) | (with_reducible refine Below.setRow ?_ ?_ _) | go_size)))⟩
    · have i1 : ¬ (n : Int) > 120 := by omega
      by_cases h2 : 20 < pn
      · have i2 : (pn : Int) > 20 := by omega
        go_enter Try.func3, Try.ntmps3
        go_wp2_with (go_at_call 10; refine (HAw.out _).mono ?_; rintro e w1 ⟨rfl, J1, d1, rfl⟩)
        go_ret
        exact ⟨rfl, junk_of_below (by (repeat' (first | (with_reducible exact Below.refl _ _) | (with_reducible assumption) | (with_reducible refine Below.alloc ?_ ?_ _) | (with_reducible refine Below.drew ?_) | (with_reducible refine below_drewN ?_ _) | (with_reducible refine below_plus ?_ ?_ _ _) | (with_reducible refine Below.setCell ?_ ?_ _) | (with_reducible refine Below.setRow ?_ ?_ _) | go_size)))⟩
      · have i2 : ¬ (pn : Int) > 20 := by omega
        have i3 : (xn : Int) > 20 := by omega
        go_enter Try.func3, Try.ntmps3
        go_wp2_with (go_at_call 10; refine (HAw.out _).mono ?_; rintro e w1 ⟨rfl, J1, d1, rfl⟩)
        go_ret
        exact ⟨rfl, junk_of_below (by (repeat' (first | (with_reducible exact Below.refl _ _) | (with_reducible assumption) | (with_reducible refine Below.alloc ?_ ?_ _) | (with_reducible refine Below.drew ?_) | (with_reducible refine below_drewN ?_ _) | (with_reducible refine below_plus ?_ ?_ _ _) | (with_reducible refine Below.setCell ?_ ?_ _) | (with_reducible refine Below.setRow ?_ ?_ _) | go_size)))⟩
  have i1 : ¬ (n : Int) > 120 := by omega
  have i2 : ¬ (pn : Int) > 20 := by omega
  have i3 : ¬ (xn : Int) > 20 := by omega
  have hn : n ≤ 120 := by omega
  have hpn : pn ≤ 20 := by omega
  have hxn : xn ≤ 20 := by omega
  have hL := hX.rd.1
  have HX := Lib.hid hX
  have HP := Lib.hid hP
  have HM := Lib.hid hM
  have HL := Lib.hid hL
  have HB := Lib.hid (fun (W : World) (v : Option Addr) c (h : XRC W v n c L) => build_lit W v n c L h hin (by omega))
  have HLn := Lib.hid (fun W B T tb (h : TreeB W B T tb L) => show Calls Try.prog 12 #[.pointer (some ⟨tb, 0, none⟩)] W fun e w' => e = .returned (.int .i64 (n : Int)) ∧ w' = W by
    have := n_treeLen h
    rw [hL] at this
    exact this)
  clear hX hP hM hin hMin hz hpz hxz hs hps hxs hbig hL
  go_enter Try.func3, Try.ntmps3
  go_wp2_with (first
    | (at_builtin; refine wpList_xcopy rfl (.tmp 29) (.tmp 30) rfl rfl a n ca L rfl HX.out.ok HX.out.rd (by omega) ?_; intro v' w' hc'; obtain ⟨ga, gc, rfl, hxr⟩ := xrc_of_owns hc'.1; have HXR := Lib.hid hxr; have HOw := Lib.hid hc'.1; have HBe := Lib.hid hc'.2; clear hc' hxr)
    | (go_at_call 11; refine (HB.out _ _ _ HXR.out).mono ?_; rintro e w1 ⟨⟨tb, B, T, rfl, ht, hB⟩, J1, d1, rfl⟩; have HT := Lib.hid ht; have HBB := Lib.hid hB; clear ht hB)
    | (go_at_call 12; refine (HLn.out _ B T tb (HT.out.below (by ((try simp only [← Array.append_assoc]); repeat' (first | (with_reducible exact Below.refl _ _) | (with_reducible assumption) | (with_reducible refine Below.alloc ?_ ?_ _) | (with_reducible refine Below.drew ?_) | (with_reducible refine below_drewN ?_ _) | (with_reducible exact below_d _ _ _ _ _) | (with_reducible refine below_snoc _ _ ?_ ?_) | (with_reducible refine below_plus ?_ ?_ _ _) | (with_reducible refine Below.setCell ?_ ?_ _) | (with_reducible refine Below.setRow ?_ ?_ _) | go_size))))).mono ?_; rintro e w1 ⟨rfl, hw⟩; rw [hw]; clear hw))
  obtain ⟨W1, hW1⟩ : ∃ W, w'.plus J1 d1 = W := ⟨_, rfl⟩
  have hjp : Below w'.heap.size w' W1 := by rw [← hW1]; exact Junk.below ⟨J1, d1, rfl⟩
  have hg : ∃ g, w.heap.size ≤ g ∧ ¬ (B ≤ g ∧ g < T) ∧ (0 < n → ga = some ⟨g, 0, none⟩) ∧ ∀ i, i < n → (W1.cell? ⟨g, i * 4, none⟩ = some (.int .i64 (L.getD i Bx0).1) ∧ W1.cell? ⟨g, i * 4 + 1, none⟩ = some (.int .i64 (L.getD i Bx0).2.1) ∧ W1.cell? ⟨g, i * 4 + 2, none⟩ = some (.int .i64 (L.getD i Bx0).2.2.1) ∧ W1.cell? ⟨g, i * 4 + 3, none⟩ = some (.int .i64 (L.getD i Bx0).2.2.2)) ∧
      ∀ j, W1.frozen? ⟨g, i * 4 + j, none⟩ = false := by
    by_cases h0 : 0 < n
    · obtain ⟨g, c, e, h1, h2, h3, h4⟩ := own_row4 HOw.out HL.out h0
      injection e with e _ _
      have k := hjp.block g h2
      refine ⟨g, h1, fun h => by have := HBB.out; omega, fun _ => e, fun i hi => ⟨?_, fun j => (frozen_of_block k).trans (h4 _)⟩⟩
      obtain ⟨m1, m2, m3, m4⟩ := h3 i hi
      exact ⟨(World.cell?_of_block (a := ⟨g, _, none⟩) k).trans m1, (World.cell?_of_block (a := ⟨g, _, none⟩) k).trans m2, (World.cell?_of_block (a := ⟨g, _, none⟩) k).trans m3, (World.cell?_of_block (a := ⟨g, _, none⟩) k).trans m4⟩
    · obtain ⟨q1, q2, q3, _⟩ := HT.out
      exact ⟨T, by have := HBB.out; have := HBe.out.size; omega, by omega, fun h => absurd h h0, fun i hi => by omega⟩
  obtain ⟨g, hg1, hg2, hg3, hg4⟩ := hg
  have HT1 := Lib.hid (show TreeB W1 B T tb L from by rw [← hW1]; exact HT.out)
  have HB1 := Lib.hid (show Below w.heap.size w W1 from HBe.out.trans (hjp.mono HBe.out.size))
  have HG1 := Lib.hid hg1
  have HG2 := Lib.hid hg2
  have HG3 := Lib.hid hg3
  have HG4 := Lib.hid hg4
  rw [hW1]
  clear hW1 hjp hg1 hg2 hg3 hg4 HXR HOw HBe HT HBB
  go_loopw [10] (fun x wr => FiA W1 g n L x wr) (fun x _ => n - (intOf x).toNat)
  case atStart => exact ⟨0, rfl, Nat.zero_le _, Kept2.refl _ _ _, fun i _ hi => HG4.out i hi⟩
  case round =>
    obtain ⟨k, rfl, hk, hK, hc⟩ := hrel
    have HKp := Lib.hid hK
    have HCe := Lib.hid hc
    by_cases hlt : k < n
    · obtain ⟨⟨c1, c2, c3, c4⟩, hfz⟩ := hc k (Nat.le_refl _) hlt
      have f0 := hfz 0
      have f1 := hfz 1
      have f2 := hfz 2
      have f3 := hfz 3
      rw [Nat.add_zero] at f0
      have hga := HG3.out (by omega)
      subst hga
      obtain ⟨bl, ol, x1, x2, x3, x4, ea, ex, b1, b2, b3, b4, lbl⟩ := xreads_at HX.out.rd (k := k) hlt
      subst ea
      rw [ex] at c1 c2 c3 c4
      simp only at c1 c2 c3 c4
      have hbg : bl ≠ g := by have := HG1.out; omega
      have kb : wr.heap[bl]? = w.heap[bl]? := (hK.blk bl (Nat.lt_of_lt_of_le lbl HB1.out.size) hbg hbg).trans (HB1.out.block bl lbl)
      replace b1 := (World.cell?_of_block (a := ⟨bl, _, none⟩) kb).trans b1
      replace b2 := (World.cell?_of_block (a := ⟨bl, _, none⟩) kb).trans b2
      replace b3 := (World.cell?_of_block (a := ⟨bl, _, none⟩) kb).trans b3
      replace b4 := (World.cell?_of_block (a := ⟨bl, _, none⟩) kb).trans b4
      have l1 := World.block_lt_of_cell? _ _ c1
      have l2 := World.block_lt_of_cell? _ _ b1
      have i4 : (k : Int) < (n : Int) := by omega
      clear hK hc hfz ex kb lbl
      go_upto_region 10 with fail
      go_quiet (fail)
      go_wp2_with fail
      go_roundw
      case rel =>
        have h := fia_next hlt HKp.out HCe.out (.int .i64 0) (.int .i64 0) (.int .i64 1099511627776) (.int .i64 1099511627776) nq
        have e : ((k + 1 : Nat) : Int) = (k : Int) + 1 := by omega
        rw [e] at h
        exact h
      case measure => simp [intOf]; omega
    · obtain rfl : n = k := by omega
      have hJ := Lib.hid (HB1.out.trans (HKp.out.below HG1.out HG1.out HB1.out.size))
      have hT2 := Lib.hid (HT1.out.keep HKp.out.size fun j h1 h2 => HKp.out.blk j (by have := HT1.out.2.2.1; omega) (fun e => HG2.out (by omega)) (fun e => HG2.out (by omega)))
      obtain ⟨W2, rfl⟩ : ∃ W2, W2 = wr := ⟨_, rfl⟩
      clear hK hc HKp HCe HG1 HG2 HG3 HG4 HT1 HB1 hk hlt
      go_wp2_with fail
      have HA := Lib.hid (fun (W : World) px py (h : TreeB W B T tb L) => n_treeAt px py h)
      have HRA := Lib.hid (fun (W : World) px py (h : XRC W a n ca L) => r_btAt px py W a n ca L h.rd (by omega))
      have hsl : ∀ q, (scanB q L).length ≤ 120 := fun q => by
        have h := List.length_filter_le (fun i => q (L.getD i Bx0)) (List.range L.length)
        rw [List.length_range] at h
        have h2 : (scanB q L).length ≤ L.length := h
        rw [HL.out] at h2
        exact Nat.le_trans h2 hn
      have hsm : ∀ q, ∀ i ∈ scanB q L, i < 1000000 := fun q => scan_lt (by rw [HL.out]; omega)
      have HSl := Lib.hid hsl
      have HSm := Lib.hid hsm
      have HXW := Lib.hid (HX.out.below hJ.out)
      have HPW := Lib.hid (HP.out.below hJ.out)
      have HMW := Lib.hid (HM.out.below hJ.out)
      clear hsl hsm HX HP HM HB HLn
      go_loopw [11] (fun x wr => FiB W2 pn x wr) (fun x _ => pn - (intOf x).toNat)
      case atStart => exact ⟨0, rfl, Nat.zero_le _, Below.refl _ _⟩
      case round =>
        obtain ⟨k, rfl, hk, hB⟩ := hrel
        have HBw := Lib.hid hB
        have hsz := hB.size
        by_cases hlt : k < pn
        · rcases HPW.out.rd.2 with h0 | ⟨bp, op, epa, hpc⟩
          · omega
          subst epa
          obtain ⟨p1, p2⟩ := hpc k hlt
          obtain ⟨⟨px, py⟩, hpt⟩ : ∃ q, K.getD k (0, 0) = q := ⟨_, rfl⟩
          rw [hpt] at p1 p2
          simp only at p1 p2
          have kb := hB.block bp (World.block_lt_of_cell? _ _ p1)
          replace p1 := (World.cell?_of_block (a := ⟨bp, _, none⟩) kb).trans p1
          replace p2 := (World.cell?_of_block (a := ⟨bp, _, none⟩) kb).trans p2
          have l1 := World.block_lt_of_cell? _ _ p1
          have i4 : (k : Int) < (pn : Int) := by omega
          have HA1 := Lib.hid (fun (W : World) (h : TreeB W B T tb L) => HA.out W px py h)
          have HR1 := Lib.hid (fun (W : World) (h : XRC W a n ca L) => HRA.out W px py h)
          have HS1 := Lib.hid (fun W x y c d h h2 => ints_self (scanB (inB px py) L) _ rfl (Nat.le_trans (HSl.out _) (by decide)) W x y c d h h2)
          have hlen := HSl.out (inB px py)
          have HMm := Lib.hid (HSm.out (inB px py))
          obtain ⟨wo, rfl⟩ : ∃ wo : World, wo = wr := ⟨_, rfl⟩
          generalize scanB (inB px py) L = S at *
          unfold pt at HA1 HR1
          clear hB hpc hpt kb
          go_wp2_with (first
            | (go_at_call 13; refine (HA1.out _ ((hT2.out.below HBw.out).below (by ((try simp only [← Array.append_assoc]); repeat' (first | (with_reducible exact Below.refl _ _) | (with_reducible assumption) | (with_reducible refine Below.alloc ?_ ?_ _) | (with_reducible refine Below.drew ?_) | (with_reducible refine below_drewN ?_ _) | (with_reducible exact below_d _ _ _ _ _) | (with_reducible refine below_snoc _ _ ?_ ?_) | (with_reducible refine below_plus ?_ ?_ _ _) | (with_reducible refine Below.setCell ?_ ?_ _) | (with_reducible refine Below.setRow ?_ ?_ _) | go_size))))).mono ?_; rintro e w3 ⟨⟨v, rfl, ho⟩, J3, d3, rfl⟩; obtain ⟨ax, cx, rfl, hrx, _⟩ := iown_reads ho HMm.out; have HOx := Lib.hid ho; have HRx := Lib.hid hrx; clear ho hrx)
            | (go_at_call 15; refine (HR1.out _ ((HXW.out.below HBw.out).below (by ((try simp only [← Array.append_assoc]); repeat' (first | (with_reducible exact Below.refl _ _) | (with_reducible assumption) | (with_reducible refine Below.alloc ?_ ?_ _) | (with_reducible refine Below.drew ?_) | (with_reducible refine below_drewN ?_ _) | (with_reducible exact below_d _ _ _ _ _) | (with_reducible refine below_snoc _ _ ?_ ?_) | (with_reducible refine below_plus ?_ ?_ _ _) | (with_reducible refine Below.setCell ?_ ?_ _) | (with_reducible refine Below.setRow ?_ ?_ _) | go_size))))).mono ?_; rintro e w4 ⟨⟨v, rfl, ho⟩, J4, d4, rfl⟩; obtain ⟨ay, cy, rfl, hry, _⟩ := iown_reads ho HMm.out; (try simp only [plus_of_drew, plus_plus, Array.append_assoc] at hry); have HRy := Lib.hid hry; clear ho hry)
            | (go_at_call 14; refine (HS1.out _ _ _ _ _ (HRx.out.below (by ((try simp only [← Array.append_assoc]); repeat' (first | (with_reducible exact Below.refl _ _) | (with_reducible assumption) | (with_reducible refine Below.alloc ?_ ?_ _) | (with_reducible refine Below.drew ?_) | (with_reducible refine below_drewN ?_ _) | (with_reducible exact below_d _ _ _ _ _) | (with_reducible refine below_snoc _ _ ?_ ?_) | (with_reducible refine below_plus ?_ ?_ _ _) | (with_reducible refine Below.setCell ?_ ?_ _) | (with_reducible refine Below.setRow ?_ ?_ _) | go_size)))) (HRy.out.below (by ((try simp only [← Array.append_assoc]); repeat' (first | (with_reducible exact Below.refl _ _) | (with_reducible assumption) | (with_reducible refine Below.alloc ?_ ?_ _) | (with_reducible refine Below.drew ?_) | (with_reducible refine below_drewN ?_ _) | (with_reducible exact below_d _ _ _ _ _) | (with_reducible refine below_snoc _ _ ?_ ?_) | (with_reducible refine below_plus ?_ ?_ _ _) | (with_reducible refine Below.setCell ?_ ?_ _) | (with_reducible refine Below.setRow ?_ ?_ _) | go_size))))).mono ?_; rintro e w5 ⟨rfl, J5, d5, rfl⟩))
          obtain ⟨Wi, hWi⟩ : ∃ W, wo.plus (J3 ++ (J4 ++ J5)) d5 = W := ⟨_, rfl⟩
          have hwi : Below wo.heap.size wo Wi := by rw [← hWi]; ((try simp only [← Array.append_assoc]); repeat' (first | (with_reducible exact Below.refl _ _) | (with_reducible assumption) | (with_reducible refine Below.alloc ?_ ?_ _) | (with_reducible refine Below.drew ?_) | (with_reducible refine below_drewN ?_ _) | (with_reducible exact below_d _ _ _ _ _) | (with_reducible refine below_snoc _ _ ?_ ?_) | (with_reducible refine below_plus ?_ ?_ _ _) | (with_reducible refine Below.setCell ?_ ?_ _) | (with_reducible refine Below.setRow ?_ ?_ _) | go_size))
          have hw3 : Below (wo.plus J3 d3).heap.size (wo.plus J3 d3) Wi := by rw [← hWi]; ((try simp only [← Array.append_assoc]); repeat' (first | (with_reducible exact Below.refl _ _) | (with_reducible assumption) | (with_reducible refine Below.alloc ?_ ?_ _) | (with_reducible refine Below.drew ?_) | (with_reducible refine below_drewN ?_ _) | (with_reducible exact below_d _ _ _ _ _) | (with_reducible refine below_snoc _ _ ?_ ?_) | (with_reducible refine below_plus ?_ ?_ _ _) | (with_reducible refine Below.setCell ?_ ?_ _) | (with_reducible refine Below.setRow ?_ ?_ _) | go_size))
          have hgx : ∃ gx, wo.heap.size ≤ gx ∧ (0 < S.length → ax = some ⟨gx, 0, none⟩) ∧ ∀ i, i < S.length → (∃ u, Wi.cell? ⟨gx, i, none⟩ = some u) ∧ Wi.frozen? ⟨gx, i, none⟩ = false := by
            by_cases h0 : 0 < S.length
            · obtain ⟨g, c, e, h1, h2, h3, h4⟩ := own_row1 HOx.out rfl h0
              injection e with e _ _
              have kx := hw3.block g h2
              refine ⟨g, h1, fun _ => e, fun i hi => ⟨?_, (frozen_of_block kx).trans (h4 _)⟩⟩
              obtain ⟨u, hu⟩ := h3 i hi
              exact ⟨u, (World.cell?_of_block (a := ⟨g, _, none⟩) kx).trans hu⟩
            · exact ⟨_, Nat.le_refl _, fun h => absurd h h0, fun i hi => by omega⟩
          obtain ⟨gx, hx1, hx2, hx3⟩ := hgx
          have HX1 := Lib.hid hx1
          have HX2 := Lib.hid hx2
          have HX3 := Lib.hid hx3
          have HWi := Lib.hid (HBw.out.trans (hwi.mono hsz))
          rw [hWi]
          clear hWi hwi hw3 hx1 hx2 hx3 HOx HRx HRy HBw p1 p2 l1 HA1 HR1 HS1
          obtain ⟨s, hsS⟩ : ∃ s, S.length = s := ⟨_, rfl⟩
          rw [hsS] at HX2 HX3 hlen ⊢
          clear hsS HMm
          go_wp2_with fail
          go_loopw [13] (fun x wr => FiC Wi gx s x wr) (fun x _ => s - (intOf x).toNat)
          case atStart => exact ⟨0, rfl, Nat.zero_le _, Kept2.refl _ _ _, fun i _ hi => HX3.out i hi⟩
          case round =>
            obtain ⟨j, rfl, hj, hK, hc⟩ := hrel
            have HKp := Lib.hid hK
            have HCe := Lib.hid hc
            by_cases hjl : j < s
            · obtain ⟨⟨u, c1⟩, f1⟩ := hc j (Nat.le_refl _) hjl
              have hax := HX2.out (by omega)
              subst hax
              have l1 := World.block_lt_of_cell? _ _ c1
              have i5 : (j : Int) < (s : Int) := by omega
              clear hK hc
              go_wp2_with fail
              go_roundw
              case rel =>
                have h := fic_next hjl HKp.out HCe.out (.int .i64 (-7))
                have e : ((j + 1 : Nat) : Int) = (j : Int) + 1 := by omega
                rw [e] at h
                exact h
              case measure => simp [intOf]; omega
            · obtain rfl : s = j := by omega
              have i5 : ¬ (s : Int) < (s : Int) := by omega
              have HN := Lib.hid (HWi.out.trans (HKp.out.below (show W2.heap.size ≤ gx by have := HX1.out; omega) (show W2.heap.size ≤ gx by have := HX1.out; omega) HWi.out.size))
              clear hK hc HKp HCe
              go_wp2_with fail
              go_roundw
              case rel => exact ⟨k + 1, by go_num, by omega, HN.out⟩
              case measure => simp [intOf]; omega
        · obtain rfl : pn = k := by omega
          have hJ3 := Lib.hid (hJ.out.trans (hB.mono hJ.out.size))
          have hT3 := Lib.hid (hT2.out.below hB)
          have HX3 := Lib.hid (HXW.out.below hB)
          have HM3 := Lib.hid (HMW.out.below hB)
          have HO := Lib.hid (fun (W : World) y1 y2 y3 y4 (h : TreeB W B T tb L) => n_treeOver y1 y2 y3 y4 h)
          have HRO := Lib.hid (fun (W : World) y1 y2 y3 y4 (h : XRC W a n ca L) => r_btOver y1 y2 y3 y4 W a n ca L h.rd (by omega))
          obtain ⟨W3, rfl⟩ : ∃ W3, W3 = wr := ⟨_, rfl⟩
          have i5 : ¬ (pn : Int) < (pn : Int) := by omega
          clear hB HBw hsz hlt hk HXW HPW HMW hT2 hJ HA HRA
          go_wp2_with fail
          go_loopw [14] (fun x wr => FiB W3 xn x wr) (fun x _ => xn - (intOf x).toNat)
          case atStart => exact ⟨0, rfl, Nat.zero_le _, Below.refl _ _⟩
          case round =>
            obtain ⟨k, rfl, hk, hB⟩ := hrel
            have HBw := Lib.hid hB
            have hsz := hB.size
            by_cases hlt : k < xn
            · obtain ⟨bp, op, y1, y2, y3, y4, ea, ex, b1, b2, b3, b4, lbl⟩ := xreads_at HM3.out.rd (k := k) hlt
              subst ea
              have kb := hB.block bp lbl
              replace b1 := (World.cell?_of_block (a := ⟨bp, _, none⟩) kb).trans b1
              replace b2 := (World.cell?_of_block (a := ⟨bp, _, none⟩) kb).trans b2
              replace b3 := (World.cell?_of_block (a := ⟨bp, _, none⟩) kb).trans b3
              replace b4 := (World.cell?_of_block (a := ⟨bp, _, none⟩) kb).trans b4
              have l1 := World.block_lt_of_cell? _ _ b1
              have i4 : (k : Int) < (xn : Int) := by omega
              have HO1 := Lib.hid (fun (W : World) (h : TreeB W B T tb L) => HO.out W y1 y2 y3 y4 h)
              have HR1 := Lib.hid (fun (W : World) (h : XRC W a n ca L) => HRO.out W y1 y2 y3 y4 h)
              have HS1 := Lib.hid (fun W x y c d h h2 => ints_self (scanB (meetB (y1, y2, y3, y4)) L) _ rfl (Nat.le_trans (HSl.out _) (by decide)) W x y c d h h2)
              have HMm := Lib.hid (HSm.out (meetB (y1, y2, y3, y4)))
              obtain ⟨wo, rfl⟩ : ∃ wo : World, wo = wr := ⟨_, rfl⟩
              generalize scanB (meetB (y1, y2, y3, y4)) L = S at *
              unfold bxV at HO1 HR1
              have HTo := Lib.hid (hT3.out.below HBw.out)
              have HXo := Lib.hid (HX3.out.below HBw.out)
              clear hB ex kb lbl HO HRO HSl HSm
              go_upto_region 26 with fail
              go_region_held3 (fun w' => w'.cell? ⟨bp, op + k * 4, none⟩ = some (.int .i64 y1) ∧ w'.cell? ⟨bp, op + k * 4 + 1, none⟩ = some (.int .i64 y2) ∧ w'.cell? ⟨bp, op + k * 4 + 2, none⟩ = some (.int .i64 y3) ∧ w'.cell? ⟨bp, op + k * 4 + 3, none⟩ = some (.int .i64 y4)) (first | (refine ⟨?_, ?_, ?_, ?_⟩ <;> (simp [go_sem, *]; done))) (first
                | (go_simp; go_at_call 16; (refine (HO1.out _ (HTo.out.below (by ((try simp only [← Array.append_assoc]); repeat' (first | (with_reducible exact Below.refl _ _) | (with_reducible assumption) | (with_reducible refine Below.alloc ?_ ?_ _) | (with_reducible refine Below.drew ?_) | (with_reducible refine below_drewN ?_ _) | (with_reducible exact below_d _ _ _ _ _) | (with_reducible refine below_snoc _ _ ?_ ?_) | (with_reducible refine below_plus ?_ ?_ _ _) | (with_reducible refine Below.setCell ?_ ?_ _) | (with_reducible refine Below.setRow ?_ ?_ _) | go_size))))).mono ?_); rintro e w3 ⟨⟨v, rfl, ho⟩, J3, d3, rfl⟩; obtain ⟨ax, cx, rfl, hrx, _⟩ := iown_reads ho HMm.out; (try simp only [plus_of_drew, plus_plus, Array.append_assoc] at hrx); have HRx := Lib.hid hrx; clear ho hrx; go_simp)
                | (go_simp; go_at_call 17; (refine (HR1.out _ (HXo.out.below (by ((try simp only [← Array.append_assoc]); repeat' (first | (with_reducible exact Below.refl _ _) | (with_reducible assumption) | (with_reducible refine Below.alloc ?_ ?_ _) | (with_reducible refine Below.drew ?_) | (with_reducible refine below_drewN ?_ _) | (with_reducible exact below_d _ _ _ _ _) | (with_reducible refine below_snoc _ _ ?_ ?_) | (with_reducible refine below_plus ?_ ?_ _ _) | (with_reducible refine Below.setCell ?_ ?_ _) | (with_reducible refine Below.setRow ?_ ?_ _) | go_size))))).mono ?_); rintro e w4 ⟨⟨v, rfl, ho⟩, J4, d4, rfl⟩; obtain ⟨ay, cy, rfl, hry, _⟩ := iown_reads ho HMm.out; (try simp only [plus_of_drew, plus_plus, Array.append_assoc] at hry); have HRy := Lib.hid hry; clear ho hry; go_simp)
                | (go_simp; go_at_call 14; (refine (HS1.out _ _ _ _ _ (HRx.out.below (by ((try simp only [← Array.append_assoc]); repeat' (first | (with_reducible exact Below.refl _ _) | (with_reducible assumption) | (with_reducible refine Below.alloc ?_ ?_ _) | (with_reducible refine Below.drew ?_) | (with_reducible refine below_drewN ?_ _) | (with_reducible exact below_d _ _ _ _ _) | (with_reducible refine below_snoc _ _ ?_ ?_) | (with_reducible refine below_plus ?_ ?_ _ _) | (with_reducible refine Below.setCell ?_ ?_ _) | (with_reducible refine Below.setRow ?_ ?_ _) | go_size)))) (HRy.out.below (by ((try simp only [← Array.append_assoc]); repeat' (first | (with_reducible exact Below.refl _ _) | (with_reducible assumption) | (with_reducible refine Below.alloc ?_ ?_ _) | (with_reducible refine Below.drew ?_) | (with_reducible refine below_drewN ?_ _) | (with_reducible exact below_d _ _ _ _ _) | (with_reducible refine below_snoc _ _ ?_ ?_) | (with_reducible refine below_plus ?_ ?_ _ _) | (with_reducible refine Below.setCell ?_ ?_ _) | (with_reducible refine Below.setRow ?_ ?_ _) | go_size))))).mono ?_); rintro e w5 ⟨rfl, J5, d5, rfl⟩; go_simp))
              all_goals go_wp2_with fail
              all_goals go_roundw
              all_goals first
                | exact ⟨k + 1, by go_num, by omega, HBw.out.trans ((show Below wo.heap.size wo _ by ((try simp only [← Array.append_assoc]); repeat' (first | (with_reducible exact Below.refl _ _) | (with_reducible assumption) | (with_reducible refine Below.alloc ?_ ?_ _) | (with_reducible refine Below.drew ?_) | (with_reducible refine below_drewN ?_ _) | (with_reducible exact below_d _ _ _ _ _) | (with_reducible refine below_snoc _ _ ?_ ?_) | (with_reducible refine below_plus ?_ ?_ _ _) | (with_reducible refine Below.setCell ?_ ?_ _) | (with_reducible refine Below.setRow ?_ ?_ _) | go_size))).mono hsz)⟩
                | (simp [intOf]; omega)
            · obtain rfl : xn = k := by omega
              have i6 : ¬ (xn : Int) < (xn : Int) := by omega
              clear hB
              go_wp2_with (go_at_call 10; refine (HAw.out _).mono ?_; rintro e w6 ⟨rfl, J6, d6, rfl⟩)
              go_ret
              exact ⟨rfl, junk_of_below ((hJ3.out.trans (HBw.out.mono hJ3.out.size)).trans ((show Below wr.heap.size wr _ by ((try simp only [← Array.append_assoc]); repeat' (first | (with_reducible exact Below.refl _ _) | (with_reducible assumption) | (with_reducible refine Below.alloc ?_ ?_ _) | (with_reducible refine Below.drew ?_) | (with_reducible refine below_drewN ?_ _) | (with_reducible exact below_d _ _ _ _ _) | (with_reducible refine below_snoc _ _ ?_ ?_) | (with_reducible refine below_plus ?_ ?_ _ _) | (with_reducible refine Below.setCell ?_ ?_ _) | (with_reducible refine Below.setRow ?_ ?_ _) | go_size))).mono (Nat.le_trans hJ3.out.size hsz)))⟩
end Go.Proofs.Ytnpkhhchbahcpaa

/- The law BoxtreeTurned: the walk. -/
import Derived.Test.YtnpkhhchbahcpaaBnM
import Derived.Test.YtnpkhhchbahcpaaBtY
namespace Go.Proofs.Ytnpkhhchbahcpaa
set_option linter.unusedVariables false
set_option linter.unusedSimpArgs false
open Go.RowKit

/-- Loop 1, between two rounds: the first k places hold themselves. -/
def TuA (W : World) (g n : Nat) (x : Value) (wr : World) : Prop := ∃ k : Nat, x = .int .i64 (k : Int) ∧ k ≤ n ∧ Kept2 g g W wr ∧ (∀ j, j < n → wr.cell? ⟨g, j, none⟩ = some (.int .i64 (if j < k then (j : Int) else 0))) ∧ ∀ j, wr.frozen? ⟨g, j, none⟩ = false
theorem tua_next {W wr : World} {g n k : Nat} (hk : k < n) (hK : Kept2 g g W wr) (hc : (∀ j, j < n → wr.cell? ⟨g, j, none⟩ = some (.int .i64 (if j < k then (j : Int) else 0))) ∧ ∀ j, wr.frozen? ⟨g, j, none⟩ = false) : TuA W g n (.int .i64 ((k + 1 : Nat) : Int)) (wr.setCell ⟨g, k, none⟩ (.int .i64 (k : Int))) := by
  have hb : Below 0 wr (wr.setCell ⟨g, k, none⟩ (.int .i64 (k : Int))) := by (repeat' (first | (with_reducible exact Below.refl _ _) | (with_reducible assumption) | (with_reducible refine Below.alloc ?_ ?_ _) | (with_reducible refine Below.drew ?_) | (with_reducible refine below_drewN ?_ _) | (with_reducible refine below_plus ?_ ?_ _ _) | (with_reducible refine Below.setCell ?_ ?_ _) | (with_reducible refine Below.setRow ?_ ?_ _) | go_size))
  refine ⟨k + 1, rfl, hk, hK.trans ⟨hb, fun j hj h1 _ => Below.heap_setCell _ _ _ j h1⟩, fun j hj => ?_, fun j => by rw [World.frozen?_setCell]; exact hc.2 j⟩
  have c := hc.1 j hj
  by_cases e : j = k
  · subst e
    rw [World.cell?_setCell_same _ _ _ c, if_pos (by omega)]
  · rw [World.cell?_setCell_other _ _ _ _ (fun h => by injection h with _ h _; omega), c]
    congr 2
    by_cases h : j < k
    · rw [if_pos h, if_pos (by omega)]
    · rw [if_neg h, if_neg (by omega)]
theorem Bc.set {w : World} {g k j : Nat} {b : Bx} (h : Bc w g k b) (x : Bx) : Bc (s4W w g (j * 4) (.int .i64 x.1) (.int .i64 x.2.1) (.int .i64 x.2.2.1) (.int .i64 x.2.2.2)) g k (if k = j then x else b) := by
  by_cases e : k = j
  · subst e
    rw [if_pos rfl]
    exact s4_hit h.1 h.2.1 h.2.2.1 h.2.2.2 _ _ _ _
  · rw [if_neg e]
    exact ⟨(s4_miss (by omega) _ _ _ _).trans h.1, (s4_miss (by omega) _ _ _ _).trans h.2.1, (s4_miss (by omega) _ _ _ _).trans h.2.2.1, (s4_miss (by omega) _ _ _ _).trans h.2.2.2⟩
/-- Loop 2, between two rounds: the boxes lie in the order A, and the places are A. -/
structure TuS (W : World) (gm ga n : Nat) (L : List Bx) (A : List Nat) (wr : World) : Prop where
  pm : A.Perm (List.range n)
  bx : ∀ k, k < n → Bc wr gm k (L.getD (A.getD k 0) Bx0)
  ax : ∀ k, k < n → wr.cell? ⟨ga, k, none⟩ = some (.int .i64 ((A.getD k 0 : Nat) : Int))
  fm : ∀ j, 0 < n → wr.frozen? ⟨gm, j, none⟩ = false
  fa : ∀ j, 0 < n → wr.frozen? ⟨ga, j, none⟩ = false
  lm : 0 < n → gm < wr.heap.size ∧ ga < wr.heap.size
  kp : Kept2 gm ga W wr
def TuB (W : World) (gm ga n tn : Nat) (L : List Bx) (x : Value) (wr : World) : Prop := ∃ (i : Nat) (A : List Nat), x = .int .i64 (i : Int) ∧ i ≤ tn ∧ TuS W gm ga n L A wr
theorem TuS.len {W wr : World} {gm ga n : Nat} {L : List Bx} {A : List Nat} (h : TuS W gm ga n L A wr) : A.length = n := by rw [h.pm.length_eq, List.length_range]
theorem TuS.keep {W wr w' : World} {gm ga n : Nat} {L : List Bx} {A : List Nat} (h : TuS W gm ga n L A wr) (hb : Below wr.heap.size wr w') : TuS W gm ga n L A w' :=
  ⟨h.pm, fun k hk => (h.bx k hk).keep (hb.block _ (h.lm (by omega)).1), fun k hk => (World.cell?_of_block (a := ⟨ga, k, none⟩) (hb.block _ (h.lm (by omega)).2)).trans (h.ax k hk), fun j h0 => (frozen_of_block (hb.block _ (h.lm h0).1)).trans (h.fm j h0), fun j h0 => (frozen_of_block (hb.block _ (h.lm h0).2)).trans (h.fa j h0),
    fun h0 => ⟨Nat.lt_of_lt_of_le (h.lm h0).1 hb.size, Nat.lt_of_lt_of_le (h.lm h0).2 hb.size⟩, h.kp.trans (Kept2.of_below hb)⟩
/-- A world in which two boxes and two places are exchanged. -/
abbrev exW (w : World) (gm ga a b : Nat) (x y : Bx) (p q : Int) : World := (((s4W (s4W w gm (a * 4) (.int .i64 y.1) (.int .i64 y.2.1) (.int .i64 y.2.2.1) (.int .i64 y.2.2.2)) gm (b * 4) (.int .i64 x.1) (.int .i64 x.2.1) (.int .i64 x.2.2.1) (.int .i64 x.2.2.2)).setCell ⟨ga, a, none⟩ (.int .i64 q)).setCell ⟨ga, b, none⟩ (.int .i64 p))
theorem TuS.turn {W wr : World} {gm ga n a b : Nat} {L : List Bx} {A : List Nat} (h : TuS W gm ga n L A wr) (ha : a < n) (hb : b < n) (hne : gm ≠ ga) :
    TuS W gm ga n L (swapL A a b) (exW wr gm ga a b (L.getD (A.getD a 0) Bx0) (L.getD (A.getD b 0) Bx0) ((A.getD a 0 : Nat) : Int) ((A.getD b 0 : Nat) : Int)) := by
  have hA := h.len
  have hs : ∀ k, k < n → (swapL A a b).getD k 0 = if k = b then A.getD a 0 else if k = a then A.getD b 0 else A.getD k 0 := fun k hk => tswap_get (by omega) (by omega) (by omega)
  have o1 : ∀ (v : World) (k : Nat) (u : Value), (v.setCell ⟨ga, k, none⟩ u).heap[gm]? = v.heap[gm]? := fun v k u => Below.heap_setCell _ _ _ gm hne
  have hsz : ∀ (v : World) (g k : Nat) (u1 u2 u3 u4 : Value), (s4W v g k u1 u2 u3 u4).heap.size = v.heap.size := fun v g k u1 u2 u3 u4 => by unfold s4W; simp
  refine ⟨(tswap_perm (by omega) (by omega)).trans h.pm, fun k hk => ?_, fun k hk => ?_, fun j h0 => ?_, fun j h0 => ?_, fun h0 => ?_, h.kp.trans ⟨?_, fun k hk h1 h2 => ?_⟩⟩
  · have h2 := (((h.bx k hk).set (j := a) (L.getD (A.getD b 0) Bx0)).set (j := b) (L.getD (A.getD a 0) Bx0))
    have e : L.getD ((swapL A a b).getD k 0) Bx0 = if k = b then L.getD (A.getD a 0) Bx0 else if k = a then L.getD (A.getD b 0) Bx0 else L.getD (A.getD k 0) Bx0 := by
      rw [hs k hk]
      split
      · rfl
      · split <;> rfl
    rw [e]
    exact h2.keep ((o1 _ _ _).trans (o1 _ _ _))
  · have c : ∀ i, i < n → (s4W (s4W wr gm (a * 4) (.int .i64 (L.getD (A.getD b 0) Bx0).1) (.int .i64 (L.getD (A.getD b 0) Bx0).2.1) (.int .i64 (L.getD (A.getD b 0) Bx0).2.2.1) (.int .i64 (L.getD (A.getD b 0) Bx0).2.2.2)) gm (b * 4) (.int .i64 (L.getD (A.getD a 0) Bx0).1) (.int .i64 (L.getD (A.getD a 0) Bx0).2.1) (.int .i64 (L.getD (A.getD a 0) Bx0).2.2.1) (.int .i64 (L.getD (A.getD a 0) Bx0).2.2.2)).cell? ⟨ga, i, none⟩ = some (.int .i64 ((A.getD i 0 : Nat) : Int)) :=
      fun i hi => (World.cell?_of_block (a := ⟨ga, i, none⟩) ((s4_heap (fun e => hne e.symm) _ _ _ _).trans (s4_heap (fun e => hne e.symm) _ _ _ _))).trans (h.ax i hi)
    have ne : ∀ i j : Nat, i ≠ j → (⟨ga, i, none⟩ : Addr) ≠ ⟨ga, j, none⟩ := fun i j hij e => by injection e with _ e _; exact hij e
    rw [hs k hk]
    have cb : ((s4W (s4W wr gm (a * 4) (.int .i64 (L.getD (A.getD b 0) Bx0).1) (.int .i64 (L.getD (A.getD b 0) Bx0).2.1) (.int .i64 (L.getD (A.getD b 0) Bx0).2.2.1) (.int .i64 (L.getD (A.getD b 0) Bx0).2.2.2)) gm (b * 4) (.int .i64 (L.getD (A.getD a 0) Bx0).1) (.int .i64 (L.getD (A.getD a 0) Bx0).2.1) (.int .i64 (L.getD (A.getD a 0) Bx0).2.2.1) (.int .i64 (L.getD (A.getD a 0) Bx0).2.2.2)).setCell ⟨ga, a, none⟩ (.int .i64 ((A.getD b 0 : Nat) : Int))).cell? ⟨ga, k, none⟩ = some (.int .i64 (((if k = a then A.getD b 0 else A.getD k 0) : Nat) : Int)) := by
      by_cases e : k = a
      · subst e
        rw [if_pos rfl]
        exact World.cell?_setCell_same _ _ _ (c k hk)
      · rw [if_neg e, World.cell?_setCell_other _ _ _ _ (ne _ _ (fun q => e q.symm))]
        exact c k hk
    by_cases e : k = b
    · subst e
      rw [if_pos rfl]
      exact World.cell?_setCell_same _ _ _ cb
    · rw [if_neg e]
      exact (World.cell?_setCell_other _ _ _ _ (ne _ _ (fun q => e q.symm))).trans cb
  · unfold exW
    rw [World.frozen?_setCell, World.frozen?_setCell, s4_frozen, s4_frozen]; exact h.fm j h0
  · unfold exW
    rw [World.frozen?_setCell, World.frozen?_setCell, s4_frozen, s4_frozen]; exact h.fa j h0
  · have e : (exW wr gm ga a b (L.getD (A.getD a 0) Bx0) (L.getD (A.getD b 0) Bx0) ((A.getD a 0 : Nat) : Int) ((A.getD b 0 : Nat) : Int)).heap.size = wr.heap.size := by unfold exW s4W; simp
    rw [e]; exact h.lm h0
  · unfold exW s4W; (repeat' (first | (with_reducible exact Below.refl _ _) | (with_reducible assumption) | (with_reducible refine Below.alloc ?_ ?_ _) | (with_reducible refine Below.drew ?_) | (with_reducible refine below_drewN ?_ _) | (with_reducible refine below_plus ?_ ?_ _ _) | (with_reducible refine Below.setCell ?_ ?_ _) | (with_reducible refine Below.setRow ?_ ?_ _) | go_size))
  · unfold exW
    rw [Below.heap_setCell _ _ _ k h2, Below.heap_setCell _ _ _ k h2, s4_heap h1, s4_heap h1]
theorem ireads_at {w : World} {a : Option Addr} {n : Nat} {Z : List Int} (h : Reads w a n Z) {k : Nat} (hk : k < n) : ∃ b o, a = some ⟨b, o, none⟩ ∧ w.cell? ⟨b, o + k, none⟩ = some (.int .i64 (Z.getD k 0)) ∧ b < w.heap.size ∧ (-9223372036854775808 ≤ Z.getD k 0 ∧ Z.getD k 0 ≤ 9223372036854775807) := by
  rcases h.2.2 with h0 | ⟨b, o, rfl, hc⟩
  · omega
  · exact ⟨b, o, rfl, hc k hk, World.block_lt_of_cell? _ _ (hc k hk), h.2.1 k hk⟩
theorem pick_at (n : Nat) (h0 : 0 < n) (hn : n ≤ 100) (z : Int) (hz : -9223372036854775808 ≤ z ∧ z ≤ 9223372036854775807) : ∃ b : Nat, b < n ∧ ∀ W, Calls Try.prog 25 #[.int .i64 z, .int .i64 (n : Int)] W fun e w' => e = .returned (.int .i64 (b : Int)) ∧ Junk W w' := by
  have g0 := Int.emod_nonneg z (b := (n : Int)) (by omega)
  have g1 := Int.emod_lt_of_pos z (show (0 : Int) < (n : Int) by omega)
  refine ⟨(z % (n : Int)).toNat, by omega, fun W => ?_⟩
  have h := kp_Pick W z n hz ⟨by omega, by omega⟩
  rw [if_neg (by omega)] at h
  rw [show (((z % (n : Int)).toNat : Nat) : Int) = z % (n : Int) by omega]
  exact h
theorem range_get {n k : Nat} (h : k < n) : (List.range n).getD k 0 = k := by
  rw [List.getD_eq_getElem?_getD, List.getElem?_range h]; rfl
theorem map_getB {A : List Nat} {f : Nat → Bx} {k : Nat} (h : k < A.length) : (A.map f).getD k Bx0 = f (A.getD k 0) := by
  rw [List.getD_eq_getElem?_getD, List.getElem?_map, List.getElem?_eq_getElem h, List.getD_eq_getElem?_getD, List.getElem?_eq_getElem h]; rfl
theorem map_getN {S : List Nat} {f : Nat → Nat} {k : Nat} (h : k < S.length) : (S.map f).getD k 0 = f (S.getD k 0) := by
  rw [List.getD_eq_getElem?_getD, List.getElem?_map, List.getElem?_eq_getElem h, List.getD_eq_getElem?_getD, List.getElem?_eq_getElem h]; rfl
theorem at_own (px py : Int) (L : List Bx) (K : List Nat) (hk : scanB (inB px py) L = K) (s : Nat) (hs : K.length = s) (hl : L.length ≤ 1000) (W : World) (B T tb : Nat) (h : TreeB W B T tb L) :
    Calls Try.prog 13 #[.pointer (some ⟨tb, 0, none⟩), pt px py] W fun e w' => (∃ a c, e = .returned (.slice a s c) ∧ Reads w' a s (nums K) ∧ ∀ x, a = some x → W.heap.size ≤ x.block) ∧ Junk W w' := by
  subst hk
  refine (n_treeAt px py h).mono ?_
  rintro e w' ⟨⟨v, rfl, ho⟩, hj⟩
  obtain ⟨a, c, rfl, hr, _⟩ := iown_reads ho (scan_lt (by omega))
  rw [hs] at hr ⊢
  refine ⟨⟨a, c, rfl, hr, fun x hx => ?_⟩, hj⟩
  unfold IOwn at ho
  rcases ho.2 with ⟨e, _⟩ | ⟨g, cap, cur, e, hg, _⟩
  · injection e with e _ _
    rw [hx] at e; cases e
  · injection e with e _ _
    rw [hx] at e
    injection e with e
    rw [e]
    exact hg
theorem scan_bound {q : Bx → Bool} {L : List Bx} : ∀ i ∈ scanB q L, i < L.length := fun i hi => by
  unfold scanB at hi
  exact List.mem_range.1 (List.mem_filter.1 hi).1
theorem scan_nxt {q : Bx → Bool} {L : List Bx} {k : Nat} (h : k + 1 < (scanB q L).length) : (scanB q L).getD k 0 < (scanB q L).getD (k + 1) 0 := by
  have hp : (scanB q L).Pairwise (· < ·) := by unfold scanB; exact List.Pairwise.filter _ List.pairwise_lt_range
  have := (List.pairwise_iff_getElem.1 hp) k (k + 1) (by omega) h (by omega)
  rw [List.getD_eq_getElem?_getD, List.getElem?_eq_getElem (by omega), List.getD_eq_getElem?_getD, List.getElem?_eq_getElem h]
  exact this
theorem marks_on {O : List Nat} {n k : Nat} {us : List Bool} (hk : k < O.length) (hm : ∀ i ∈ O, i < n) (hl : us.length = n) (hu : ∀ j, j < n → us[j]? = some (decide (j ∈ O.take k))) : ∀ j, j < n → (us.set (O.getD k 0) true)[j]? = some (decide (j ∈ O.take (k + 1))) := by
  intro j hj
  have ht : O.take (k + 1) = O.take k ++ [O.getD k 0] := by
    rw [List.take_succ_eq_append_getElem (by omega), List.getD_eq_getElem?_getD, List.getElem?_eq_getElem (by omega)]; rfl
  have hg : O.getD k 0 < n := hm _ (getD_memN (by omega))
  rw [ht, List.getElem?_set]
  by_cases e : O.getD k 0 = j
  · rw [if_pos e, if_pos (by omega), decide_eq_true]
    rw [List.mem_append, List.mem_singleton]; exact .inr e.symm
  · rw [if_neg e, hu j hj]
    congr 1
    rw [decide_eq_decide, List.mem_append, List.mem_singleton]
    constructor
    · exact .inl
    · rintro (h | h)
      · exact h
      · exact absurd h.symm e
/-- Loop 3, between two rounds: the places of the first k that were found are marked. -/
def TuM (W : World) (h n s : Nat) (O : List Nat) (x : Value) (wr : World) : Prop := ∃ (k : Nat) (us : List Bool), x = .int .i64 (k : Int) ∧ k ≤ s ∧ us.length = n ∧ Blk wr h (brw us) 4 ∧ Kept2 h h W wr ∧ ∀ j, j < n → us[j]? = some (decide (j ∈ O.take k))
set_option maxRecDepth 100000 in
set_option maxHeartbeats 8000000 in
theorem l_boxtreeTurned (w : World) (a : Option Addr) (n ca : Nat) (L : List Bx) (hX : XRC w a n ca L) (hin : InBs L) (hs : n ≤ 9223372036854775807) (hz : a = none → n = 0 ∧ ca = 0)
    (ta : Option Addr) (tn tc : Nat) (Z : List Int) (hT : Reads w ta tn Z) (hts : tn ≤ 9223372036854775807) (htz : ta = none → tn = 0 ∧ tc = 0) (px py : Int) :
    Calls Try.prog 7 #[.slice a n ca, .slice ta tn tc, pt px py] w fun e w' => e = .returned (.bool true) ∧ Junk w w' := by
  have HKn := Lib.hid l_boxtreeKnown
  by_cases hbig : 100 < n ∨ 200 < tn
  · clear hX hin hT hz htz hs hts
    unfold pt at *
    by_cases h1 : 100 < n
    · have i1 : (n : Int) > 100 := by omega
      have i2 : (100 : Int) < (n : Int) := by omega
      go_enter Try.func7, Try.ntmps7
      go_wp2_with (go_at_call 6; refine (HKn.out _).mono ?_; rintro e w1 ⟨rfl, J1, d1, rfl⟩)
      go_ret
      exact ⟨rfl, junk_of_below (by (repeat' (first | (with_reducible exact Below.refl _ _) | (with_reducible assumption) | (with_reducible refine Below.alloc ?_ ?_ _) | (with_reducible refine Below.drew ?_) | (with_reducible refine below_drewN ?_ _) | (with_reducible refine below_plus ?_ ?_ _ _) | (with_reducible refine Below.setCell ?_ ?_ _) | (with_reducible refine Below.setRow ?_ ?_ _) | go_size)))⟩
    · have i1 : ¬ (n : Int) > 100 := by omega
      have i2 : (tn : Int) > 200 := by omega
      go_enter Try.func7, Try.ntmps7
      go_wp2_with (go_at_call 6; refine (HKn.out _).mono ?_; rintro e w1 ⟨rfl, J1, d1, rfl⟩)
      go_ret
      exact ⟨rfl, junk_of_below (by (repeat' (first | (with_reducible exact Below.refl _ _) | (with_reducible assumption) | (with_reducible refine Below.alloc ?_ ?_ _) | (with_reducible refine Below.drew ?_) | (with_reducible refine below_drewN ?_ _) | (with_reducible refine below_plus ?_ ?_ _ _) | (with_reducible refine Below.setCell ?_ ?_ _) | (with_reducible refine Below.setRow ?_ ?_ _) | go_size)))⟩
  have i1 : ¬ (n : Int) > 100 := by omega
  have i2 : ¬ (tn : Int) > 200 := by omega
  have hn : n ≤ 100 := by omega
  have htn : tn ≤ 200 := by omega
  have HX := Lib.hid hX
  have HT := Lib.hid hT
  have HN1 := Lib.hid hn
  have HL := Lib.hid hX.rd.1
  have hin' := hin
  have HB := Lib.hid (fun (W : World) (h : XRC W a n ca L) => build_lit W a n ca L h hin (by omega))
  have HI := Lib.hid hin'
  obtain ⟨Z0, hmk, hZ0⟩ := made_ints n (by omega)
  have HZ0 := Lib.hid hZ0
  clear hX hT hin hz htz hs hts hbig hZ0 hin'
  unfold pt at *
  go_enter Try.func7, Try.ntmps7
  go_upto_region 4 with (go_at_call 6; refine (HKn.out _).mono ?_; rintro e w1 ⟨rfl, J1, d1, rfl⟩)
  obtain ⟨W, hW⟩ : ∃ W, (w.alloc (Obj.cells #[Value.int IntKind.i64 px, Value.int IntKind.i64 py] 31)).plus J1 d1 = W := ⟨_, rfl⟩
  have hj : Below w.heap.size w W := by rw [← hW]; ((try simp only [← Array.append_assoc]); repeat' (first | (with_reducible exact Below.refl _ _) | (with_reducible assumption) | (with_reducible refine Below.alloc ?_ ?_ _) | (with_reducible refine Below.drew ?_) | (with_reducible refine below_drewN ?_ _) | (with_reducible exact below_d _ _ _ _ _) | (with_reducible refine below_snoc _ _ ?_ ?_) | (with_reducible refine below_plus ?_ ?_ _ _) | (with_reducible refine Below.setCell ?_ ?_ _) | (with_reducible refine Below.setRow ?_ ?_ _) | go_size))
  have p0 : W.cell? ⟨w.heap.size, 0, none⟩ = some (.int .i64 px) := by rw [← hW]; simp [go_sem]
  have p1 : W.cell? ⟨w.heap.size, 1, none⟩ = some (.int .i64 py) := by rw [← hW]; simp [go_sem]
  have HJ := Lib.hid hj
  have HXW := Lib.hid (HX.out.below hj)
  have HTW := Lib.hid (HT.out.below hj)
  obtain ⟨b0, hb0⟩ : ∃ b, w.heap.size = b := ⟨_, rfl⟩
  rw [hW, hb0]
  rw [hb0] at p0 p1
  have l0 := World.block_lt_of_cell? _ _ p0
  have HP0 := Lib.hid p0
  have HP1 := Lib.hid p1
  clear hW hj hb0 HX HT HKn p0 p1
  go_upto_region 7 with (at_builtin; refine wpList_xcopy rfl (.tmp 33) (.tmp 34) rfl rfl a n ca L rfl HXW.out.ok HXW.out.rd (by omega) ?_; intro v' w' hc'; obtain ⟨ma, mc, rfl, hxr⟩ := xrc_of_owns hc'.1; have HXR := Lib.hid hxr; have HOw := Lib.hid hc'.1; have HBe := Lib.hid hc'.2; have hsz1 := HBe.out.size; clear hc' hxr)
  obtain ⟨W1, hW1⟩ : ∃ W1, w'.alloc (Obj.cells Z0 3) = W1 := ⟨_, rfl⟩
  obtain ⟨ga, hga⟩ : ∃ g, w'.heap.size = g := ⟨_, rfl⟩
  have hb1 : Below w'.heap.size w' W1 := by rw [← hW1]; ((try simp only [← Array.append_assoc]); repeat' (first | (with_reducible exact Below.refl _ _) | (with_reducible assumption) | (with_reducible refine Below.alloc ?_ ?_ _) | (with_reducible refine Below.drew ?_) | (with_reducible refine below_drewN ?_ _) | (with_reducible exact below_d _ _ _ _ _) | (with_reducible refine below_snoc _ _ ?_ ?_) | (with_reducible refine below_plus ?_ ?_ _ _) | (with_reducible refine Below.setCell ?_ ?_ _) | (with_reducible refine Below.setRow ?_ ?_ _) | go_size))
  have hbk : Blk W1 ga Z0 3 := by rw [← hW1, ← hga]; exact Blk.new w' Z0 3
  have ha1 : (∀ j, j < n → W1.cell? ⟨ga, j, none⟩ = some (.int .i64 (if j < 0 then (j : Int) else 0))) ∧ ∀ j, W1.frozen? ⟨ga, j, none⟩ = false :=
    ⟨fun j hj => by rw [hbk.cell, if_neg (by omega)]; exact HZ0.out j hj, hbk.frozen⟩
  have hm : ∃ gm, W.heap.size ≤ gm ∧ (0 < n → ma = some ⟨gm, 0, none⟩ ∧ gm ≠ ga ∧ gm < W1.heap.size ∧ (∀ i, i < n → Bc W1 gm i (L.getD i Bx0)) ∧ ∀ j, W1.frozen? ⟨gm, j, none⟩ = false) := by
    by_cases h0 : 0 < n
    · obtain ⟨g, c, e, h1, h2, h3, h4⟩ := own_row4 HOw.out HL.out h0
      injection e with e _ _
      have k := hb1.block g h2
      exact ⟨g, h1, fun _ => ⟨e, by omega, Nat.lt_of_lt_of_le h2 hb1.size, fun i hi => Bc.keep (h3 i hi) k, fun j => (frozen_of_block k).trans (h4 _)⟩⟩
    · exact ⟨W.heap.size, Nat.le_refl _, fun h => absurd h h0⟩
  obtain ⟨gm, hm1, hm2⟩ := hm
  have hs1 : ga < W1.heap.size := by rw [← hga, ← hW1]; simp
  have hs2 : W.heap.size ≤ ga := by rw [← hga]; exact HBe.out.size
  have HM1 := Lib.hid hm1
  have HM2 := Lib.hid hm2
  have HS1 := Lib.hid hs1
  have HS2 := Lib.hid hs2
  have HA1 := Lib.hid ha1
  have HB1 := Lib.hid (HBe.out.trans (hb1.mono HBe.out.size))
  have hok := HXR.out.ok
  have HOk := Lib.hid hok
  rw [hW1, hga]
  clear hW1 hga hb1 ha1 hbk hm1 hm2 hs1 hs2 hmk HZ0 HOw HXR HBe hok hsz1
  go_loopw [10] (fun x wr => TuA W1 ga n x wr) (fun x _ => n - (intOf x).toNat)
  case atStart => exact ⟨0, rfl, Nat.zero_le _, Kept2.refl _ _ _, HA1.out⟩
  case round =>
    obtain ⟨k, rfl, hk, hK, hc⟩ := hrel
    have HKp := Lib.hid hK
    have HCe := Lib.hid hc
    by_cases hlt : k < n
    · have c1 := hc.1 k hlt
      have f1 := hc.2 k
      rw [if_neg (Nat.lt_irrefl _)] at c1
      have l1 := World.block_lt_of_cell? _ _ c1
      have i3 : (k : Int) < (n : Int) := by omega
      have i4 : ¬ (k : Int) ≥ (n : Int) := by omega
      clear hK hc
      go_wp2_with fail
      go_roundw
      case rel =>
        have h := tua_next hlt HKp.out HCe.out
        have e : ((k + 1 : Nat) : Int) = (k : Int) + 1 := by omega
        rw [e] at h
        exact h
      case measure => simp [intOf]; omega
    · obtain rfl : n = k := by omega
      have i3 : ¬ (n : Int) < (n : Int) := by omega
      have h1 : Below W.heap.size W wr := HB1.out.trans (HKp.out.below HS2.out HS2.out HB1.out.size)
      have HS0 := Lib.hid (show TuS wr gm ga n L (List.range n) wr from
        ⟨List.Perm.refl _, fun k hk => by
            obtain ⟨_, q1, q2, q3, _⟩ := HM2.out (by omega)
            rw [range_get hk]
            exact (q3 k hk).keep (HKp.out.blk gm q2 q1 q1), fun k hk => by
            have := HCe.out.1 k hk
            rw [if_pos hk] at this
            rw [range_get hk]; exact this, fun j h0 => by
            obtain ⟨_, q1, q2, _, q4⟩ := HM2.out (by omega)
            exact (frozen_of_block (HKp.out.blk gm q2 q1 q1)).trans (q4 j), fun j _ => HCe.out.2 j, fun h0 => by
            obtain ⟨_, q1, q2, _, q4⟩ := HM2.out (by omega)
            have := HKp.out.size
            have := HS1.out
            omega, Kept2.refl _ _ _⟩)
      have HJ2 := Lib.hid h1
      have HNe := Lib.hid (fun h0 => (HM2.out h0).2.1)
      have HMa := Lib.hid (fun h0 => (HM2.out h0).1)
      have hsz := HB1.out.size
      have HGa := Lib.hid HS2.out
      have HGm := Lib.hid HM1.out
      obtain ⟨W2, rfl⟩ : ∃ W2, W2 = wr := ⟨_, rfl⟩
      clear hK hc HKp HCe HM1 HM2 HS1 HS2 HA1 HB1 hk hlt h1 hsz
      go_upto_block 2 with fail
      go_cut [11, 12, 13] from 49 to 98 (fun _ _ _ wx => ∃ A, TuS W2 gm ga n L A wx)
      case first =>
        go_wp2_with fail
        go_loopw [11] (fun x wr => TuB W2 gm ga n tn L x wr) (fun x _ => tn - (intOf x).toNat)
        case atStart => exact ⟨0, _, rfl, Nat.zero_le _, HS0.out⟩
        case round =>
          obtain ⟨i, A, rfl, hi, hS⟩ := hrel
          have HSt := Lib.hid hS
          by_cases hlt : i < tn ∧ 0 < n
          · obtain ⟨hlt, h0⟩ := hlt
            have hma := HMa.out h0
            subst hma
            obtain ⟨bz, oz, ez, cz, lz, bz1, bz2⟩ := ireads_at HTW.out (k := i) hlt
            subst ez
            have kz : wr.heap[bz]? = W.heap[bz]? := (hS.kp.blk bz (Nat.lt_of_lt_of_le lz HJ2.out.size) (by have := HGm.out; omega) (by have := HGa.out; omega)).trans (HJ2.out.block bz lz)
            replace cz := (World.cell?_of_block (a := ⟨bz, _, none⟩) kz).trans cz
            have lz2 := World.block_lt_of_cell? _ _ cz
            obtain ⟨q, hq, hpk⟩ := pick_at n h0 hn (Z.getD i 0) ⟨bz1, bz2⟩
            obtain ⟨p, hp⟩ : ∃ p : Nat, i % n = p := ⟨_, rfl⟩
            have hpn : p < n := by rw [← hp]; exact Nat.mod_lt _ h0
            have e1 : (i : Int).tmod (n : Int) = (p : Int) := by rw [← hp]; exact (Int.ofNat_tmod i n).symm
            have e2 : ¬ n = 0 := by omega
            have i3 : (i : Int) < (tn : Int) := by omega
            have i4 : (n : Int) > 0 := by omega
            have i5 : (0 : Int) < (n : Int) := by omega
            have HPk := Lib.hid hpk
            have Hhq := Lib.hid hq
            have Hhp := Lib.hid hpn
            obtain ⟨z, hz⟩ : ∃ z, Z.getD i 0 = z := ⟨_, rfl⟩
            rw [hz] at cz bz1 bz2 HPk
            clear hS kz hpk hp hq hpn hz
            go_upto_region 13 with fail
            refine region_quiet_all (C := Cls wr) (by kernel_rfl) (by kernel_rfl) (cls_drawn _) ?_
            repeat (first | (refine qw_skip (by rfl) ?_; simp only [Act.put, List.setIfInBounds_toArray, List.set_cons_succ, List.set_cons_zero]) | (refine qw_want (by rfl) (fun K hK => ?_); go_simp; first | (refine hK _ ?_; clear hK K) | (apply Exists.intro; refine ⟨?_, hK _ ?_⟩; (rintro w3_ ⟨J3_, d3_, rfl⟩; first | (with_reducible exact rfl) | (go_simp; with_reducible exact rfl) | (go_simp; (first | (with_reducible refine (HPk.out _).mono ?_)); rintro e_ w_ ⟨rfl, J4_, d4_, rfl⟩; exact ⟨rfl, J3_ ++ J4_, d4_, by simp only [plus_plus, Array.append_assoc]⟩)); clear hK K)))
            refine qw_nil ?_
            rintro w3 ⟨J5, d5, rfl⟩
            go_upto_region 14 with fail
            have HS3 := Lib.hid (HSt.out.keep (Junk.below ⟨J5, d5, rfl⟩ : Below wr.heap.size wr (wr.plus J5 d5)))
            obtain ⟨w4, hw4⟩ : ∃ w4, wr.plus J5 d5 = w4 := ⟨_, rfl⟩
            rw [hw4] at HS3 ⊢
            clear hw4 cz e1 e2 lz2 bz1 bz2 HPk HSt
            obtain ⟨⟨x1, x2, x3, x4⟩, hx⟩ : ∃ x, L.getD (A.getD p 0) Bx0 = x := ⟨_, rfl⟩
            obtain ⟨⟨y1, y2, y3, y4⟩, hy⟩ : ∃ x, L.getD (A.getD q 0) Bx0 = x := ⟨_, rfl⟩
            obtain ⟨A1, hA1⟩ : ∃ x, A.getD p 0 = x := ⟨_, rfl⟩
            obtain ⟨A2, hA2⟩ : ∃ x, A.getD q 0 = x := ⟨_, rfl⟩
            have heq : p = q → ((y1, y2, y3, y4) : Bx) = (x1, x2, x3, x4) ∧ A2 = A1 := fun e => by rw [← hx, ← hy, ← hA1, ← hA2, e]; exact ⟨rfl, rfl⟩
            have HEq := Lib.hid heq
            have htn := HS3.out.turn Hhp.out Hhq.out (HNe.out h0)
            have hbp := HS3.out.bx p Hhp.out
            have hbq := HS3.out.bx q Hhq.out
            have hap := HS3.out.ax p Hhp.out
            have haq := HS3.out.ax q Hhq.out
            rw [hx] at hbp
            rw [hy] at hbq
            rw [hx, hy, hA1, hA2] at htn
            rw [hA1] at hap
            rw [hA2] at haq
            have HTn := Lib.hid htn
            obtain ⟨c1, c2, c3, c4⟩ := hbp
            obtain ⟨d1, d2, d3, d4⟩ := hbq
            simp only at c1 c2 c3 c4 d1 d2 d3 d4
            have fm := fun j => HS3.out.fm j h0
            have fa := fun j => HS3.out.fa j h0
            have ne1 : gm ≠ ga := HNe.out h0
            have ne2 : ga ≠ gm := fun e => ne1 e.symm
            have g1 : ¬ (p : Int) ≥ (n : Int) := by have := Hhp.out; omega
            have g2 : (p : Int) < (n : Int) := by have := Hhp.out; omega
            have g3 : ¬ (q : Int) ≥ (n : Int) := by have := Hhq.out; omega
            have g4 : (q : Int) < (n : Int) := by have := Hhq.out; omega
            clear hx hy hA1 hA2 htn heq
            by_cases hpq : p = q
            · obtain ⟨e1, rfl⟩ := HEq.out hpq
              injection e1 with e1 e2
              injection e2 with e2 e3
              injection e3 with e3 e4
              subst hpq e1 e2 e3 e4
              go_region
              go_upto_region 15 with fail
              go_region
              go_wp2_with fail
              go_roundw
              case rel => exact ⟨i + 1, _, by go_num, by omega, HTn.out.keep ((Below.refl _ _).drew.drew)⟩
              case measure => simp [intOf]; omega
            · have m0 : ¬ p * 4 = q * 4 := by omega
              have m1 : ¬ p * 4 = q * 4 + 1 := by omega
              have m2 : ¬ p * 4 = q * 4 + 2 := by omega
              have m3 : ¬ p * 4 = q * 4 + 3 := by omega
              have m4 : ¬ p * 4 + 1 = q * 4 := by omega
              have m5 : ¬ p * 4 + 1 = q * 4 + 2 := by omega
              have m6 : ¬ p * 4 + 1 = q * 4 + 3 := by omega
              have m7 : ¬ p * 4 + 2 = q * 4 := by omega
              have m8 : ¬ p * 4 + 2 = q * 4 + 1 := by omega
              have m9 : ¬ p * 4 + 2 = q * 4 + 3 := by omega
              have m10 : ¬ p * 4 + 3 = q * 4 := by omega
              have m11 : ¬ p * 4 + 3 = q * 4 + 1 := by omega
              have m12 : ¬ p * 4 + 3 = q * 4 + 2 := by omega
              go_region
              go_upto_region 15 with fail
              go_region
              go_wp2_with fail
              go_roundw
              case rel => exact ⟨i + 1, _, by go_num, by omega, HTn.out.keep ((Below.refl _ _).drew.drew)⟩
              case measure => simp [intOf]; omega
          · by_cases hit : i < tn
            · obtain rfl : n = 0 := by omega
              have i3 : (i : Int) < (tn : Int) := by omega
              go_wp2_with fail
              go_meet
              exact ⟨A, HSt.out⟩
            · have i3 : ¬ (i : Int) < (tn : Int) := by omega
              go_wp2_with fail
              go_meet
              exact ⟨A, HSt.out⟩
      case rest =>
      obtain ⟨A, hS⟩ := hcut
      have hAl := hS.len
      have hJw : Below W.heap.size W wc := HJ2.out.trans (hS.kp.below HGm.out HGa.out HJ2.out.size)
      have hXM : XRC wc ma n mc (A.map fun j => L.getD j Bx0) := by
        refine ⟨?_, HOk.out⟩
        by_cases h0 : n = 0
        · exact ⟨by rw [List.length_map]; exact hAl, .inl h0⟩
        · rw [HMa.out (by omega)]
          exact xreads_bc (by rw [List.length_map]; exact hAl) fun k hk => by
            rw [map_getB (by omega)]
            exact hS.bx k hk
      have hIM : InBs (A.map fun j => L.getD j Bx0) := fun b hb => by
        obtain ⟨j, hj, rfl⟩ := List.mem_map.1 hb
        have hj2 : j < L.length := by
          have := hS.pm.mem_iff.1 hj
          rw [List.mem_range] at this
          rw [HL.out]; exact this
        refine HI.out _ ?_
        rw [List.getD_eq_getElem?_getD, List.getElem?_eq_getElem hj2]
        exact List.getElem_mem hj2
      have hth := turned_hits (inB px py) L A (by rw [HL.out]; exact hS.pm)
      have hAm : ∀ k, k < n → A.getD k 0 < n := fun k hk => by
        have := hS.pm.mem_iff.1 (getD_memN (l := A) (k := k) (by omega))
        rw [List.mem_range] at this
        exact this
      have hMl : (A.map fun j => L.getD j Bx0).length = n := by rw [List.length_map]; exact hAl
      obtain ⟨M, hM⟩ : ∃ M, (A.map fun j => L.getD j Bx0) = M := ⟨_, rfl⟩
      rw [hM] at hXM hIM hth hMl
      have hbd : ∀ k, k < (scanB (inB px py) M).length → (scanB (inB px py) M).getD k 0 < n := fun k hk => by
        have := scan_bound _ (getD_memN hk)
        rw [hMl] at this
        exact this
      have hbx : ∀ k, k < (scanB (inB px py) L).length → (scanB (inB px py) L).getD k 0 < n := fun k hk => by
        have := scan_bound _ (getD_memN hk)
        rw [HL.out] at this
        exact this
      have hup := fun k => @scan_nxt (inB px py) M k
      have HB2 := Lib.hid (fun (W : World) (h : XRC W ma n mc M) => build_lit W ma n mc M h hIM (by omega))
      obtain ⟨S, hSe⟩ : ∃ S, scanB (inB px py) L = S := ⟨_, rfl⟩
      obtain ⟨Y, hYe⟩ : ∃ Y, scanB (inB px py) M = Y := ⟨_, rfl⟩
      rw [hSe, hYe] at hth
      rw [hYe] at hbd
      rw [hSe] at hbx
      simp only [hYe] at hup
      obtain ⟨s, hss⟩ : ∃ s, S.length = s := ⟨_, rfl⟩
      have hYs : Y.length = s := by rw [← hss, ← hth.length_eq, List.length_map]
      have hsn : s ≤ n := by
        have h := List.length_filter_le (fun i => inB px py (L.getD i Bx0)) (List.range L.length)
        rw [List.length_range] at h
        have h2 : (scanB (inB px py) L).length ≤ L.length := h
        rw [hSe, hss, HL.out] at h2
        exact h2
      rw [hss] at hbx
      rw [hYs] at hbd hup
      have HA1 := Lib.hid (at_own px py L S hSe s hss (by rw [HL.out]; omega))
      have HA2 := Lib.hid (at_own px py M Y hYe s hYs (by rw [hMl]; omega))
      have HTh := Lib.hid hth
      have HBd := Lib.hid hbd
      have HBx := Lib.hid hbx
      have HUp := Lib.hid hup
      have HAm := Lib.hid hAm
      have HSs := Lib.hid hss
      have HYs := Lib.hid hYs
      have HSn := Lib.hid hsn
      have HAx := Lib.hid hS.ax
      have HXM := Lib.hid hXM
      have HXw := Lib.hid (HXW.out.below hJw)
      have HJw := Lib.hid hJw
      have hp0 := (World.cell?_of_block (a := ⟨b0, 0, none⟩) (hJw.block b0 l0)).trans HP0.out
      have hp1 := (World.cell?_of_block (a := ⟨b0, 1, none⟩) (hJw.block b0 l0)).trans HP1.out
      have HQ0 := Lib.hid hp0
      have HQ1 := Lib.hid hp1
      have hgl : 0 < n → ga < wc.heap.size := fun h => (hS.lm h).2
      have HGl := Lib.hid hgl
      have hmb := fun w => made_brw n (by omega) w
      obtain ⟨ZB, hZB⟩ : ∃ Z, brw (List.replicate n false) = Z := ⟨_, rfl⟩
      simp only [hZB] at hmb
      unfold pt at HA1 HA2
      clear hAl hJw hXM hIM hth hAm hMl hM hbd hbx hup hSe hYe hss hYs hsn hS hp0 hp1 hgl HS0 HP0 HP1 HJ2 HXW HTW HOk HI
      go_upto_region 21 with (first
        | (go_at_call 11; (with_reducible refine (HB.out _ ?_).mono ?_); (exact HXw.out.below (by ((try simp only [← Array.append_assoc]); repeat' (first | (with_reducible exact Below.refl _ _) | (with_reducible assumption) | (with_reducible refine Below.alloc ?_ ?_ _) | (with_reducible refine Below.drew ?_) | (with_reducible refine below_drewN ?_ _) | (with_reducible exact below_d _ _ _ _ _) | (with_reducible refine below_snoc _ _ ?_ ?_) | (with_reducible refine below_plus ?_ ?_ _ _) | (with_reducible refine Below.setCell ?_ ?_ _) | (with_reducible refine Below.setRow ?_ ?_ _) | go_size)))); rintro e w1 ⟨⟨tb, B, T, rfl, ht, _⟩, J6, d6, rfl⟩; have HTa := Lib.hid ht; clear ht)
        | (go_at_call 11; (with_reducible refine (HB2.out _ ?_).mono ?_); (exact HXM.out.below (by ((try simp only [← Array.append_assoc]); repeat' (first | (with_reducible exact Below.refl _ _) | (with_reducible assumption) | (with_reducible refine Below.alloc ?_ ?_ _) | (with_reducible refine Below.drew ?_) | (with_reducible refine below_drewN ?_ _) | (with_reducible exact below_d _ _ _ _ _) | (with_reducible refine below_snoc _ _ ?_ ?_) | (with_reducible refine below_plus ?_ ?_ _ _) | (with_reducible refine Below.setCell ?_ ?_ _) | (with_reducible refine Below.setRow ?_ ?_ _) | go_size)))); rintro e w1 ⟨⟨tb2, B2, T2, rfl, ht, _⟩, J7, d7, rfl⟩; have HTb := Lib.hid ht; clear ht))
      obtain ⟨W4, hW4⟩ : ∃ W4, wc.plus (J6 ++ J7) d7 = W4 := ⟨_, rfl⟩
      obtain ⟨W5, hW5⟩ : ∃ W5, W4.alloc (Obj.cells ZB 4) = W5 := ⟨_, rfl⟩
      have hb4 : Below wc.heap.size wc W4 := by rw [← hW4]; ((try simp only [← Array.append_assoc]); repeat' (first | (with_reducible exact Below.refl _ _) | (with_reducible assumption) | (with_reducible refine Below.alloc ?_ ?_ _) | (with_reducible refine Below.drew ?_) | (with_reducible refine below_drewN ?_ _) | (with_reducible exact below_d _ _ _ _ _) | (with_reducible refine below_snoc _ _ ?_ ?_) | (with_reducible refine below_plus ?_ ?_ _ _) | (with_reducible refine Below.setCell ?_ ?_ _) | (with_reducible refine Below.setRow ?_ ?_ _) | go_size))
      have hb5 : Below wc.heap.size wc W5 := by rw [← hW5]; exact hb4.alloc hb4.size _
      have HT5 := Lib.hid (show TreeB W5 B T tb L by rw [← hW5, ← hW4]; exact HTa.out.below (by ((try simp only [← Array.append_assoc]); repeat' (first | (with_reducible exact Below.refl _ _) | (with_reducible assumption) | (with_reducible refine Below.alloc ?_ ?_ _) | (with_reducible refine Below.drew ?_) | (with_reducible refine below_drewN ?_ _) | (with_reducible exact below_d _ _ _ _ _) | (with_reducible refine below_snoc _ _ ?_ ?_) | (with_reducible refine below_plus ?_ ?_ _ _) | (with_reducible refine Below.setCell ?_ ?_ _) | (with_reducible refine Below.setRow ?_ ?_ _) | go_size))))
      have HU5 := Lib.hid (show TreeB W5 B2 T2 tb2 M by rw [← hW5, ← hW4]; simp only [plus_plus, Array.append_assoc] at HTb; exact HTb.out.below (by ((try simp only [← Array.append_assoc]); repeat' (first | (with_reducible exact Below.refl _ _) | (with_reducible assumption) | (with_reducible refine Below.alloc ?_ ?_ _) | (with_reducible refine Below.drew ?_) | (with_reducible refine below_drewN ?_ _) | (with_reducible exact below_d _ _ _ _ _) | (with_reducible refine below_snoc _ _ ?_ ?_) | (with_reducible refine below_plus ?_ ?_ _ _) | (with_reducible refine Below.setCell ?_ ?_ _) | (with_reducible refine Below.setRow ?_ ?_ _) | go_size))))
      obtain ⟨h, hh⟩ : ∃ h, W4.heap.size = h := ⟨_, rfl⟩
      have hh2 : wc.heap.size + (J6.size + J7.size) = h := by rw [← hh, ← hW4]; simp
      have hbk : Blk W5 h (brw (List.replicate n false)) 4 := by rw [← hW5, ← hh, hZB]; exact Blk.new W4 ZB 4
      have hs5 : W5.heap.size = h + 1 := by rw [← hW5, ← hh]; simp
      have hch : wc.heap.size ≤ h := by rw [← hh]; exact hb4.size
      have lb : b0 < wc.heap.size := Nat.lt_of_lt_of_le l0 HJw.out.size
      have q0 := (World.cell?_of_block (a := ⟨b0, 0, none⟩) (hb5.block b0 lb)).trans HQ0.out
      have q1 := (World.cell?_of_block (a := ⟨b0, 1, none⟩) (hb5.block b0 lb)).trans HQ1.out
      have lb5 : b0 < W5.heap.size := Nat.lt_of_lt_of_le lb hb5.size
      have HBk := Lib.hid hbk
      have HS5 := Lib.hid hs5
      have HCh := Lib.hid hch
      have HhW := Lib.hid (Nat.le_trans HJw.out.size hch)
      have HJ5 := Lib.hid (HJw.out.trans (hb5.mono HJw.out.size))
      have HA5 := Lib.hid (fun k hk => (World.cell?_of_block (a := ⟨ga, k, none⟩) (hb5.block ga (HGl.out (by omega)))).trans (HAx.out k hk))
      rw [hW4, hW5, hh2]
      clear hh2 hW4 hW5 hb4 hb5 hh hbk hs5 hch lb hZB hmb HTa HTb HB HB2 HXM HXw HQ0 HQ1 HAx HJw
      go_cut [19, 20] from 126 to 131 (fun x y wx => ∃ ax cx ay cy, x = .slice ax s cx ∧ y = .slice ay s cy ∧ Reads wx ax s (nums S) ∧ Reads wx ay s (nums Y) ∧ (∀ z : Addr, ax = some z → W5.heap.size ≤ z.block) ∧ (∀ z : Addr, ay = some z → W5.heap.size ≤ z.block) ∧ Below W5.heap.size W5 wx)
      case first =>
        go_region_held3 (fun w' => w'.cell? ⟨b0, 0, none⟩ = some (.int .i64 px) ∧ w'.cell? ⟨b0, 1, none⟩ = some (.int .i64 py)) (first | (refine ⟨?_, ?_⟩ <;> (simp [go_sem, *]; done))) (first
          | (go_simp; go_at_call 13; (refine (HA1.out _ B T tb (HT5.out.below (by ((try simp only [← Array.append_assoc]); repeat' (first | (with_reducible exact Below.refl _ _) | (with_reducible assumption) | (with_reducible refine Below.alloc ?_ ?_ _) | (with_reducible refine Below.drew ?_) | (with_reducible refine below_drewN ?_ _) | (with_reducible exact below_d _ _ _ _ _) | (with_reducible refine below_snoc _ _ ?_ ?_) | (with_reducible refine below_plus ?_ ?_ _ _) | (with_reducible refine Below.setCell ?_ ?_ _) | (with_reducible refine Below.setRow ?_ ?_ _) | go_size))))).mono ?_); rintro e w3 ⟨⟨ax, cx, rfl, hrx, hkx⟩, J3, d3, rfl⟩; (try simp only [plus_of_drew, plus_plus, Array.append_assoc] at hrx); have HRx := Lib.hid hrx; have HKx := Lib.hid (fun (z : Addr) hz => Nat.le_trans (show Below W5.heap.size W5 _ by ((try simp only [← Array.append_assoc]); repeat' (first | (with_reducible exact Below.refl _ _) | (with_reducible assumption) | (with_reducible refine Below.alloc ?_ ?_ _) | (with_reducible refine Below.drew ?_) | (with_reducible refine below_drewN ?_ _) | (with_reducible exact below_d _ _ _ _ _) | (with_reducible refine below_snoc _ _ ?_ ?_) | (with_reducible refine below_plus ?_ ?_ _ _) | (with_reducible refine Below.setCell ?_ ?_ _) | (with_reducible refine Below.setRow ?_ ?_ _) | go_size))).size (hkx z hz)); clear hrx hkx; go_simp)
          | (go_simp; go_at_call 13; (refine (HA2.out _ B2 T2 tb2 (HU5.out.below (by ((try simp only [← Array.append_assoc]); repeat' (first | (with_reducible exact Below.refl _ _) | (with_reducible assumption) | (with_reducible refine Below.alloc ?_ ?_ _) | (with_reducible refine Below.drew ?_) | (with_reducible refine below_drewN ?_ _) | (with_reducible exact below_d _ _ _ _ _) | (with_reducible refine below_snoc _ _ ?_ ?_) | (with_reducible refine below_plus ?_ ?_ _ _) | (with_reducible refine Below.setCell ?_ ?_ _) | (with_reducible refine Below.setRow ?_ ?_ _) | go_size))))).mono ?_); rintro e w4 ⟨⟨ay, cy, rfl, hry, hky⟩, J4, d4, rfl⟩; (try simp only [plus_of_drew, plus_plus, Array.append_assoc] at hry); have HRy := Lib.hid hry; have HKy := Lib.hid (fun (z : Addr) hz => Nat.le_trans (show Below W5.heap.size W5 _ by ((try simp only [← Array.append_assoc]); repeat' (first | (with_reducible exact Below.refl _ _) | (with_reducible assumption) | (with_reducible refine Below.alloc ?_ ?_ _) | (with_reducible refine Below.drew ?_) | (with_reducible refine below_drewN ?_ _) | (with_reducible exact below_d _ _ _ _ _) | (with_reducible refine below_snoc _ _ ?_ ?_) | (with_reducible refine below_plus ?_ ?_ _ _) | (with_reducible refine Below.setCell ?_ ?_ _) | (with_reducible refine Below.setRow ?_ ?_ _) | go_size))).size (hky z hz)); clear hry hky; go_simp))
        all_goals go_wp2_with fail
        all_goals go_meet
        all_goals exact ⟨_, _, _, _, rfl, rfl, HRx.out.below (by ((try simp only [← Array.append_assoc]); repeat' (first | (with_reducible exact Below.refl _ _) | (with_reducible assumption) | (with_reducible refine Below.alloc ?_ ?_ _) | (with_reducible refine Below.drew ?_) | (with_reducible refine below_drewN ?_ _) | (with_reducible exact below_d _ _ _ _ _) | (with_reducible refine below_snoc _ _ ?_ ?_) | (with_reducible refine below_plus ?_ ?_ _ _) | (with_reducible refine Below.setCell ?_ ?_ _) | (with_reducible refine Below.setRow ?_ ?_ _) | go_size))), HRy.out.below (by ((try simp only [← Array.append_assoc]); repeat' (first | (with_reducible exact Below.refl _ _) | (with_reducible assumption) | (with_reducible refine Below.alloc ?_ ?_ _) | (with_reducible refine Below.drew ?_) | (with_reducible refine below_drewN ?_ _) | (with_reducible exact below_d _ _ _ _ _) | (with_reducible refine below_snoc _ _ ?_ ?_) | (with_reducible refine below_plus ?_ ?_ _ _) | (with_reducible refine Below.setCell ?_ ?_ _) | (with_reducible refine Below.setRow ?_ ?_ _) | go_size))), HKx.out, HKy.out, by ((try simp only [← Array.append_assoc]); repeat' (first | (with_reducible exact Below.refl _ _) | (with_reducible assumption) | (with_reducible refine Below.alloc ?_ ?_ _) | (with_reducible refine Below.drew ?_) | (with_reducible refine below_drewN ?_ _) | (with_reducible exact below_d _ _ _ _ _) | (with_reducible refine below_snoc _ _ ?_ ?_) | (with_reducible refine below_plus ?_ ?_ _ _) | (with_reducible refine Below.setCell ?_ ?_ _) | (with_reducible refine Below.setRow ?_ ?_ _) | go_size))⟩
      case rest =>
      obtain ⟨ax, cx, ay, cy, rfl, rfl, hrx, hry, hkx, hky, hb⟩ := hcut
      have hx5 := HS5.out
      have HR1 := Lib.hid hrx
      have HR2 := Lib.hid hry
      have HK1 := Lib.hid (fun (z : Addr) (hz : ax = some z) => show h < z.block from by have := hkx z hz; omega)
      have HK2 := Lib.hid (fun (z : Addr) (hz : ay = some z) => show h < z.block from by have := hky z hz; omega)
      have HBk6 := Lib.hid (HBk.out.below hb)
      have hgh : 0 < n → ga < h := fun h0 => Nat.lt_of_lt_of_le (HGl.out h0) HCh.out
      have HGh := Lib.hid hgh
      have HA6 := Lib.hid (fun k (hk : k < n) => (World.cell?_of_block (a := ⟨ga, k, none⟩) (hb.block ga (by have := hgh (by omega); omega))).trans (HA5.out k hk))
      have HJ6 := Lib.hid (HJ5.out.trans (hb.mono HJ5.out.size))
      have hOl : (Y.map fun i => A.getD i 0).length = s := by rw [List.length_map]; exact HYs.out
      have hOg : ∀ k, k < s → (Y.map fun i => A.getD i 0).getD k 0 = A.getD (Y.getD k 0) 0 := fun k hk => map_getN (by rw [HYs.out]; exact hk)
      have hOm : ∀ i ∈ (Y.map fun i => A.getD i 0), i < n := fun i hi => by
        obtain ⟨j, hj, rfl⟩ := List.mem_map.1 hi
        obtain ⟨k, hk, rfl⟩ := List.mem_iff_getElem.1 hj
        have hk2 : k < s := by rw [← HYs.out]; exact hk
        have := HBd.out k hk2
        rw [List.getD_eq_getElem?_getD, List.getElem?_eq_getElem hk] at this
        exact HAm.out _ this
      have hOp := HTh.out
      obtain ⟨O, hO⟩ : ∃ O, (Y.map fun i => A.getD i 0) = O := ⟨_, rfl⟩
      rw [hO] at hOl hOm hOp
      simp only [hO] at hOg
      have HOl := Lib.hid hOl
      have HOg := Lib.hid hOg
      have HOm := Lib.hid hOm
      have HOp := Lib.hid hOp
      obtain ⟨W6, rfl⟩ : ∃ W6, W6 = wc := ⟨_, rfl⟩
      clear hrx hry hkx hky hb hx5 hgh hOl hOg hOm hOp hO HT5 HU5 HA1 HA2 HTh HS5 HCh HJ5 HA5 HGl HBk q0 q1
      go_wp2_with fail
      go_loopw [21] (fun x wr => TuM W6 h n s O x wr) (fun x _ => s - (intOf x).toNat)
      case atStart => exact ⟨0, _, rfl, Nat.zero_le _, by simp, HBk6.out, Kept2.refl _ _ _, fun j hj => by simp [hj]⟩
      case round =>
        obtain ⟨k, us, rfl, hk, hus, hb, hK, hm⟩ := hrel
        by_cases hlt : k < s
        · have h0 : 0 < n := by have := HSn.out; omega
          obtain ⟨bo, oo, eo, oc, lo⟩ := reads_at HR2.out (k := k) hlt
          have hne : bo ≠ h := by have := HK2.out _ eo; simp only at this; omega
          have hvn := HBd.out k hlt
          have hgn := HAm.out _ hvn
          have hcg := HA6.out _ hvn
          have hog := HOg.out k hlt
          have hnx := marks_on (k := k) (by rw [HOl.out]; exact hlt) HOm.out hus hm
          have hup := HUp.out
          have hrd := fun i (hi : i < s) => reads_at HR2.out (k := i) hi
          have hmark := hm _ hgn
          rw [← hog] at hgn hcg hmark
          obtain ⟨g, hg⟩ : ∃ g, O.getD k 0 = g := ⟨_, rfl⟩
          obtain ⟨v, hv⟩ : ∃ v, Y.getD k 0 = v := ⟨_, rfl⟩
          rw [hg] at hgn hcg hmark hnx
          rw [hv] at oc hvn hcg
          have oc' := hK.cell hne hne oc
          have gne : ga ≠ h := by have := HGh.out h0; omega
          have cg' := hK.cell gne gne hcg
          have hc : ∃ u, wr.cell? ⟨h, g, none⟩ = some (.bool u) := ⟨_, by rw [hb.cell]; exact brw_get hmark⟩
          obtain ⟨u, hc⟩ := hc
          have hf := hb.frozen g
          have hl := hb.lt
          have lo' := World.block_lt_of_cell? _ _ oc'
          have lg' := World.block_lt_of_cell? _ _ cg'
          have i2 : (k : Int) < (s : Int) := by omega
          have i3 : ¬ (v : Int) < 0 := by omega
          have i4 : ¬ (v : Int) ≥ (n : Int) := by omega
          have i5 : (v : Int) < (n : Int) := by omega
          have i6 : ¬ (g : Int) < 0 := by omega
          have i7 : ¬ (g : Int) ≥ (n : Int) := by omega
          have i8 : (g : Int) < (n : Int) := by omega
          have HNx := Lib.hid hnx
          have HBl := Lib.hid hb
          have HKp := Lib.hid hK
          have Hus := Lib.hid hus
          have Hup := Lib.hid hup
          have Hrd := Lib.hid hrd
          have Hv := Lib.hid hv
          clear hb hK hm hnx hmark hus oc lo hg hog hup hrd hcg hv
          have HLk := Lib.hid hlt
          have ib : s ≤ 100 := Nat.le_trans HSn.out HN1.out
          go_upto_region 25 with fail
          rcases Nat.eq_zero_or_pos k with h00 | h00
          · subst h00
            subst eo
            have oc0 : wr.cell? ⟨bo, oo, none⟩ = some (.int .i64 (v : Int)) := oc'
            have j2 : 0 < s := hlt
            have j3 : ¬ s = 0 := by omega
            clear i2 hk
            go_quiet (fail)
            go_upto_region 27 with fail
            clear j2 j3
            go_wp2_with fail
            go_roundw
            case rel =>
              refine ⟨0 + 1, us.set g true, rfl, hlt, by rw [List.length_set]; exact Hus.out, ?_, HKp.out.trans ⟨?_, fun i hi h1 _ => Below.heap_setCell _ _ _ i h1⟩, HNx.out⟩
              · have := HBl.out.set g (.bool true)
                rw [brw_set] at this
                exact this
              · (repeat' (first | (with_reducible exact Below.refl _ _) | (with_reducible assumption) | (with_reducible refine Below.alloc ?_ ?_ _) | (with_reducible refine Below.drew ?_) | (with_reducible refine below_drewN ?_ _) | (with_reducible refine below_plus ?_ ?_ _ _) | (with_reducible refine Below.setCell ?_ ?_ _) | (with_reducible refine Below.setRow ?_ ?_ _) | go_size))
            case measure => simp [intOf]; omega
          · obtain ⟨j, hj⟩ : ∃ j, j + 1 = k := ⟨k - 1, by omega⟩
            obtain ⟨bo2, oo2, eo2, oc2, _⟩ := Hrd.out j (by omega)
            subst eo
            injection eo2 with eo2
            injection eo2 with eb eof _
            subst eb eof
            have oc2' := HKp.out.cell hne hne oc2
            have hlt2 := Hup.out j (by omega)
            rw [hj, Hv.out] at hlt2
            obtain ⟨v2, hv2⟩ : ∃ v, Y.getD j 0 = v := ⟨_, rfl⟩
            rw [hv2] at oc2' hlt2
            have j1 : (k : Int) > 0 := by omega
            have j5 : (0 : Int) < (k : Int) := by omega
            have j2 : IntKind.i64.wrap ((k : Int) - 1) = (j : Int) := by rw [IntKind.wrap_i64]; have := HSn.out; omega
            have j3 : ¬ (v : Int) ≤ (v2 : Int) := by omega
            have j4 : ¬ (j : Int) ≥ (s : Int) := by omega
            have j6 : (j : Int) < (s : Int) := by omega
            clear oc2 hv2 hlt2 hj
            go_quiet (fail)
            clear j1 j2 j3 j4 j5 j6 oc2' h00
            go_wp2_with fail
            go_roundw
            case rel =>
              refine ⟨k + 1, us.set g true, by have := HN1.out; have := HSn.out; have := HLk.out; go_num, HLk.out, by rw [List.length_set]; exact Hus.out, ?_, HKp.out.trans ⟨?_, fun i hi h1 _ => Below.heap_setCell _ _ _ i h1⟩, HNx.out⟩
              · have := HBl.out.set g (.bool true)
                rw [brw_set] at this
                exact this
              · (repeat' (first | (with_reducible exact Below.refl _ _) | (with_reducible assumption) | (with_reducible refine Below.alloc ?_ ?_ _) | (with_reducible refine Below.drew ?_) | (with_reducible refine below_drewN ?_ _) | (with_reducible refine below_plus ?_ ?_ _ _) | (with_reducible refine Below.setCell ?_ ?_ _) | (with_reducible refine Below.setRow ?_ ?_ _) | go_size))
            case measure => have := HLk.out; have := HSn.out; have := HN1.out; simp [intOf]; omega
        · obtain rfl : s = k := by omega
          have hM : ∀ j, j ∈ S → j < n → wr.cell? ⟨h, j, none⟩ = some (.bool true) := fun j hj hjn => by
            have h1 := hm j hjn
            rw [List.take_of_length_le (by rw [HOl.out]; exact Nat.le_refl _), decide_eq_true (HOp.out.mem_iff.2 hj)] at h1
            rw [hb.cell]
            exact brw_get h1
          have HM := Lib.hid hM
          have hJ7 := HJ6.out.trans (hK.below HhW.out HhW.out HJ6.out.size)
          have HJ7 := Lib.hid hJ7
          have HR7 := Lib.hid (fun (i : Nat) (hi : i < s) => show ∃ b o, ax = some ⟨b, o, none⟩ ∧ wr.cell? ⟨b, o + i, none⟩ = some (.int .i64 ((S.getD i 0 : Nat) : Int)) ∧ b < wr.heap.size from by
            obtain ⟨b, o, e, c, l⟩ := reads_at HR1.out (k := i) hi
            have hne : b ≠ h := by have := HK1.out _ e; simp only at this; omega
            exact ⟨b, o, e, hK.cell hne hne c, Nat.lt_of_lt_of_le l hK.size⟩)
          have HSm := Lib.hid (fun (i : Nat) (hi : i < s) => show S.getD i 0 ∈ S from getD_memN (by rw [HSs.out]; exact hi))
          have hl := hb.lt
          have HLt := Lib.hid hl
          have i2 : ¬ (s : Int) < (s : Int) := by omega
          obtain ⟨W7, rfl⟩ : ∃ W7, W7 = wr := ⟨_, rfl⟩
          clear hus hb hK hm hM hJ7 hk hlt HR1 HR2 HK1 HK2 HJ6 HA6 hl
          go_wp2_with fail
          clear i2
          go_loopw [22] (fun x wr => FiB W7 s x wr) (fun x _ => s - (intOf x).toNat)
          case atStart => exact ⟨0, rfl, Nat.zero_le _, Below.refl _ _⟩
          case round =>
            obtain ⟨k, rfl, hk, hB⟩ := hrel
            have HBw := Lib.hid hB
            by_cases hlt : k < s
            · obtain ⟨bo, oo, eo, oc, lo⟩ := HR7.out k hlt
              have hvn := HBx.out k hlt
              have hc := HM.out _ (HSm.out k hlt) hvn
              obtain ⟨v, hv⟩ : ∃ v, S.getD k 0 = v := ⟨_, rfl⟩
              rw [hv] at oc hvn hc
              replace oc := (World.cell?_of_block (a := ⟨bo, _, none⟩) (hB.block bo lo)).trans oc
              replace hc := (World.cell?_of_block (a := ⟨h, _, none⟩) (hB.block h HLt.out)).trans hc
              have l1 := World.block_lt_of_cell? _ _ oc
              have l2 := World.block_lt_of_cell? _ _ hc
              subst eo
              have i2 : (k : Int) < (s : Int) := by omega
              have i3 : ¬ (v : Int) < 0 := by omega
              have i4 : ¬ (v : Int) ≥ (n : Int) := by omega
              have i5 : (v : Int) < (n : Int) := by omega
              clear hB hv lo
              have HLk := Lib.hid hlt
              have ib : s ≤ 100 := Nat.le_trans HSn.out HN1.out
              go_wp2_with fail
              go_roundw
              case rel => exact ⟨k + 1, by have := HN1.out; have := HSn.out; have := HLk.out; go_num, HLk.out, HBw.out.trans ((show Below wr.heap.size wr _ by ((try simp only [← Array.append_assoc]); repeat' (first | (with_reducible exact Below.refl _ _) | (with_reducible assumption) | (with_reducible refine Below.alloc ?_ ?_ _) | (with_reducible refine Below.drew ?_) | (with_reducible refine below_drewN ?_ _) | (with_reducible exact below_d _ _ _ _ _) | (with_reducible refine below_snoc _ _ ?_ ?_) | (with_reducible refine below_plus ?_ ?_ _ _) | (with_reducible refine Below.setCell ?_ ?_ _) | (with_reducible refine Below.setRow ?_ ?_ _) | go_size))).mono HBw.out.size)⟩
              case measure => have := HLk.out; have := HSn.out; have := HN1.out; simp [intOf]; omega
            · obtain rfl : s = k := by omega
              have i2 : ¬ (s : Int) < (s : Int) := by omega
              clear hB
              go_wp2_with fail
              go_ret
              have q1 := HJ.out.size
              have q2 := HJ7.out.size
              exact ⟨rfl, junk_of_below ((HJ.out.trans (HJ7.out.mono q1)).trans (HBw.out.mono (by omega)))⟩
end Go.Proofs.Ytnpkhhchbahcpaa

/- Slices of boxes that come in as arguments, with their numbers' bounds. Package boxtree: Build. -/
import Derived.Test.YtnpkhhchbahcpaaBtRef
import Derived.Test.YtnpkhhchbahcpaaReH
import Derived.Test.YtnpkhhchbahcpaaBtFind
import Derived.Test.YtnpkhhchbahcpaaBtP
namespace Go.Proofs.Ytnpkhhchbahcpaa
section
set_option linter.unusedVariables false
set_option linter.unusedSimpArgs false
open Go.RowKit Go.ChangeShapes Go.WideShapes Go.ChangeAt Go.Joins

/-- A slice of boxes that reads as a list, and may be. -/
structure XRC (w : World) (a : Option Addr) (n ca : Nat) (L : List Bx) : Prop where
  rd : XReads w a n L
  ok : SOk a n ca
theorem XRC.below {w w' : World} {a : Option Addr} {n ca : Nat} {L : List Bx} (h : XRC w a n ca L) (hb : Below w.heap.size w w') : XRC w' a n ca L := ⟨h.rd.below hb, h.ok⟩
def InBs (L : List Bx) : Prop := ∀ b ∈ L, InB b
section
variable {H : Type} {enc : TypeId × Value → H} {w : World} {base : Nat} {spare : Nat → Bool} {held : Bool}
theorem boxes_open_b {fuel : Nat} {cs : List Value} {x : DataW H × List MemPlace} (h : DataW.trod enc Try.prog w base spare held fuel 22 cs = some x) :
    ∃ a n c L, cs = [.slice a n c] ∧ XRC w a n c L ∧ InBs L ∧ n ≤ 9223372036854775807 ∧ (a = none → n = 0 ∧ c = 0) := by
  rcases Deep.open_slice Try.underlying22 h with ⟨rfl, _⟩ | ⟨a, len, cap, m, n, D, Pl, rfl, hb, hl, hm, hmm, rfl, hx⟩
  · exact ⟨none, 0, 0, [], rfl, ⟨xreads_nil w, ⟨Nat.le_refl _, fun _ => rfl⟩⟩, (by intro q hq; cases hq), by decide, fun _ => ⟨rfl, rfl⟩⟩
  · have hlm : len ≤ m := by rw [hmm]; split <;> omega
    have each : ∀ i, i < len → ∃ q : Bx, (w.cell? (a.add (i * 4)) = some (.int .i64 q.1) ∧ w.cell? (a.add (i * 4 + 1)) = some (.int .i64 q.2.1) ∧ w.cell? (a.add (i * 4 + 2)) = some (.int .i64 q.2.2.1) ∧ w.cell? (a.add (i * 4 + 3)) = some (.int .i64 q.2.2.2)) ∧ InB q := by
      intro i hi
      obtain ⟨cs', h1, h2⟩ := hx i (by omega)
      rw [bx_cells] at h1
      obtain ⟨_, hlen, hcell⟩ := World.cells?_some h1
      match cs', hlen with
      | [v0, v1, v2, v3], _ =>
        obtain ⟨y0, y1, n', _, _, g0, g1⟩ := trod_struct2 Try.underlying33 h2
        simp [pt_cells] at g0 g1
        obtain ⟨x1, x2, rfl, rfl, k0, k1⟩ := open_pt4 g0
        obtain ⟨x3, x4, rfl, rfl, k2, k3⟩ := open_pt4 g1
        have e0 := hcell 0 (by omega)
        have e1 := hcell 1 (by omega)
        have e2 := hcell 2 (by omega)
        have e3 := hcell 3 (by omega)
        rw [Deep.add_add] at e0 e1 e2 e3
        exact ⟨(x1, x2, x3, x4), ⟨by simpa using e0, by simpa using e1, by simpa using e2, by simpa using e3⟩, k0, k1, k2, k3⟩
    obtain ⟨K, hK⟩ := Deep.choose_lt each
    refine ⟨some a, len, cap, (List.range len).map K, rfl, ⟨boxes_at fun i hi => (hK i hi).1, ⟨hl, fun e => by cases e⟩⟩, ?_, Nat.le_trans hl (Nat.le_trans hm (by decide)), fun e => by cases e⟩
    intro q hq
    obtain ⟨i, hi, rfl⟩ := List.mem_map.1 hq
    exact (hK i (List.mem_range.1 hi)).2
end
end

section
set_option linter.unusedVariables false
set_option linter.unusedSimpArgs false
open Go.RowKit

theorem own_set {w : World} {base es b o : Nat} {e : TypeId} {v u : Value} {k : Nat} {xs : List Value} (h : w.ownsRow base e es v k xs) (hb : b < base) : (w.setCell ⟨b, o, none⟩ u).ownsRow base e es v k xs := by
  obtain ⟨h1, h2⟩ := h
  refine ⟨h1, ?_⟩
  rcases h2 with h2 | ⟨g, cap, cur, hv, hg, hc, hr⟩
  · exact .inl h2
  · exact .inr ⟨g, cap, cur, hv, hg, (Below.heap_setCell _ _ _ g (fun e => by have e2 : g = b := e; omega)).trans hc, hr⟩
theorem own_slice {w : World} {base es : Nat} {e : TypeId} {v : Value} {k : Nat} {xs : List Value} (h : w.ownsRow base e es v k xs) : ∃ a c, v = .slice a k c := by
  obtain ⟨_, h2⟩ := h
  rcases h2 with ⟨rfl, rfl⟩ | ⟨g, cap, cur, rfl, _⟩
  · exact ⟨_, _, rfl⟩
  · exact ⟨_, _, rfl⟩
theorem own_set' {w : World} {base es b o : Nat} {e : TypeId} {v u : Value} {k : Nat} {xs : List Value} (h : w.ownsRow base e es v k xs) (hb : v.ownBlock ≠ some b) : (w.setCell ⟨b, o, none⟩ u).ownsRow base e es v k xs := by
  obtain ⟨h1, h2⟩ := h
  refine ⟨h1, ?_⟩
  rcases h2 with h2 | ⟨g, cap, cur, rfl, hg, hc, hr⟩
  · exact .inl h2
  · exact .inr ⟨g, cap, cur, rfl, hg, (Below.heap_setCell _ _ _ g (fun e => hb (by have e2 : g = b := e; simp [Value.ownBlock, e2]))).trans hc, hr⟩
theorem own_low {w w' : World} {base es B : Nat} {e : TypeId} {v : Value} {k : Nat} {xs : List Value} (h : w.ownsRow base e es v k xs) (hl : ∀ g, v.ownBlock = some g → g < B) (hb : Below B w w') : w'.ownsRow base e es v k xs := by
  obtain ⟨h1, h2⟩ := h
  refine ⟨h1, ?_⟩
  rcases h2 with h2 | ⟨g, cap, cur, rfl, hg, hc, hr⟩
  · exact .inl h2
  · exact .inr ⟨g, cap, cur, rfl, hg, (hb.block g (hl g (by simp [Value.ownBlock]))).trans hc, hr⟩
theorem own_apart {w : World} {b1 b2 s1 s2 : Nat} {e1 e2 : TypeId} {v v2 : Value} {k k2 : Nat} {xs ys : List Value} (h : w.ownsRow b1 e1 s1 v k xs) (h2 : w.ownsRow b2 e2 s2 v2 k2 ys) (he : e1 ≠ e2) : v.ownBlock = none ∨ v.ownBlock ≠ v2.ownBlock := by
  obtain ⟨_, h⟩ := h
  obtain ⟨_, h2⟩ := h2
  rcases h with ⟨rfl, _⟩ | ⟨g, cap, cur, rfl, _, hc, _⟩
  · exact .inl rfl
  · right
    rcases h2 with ⟨rfl, _⟩ | ⟨g2, cap2, cur2, rfl, _, hc2, _⟩
    · simp [Value.ownBlock]
    · intro hv
      simp [Value.ownBlock] at hv
      subst hv
      rw [hc] at hc2
      injection hc2 with hc2
      injection hc2 with _ hc2 _
      exact he hc2
/-- A tree's block. -/
def TBlk (w : World) (tb : Nat) (p b o : Value) : Prop := w.heap[tb]? = some (.cells #[p, b, o] 48 (0, 0))
theorem TBlk.cell {w : World} {tb : Nat} {p b o : Value} (h : TBlk w tb p b o) : w.cell? ⟨tb, 0, none⟩ = some p ∧ w.cell? ⟨tb, 1, none⟩ = some b ∧ w.cell? ⟨tb, 2, none⟩ = some o :=
  ⟨cell_of_row w tb 0 _ _ _ h, cell_of_row w tb 1 _ _ _ h, cell_of_row w tb 2 _ _ _ h⟩
theorem TBlk.frozen {w : World} {tb : Nat} {p b o : Value} (h : TBlk w tb p b o) (j : Nat) : w.frozen? ⟨tb, j, none⟩ = false := by
  unfold TBlk at h; simp [World.frozen?, h]
theorem TBlk.set2 {w : World} {tb : Nat} {p b o : Value} (h : TBlk w tb p b o) (u : Value) : TBlk (w.setCell ⟨tb, 2, none⟩ u) tb p b u := by
  obtain ⟨hlt, hk⟩ := Array.getElem?_eq_some_iff.1 h
  show (w.heap.modify tb _)[tb]? = _
  rw [Array.getElem?_eq_getElem (by rw [Array.size_modify]; exact hlt), Array.getElem_modify_self, hk]
  rfl
theorem TBlk.set1 {w : World} {tb : Nat} {p b o : Value} (h : TBlk w tb p b o) (u : Value) : TBlk (w.setCell ⟨tb, 1, none⟩ u) tb p u o := by
  obtain ⟨hlt, hk⟩ := Array.getElem?_eq_some_iff.1 h
  show (w.heap.modify tb _)[tb]? = _
  rw [Array.getElem?_eq_getElem (by rw [Array.size_modify]; exact hlt), Array.getElem_modify_self, hk]
  rfl
theorem TBlk.grown {w w' : World} {tb : Nat} {p b o : Value} {row : Option Nat} (h : TBlk w tb p b o) (hg : w.grownBy w' row) (hne : row ≠ some tb) : TBlk w' tb p b o :=
  (hg.block tb (heap_lt h) (fun e => hne e.symm)).trans h
theorem own_type {w : World} {base es tb : Nat} {e : TypeId} {v p b o : Value} {k : Nat} {xs : List Value} (h : w.ownsRow base e es v k xs) (ht : TBlk w tb p b o) (he : e ≠ 48) : v.ownBlock ≠ some tb := by
  obtain ⟨_, h2⟩ := h
  intro hv
  rcases h2 with ⟨rfl, _⟩ | ⟨g, cap, cur, rfl, _, hc, _⟩
  · cases hv
  · simp [Value.ownBlock] at hv
    subst hv
    unfold TBlk at ht
    rw [ht] at hc
    injection hc with hc
    injection hc with _ hc _
    exact he hc.symm
theorem TBlk.through {wr Wx w' : World} {tb base es k : Nat} {e : TypeId} {p b o v : Value} {xs : List Value} (h : TBlk wr tb p b o) (ho : wr.ownsRow base es e v k xs) (he : es ≠ 48) (hb : Below wr.heap.size wr Wx) (hg : Wx.grownBy w' v.ownBlock) : TBlk w' tb p b o :=
  TBlk.grown (show TBlk Wx tb p b o from (hb.block tb (heap_lt h)).trans h) hg (own_type ho h he)
theorem mk_trb {w : World} {tb base base2 n : Nat} {vb v : Value} {L : List Bx} {O : List Nat} (ht : TBlk w tb (.pointer (some ⟨tb, 0, none⟩)) vb v) (hL : L.length = n) (h0 : 0 < n) (hle : n ≤ 1000)
    (hb : w.ownsRow base 33 4 vb (2 * n - 1) (boxcells (L ++ List.replicate (n - 1) Bx0))) (ho : w.ownsRow base2 3 1 v n (ints (nums O))) (hO : O.length = n) (hm : ∀ i ∈ O, i < n) (hn : O.Nodup) :
    ∃ bb ob cb co, vb = .slice (some ⟨bb, 0, none⟩) (2 * n - 1) cb ∧ v = .slice (some ⟨ob, 0, none⟩) n co ∧ base ≤ bb ∧ base2 ≤ ob ∧ bb < w.heap.size ∧ ob < w.heap.size ∧ TrB tb bb ob n cb co L O (fun _ => Bx0) w := by
  have hb' := hb
  have ho' := ho
  obtain ⟨_, h2⟩ := hb
  obtain ⟨_, h3⟩ := ho
  rcases h2 with ⟨_, h2⟩ | ⟨bb, cb, cur, rfl, hg, hc, hnc, hcap, hcs, htk⟩
  · omega
  rcases h3 with ⟨_, h3⟩ | ⟨ob, co, cur2, rfl, hg2, hc2, hnc2, hcap2, hcs2, htk2⟩
  · omega
  obtain ⟨c0, c1, c2⟩ := ht.cell
  have n1 : tb ≠ bb := fun e => own_type hb' ht (by decide) (by simp [Value.ownBlock, e])
  have n2 : tb ≠ ob := fun e => own_type ho' ht (by decide) (by simp [Value.ownBlock, e])
  have n3 : bb ≠ ob := fun e => by
    subst e
    rw [hc] at hc2
    injection hc2 with hc2
    injection hc2 with _ hc2 _
    exact absurd hc2 (by decide)
  have fb : ∀ j, w.frozen? ⟨bb, j, none⟩ = false := fun j => by simp [World.frozen?, hc]
  have fo : ∀ j, w.frozen? ⟨ob, j, none⟩ = false := fun j => by simp [World.frozen?, hc2]
  have hrow : ∀ i, i < 2 * n - 1 → (L ++ List.replicate (n - 1) Bx0).getD i Bx0 = rowB n L (fun _ => Bx0) i := fun i hi => by
    unfold rowB
    rw [List.getD_eq_getElem?_getD]
    by_cases h : i < n
    · rw [if_pos h, List.getElem?_append_left (by omega), List.getD_eq_getElem?_getD]
    · rw [if_neg h, List.getElem?_append_right (by omega), List.getElem?_replicate, if_pos (by omega)]; rfl
  have hcell : ∀ j u, (boxcells (L ++ List.replicate (n - 1) Bx0))[j]? = some u → w.cell? ⟨bb, j, none⟩ = some u := fun j u hu => by
    have := hb'.cells (g := bb) rfl j u hu
    have ha : (⟨bb, 0, none⟩ : Addr).add j = ⟨bb, j, none⟩ := by unfold Addr.add; split <;> simp_all
    rw [ha] at this
    exact this
  have hbx : ∀ i, i < 2 * n - 1 → _ := fun i hi => boxcells_at (L ++ List.replicate (n - 1) Bx0) i (by rw [List.length_append, List.length_replicate]; omega)
  refine ⟨bb, ob, cb, co, rfl, rfl, hg, hg2, heap_lt hc, heap_lt hc2, {
    self := c0
    bs := c1
    os := c2
    hL := hL
    hO := hO
    pos := h0
    le := hle
    hco := hnc2
    hcb := hnc
    ord := fun i hi => ⟨?_, fo i⟩
    b1 := fun i hi => ⟨by rw [← hrow i hi]; exact hcell _ _ (hbx i hi).1, fb _⟩
    b2 := fun i hi => ⟨by rw [← hrow i hi]; exact hcell _ _ (hbx i hi).2.1, fb _⟩
    b3 := fun i hi => ⟨by rw [← hrow i hi]; exact hcell _ _ (hbx i hi).2.2.1, fb _⟩
    b4 := fun i hi => ⟨by rw [← hrow i hi]; exact hcell _ _ (hbx i hi).2.2.2, fb _⟩
    n1 := n1
    n2 := n2
    n3 := n3
    mem := hm
    nodup := hn }⟩
  have := ho'.cells (g := ob) rfl i (.int .i64 ((O.getD i 0 : Nat) : Int)) (by
    unfold ints nums
    rw [List.getElem?_map, List.getElem?_map, List.getElem?_eq_getElem (by omega), List.getD_eq_getElem?_getD, List.getElem?_eq_getElem (by omega)]
    rfl)
  have ha : (⟨ob, 0, none⟩ : Addr).add i = ⟨ob, i, none⟩ := by unfold Addr.add; split <;> simp_all
  rw [ha] at this
  exact this

/-- Between two rounds: the first k places stand in the order. -/
def BlAt (W : World) (tb : Nat) (vb : Value) (n : Nat) (x : Value) (wr : World) : Prop := ∃ (k : Nat) (v : Value), x = .int .i64 (k : Int) ∧ k ≤ n ∧ TBlk wr tb (.pointer (some ⟨tb, 0, none⟩)) vb v ∧ wr.ownsRow (tb + 1) 3 1 v k (ints (nums (List.range k))) ∧ Below tb W wr ∧ (k = 0 → v = .slice none 0 0)
set_option maxRecDepth 100000 in
theorem n_btBuildLong (w : World) (a : Option Addr) (n ca : Nat) (hn : 1000 < n) : Calls Try.prog 11 #[.slice a n ca] w fun e w' => e = .returned (.tuple #[.pointer none, .int .i64 3]) ∧ w' = w := by
  have i1 : (1000 : Int) < (n : Int) := by omega
  have i2 : (n : Int) > 1000 := by omega
  clear hn
  go_enter Try.func11, Try.ntmps11
  go_wp2_with fail
  go_ret2
  exact ⟨rfl, rfl⟩
set_option maxRecDepth 100000 in
set_option maxHeartbeats 4000000 in
theorem n_btBuild (w : World) (a : Option Addr) (n ca : Nat) (L : List Bx) (hX : XRC w a n ca L) (hin : InBs L) (hn : n ≤ 1000) :
    Calls Try.prog 11 #[.slice a n ca] w fun e w' => (∃ tb, e = .returned (.tuple #[.pointer (some ⟨tb, 0, none⟩), .int .i64 0]) ∧ TreeB w' w.heap.size w'.heap.size tb L) ∧ Junk w w' := by
  have hL := hX.rd.1
  have HCl := Lib.hid (n_btClone w a n ca L hX.rd hX.ok (by omega))
  have HIn := Lib.hid hin
  have HL := Lib.hid hL
  have i1 : ¬ (n : Int) > 1000 := by omega
  clear hX hin hL
  go_enter Try.func11, Try.ntmps11
  go_wp2_with (go_at_call 28; refine HCl.out.mono ?_; rintro e w1 ⟨⟨vb, rfl, ho⟩, hb1⟩; obtain ⟨va, vc, rfl, _, _⟩ := xreads_of_owns ho; have HVb := Lib.hid ho; have HB1 := Lib.hid hb1; clear ho hb1)
  obtain ⟨tb, htb⟩ : ∃ t, w1.heap.size = t := ⟨_, rfl⟩
  have hsz1 : w.heap.size ≤ tb := by have := HB1.out.size; omega
  obtain ⟨vb, hvb⟩ : ∃ v, Value.slice va n vc = v := ⟨_, rfl⟩
  obtain ⟨W2, hW2⟩ : ∃ W, w1.alloc (Obj.cells #[Value.pointer (some ⟨w1.heap.size, 0, none⟩), Value.slice va n vc, Value.slice none 0 0] 48) = W := ⟨_, rfl⟩
  have hblk : TBlk W2 tb (.pointer (some ⟨tb, 0, none⟩)) vb (.slice none 0 0) := by
    rw [← hW2, ← htb, ← hvb]
    exact World.alloc_heap_new w1 _
  have hvo : W2.ownsRow w.heap.size 33 4 vb n (boxcells L) := by
    rw [← hW2, ← hvb]
    exact HVb.out.alloc _
  have hbe : Below w.heap.size w W2 := by rw [← hW2]; exact HB1.out.trans (by have := HB1.out.size; ((try simp only [← Array.append_assoc]); repeat' (first | (with_reducible exact Below.refl _ _) | (with_reducible assumption) | (with_reducible refine Below.alloc ?_ ?_ _) | (with_reducible refine Below.drew ?_) | (with_reducible refine below_drewN ?_ _) | (with_reducible exact below_d _ _ _ _ _) | (with_reducible refine below_snoc _ _ ?_ ?_) | (with_reducible refine below_plus ?_ ?_ _ _) | (with_reducible refine Below.setCell ?_ ?_ _) | (with_reducible refine Below.setRow ?_ ?_ _) | go_size)))
  have HVe := Lib.hid hvb
  have HBe := Lib.hid hbe
  have HVo := Lib.hid hvo
  have hvlt : ∀ g, vb.ownBlock = some g → g < tb := fun g hg => by rw [← hvb] at hg; rw [← htb]; exact (HVb.out.lt g hg).2
  have HVl := Lib.hid hvlt
  have HBl := Lib.hid hblk
  rw [hW2, htb]
  clear hbe hvo hblk hvb hvlt hW2 htb HVb HB1
  go_loopw [19] (fun x wr => BlAt W2 tb vb n x wr) (fun x _ => n - (intOf x).toNat)
  case atStart => exact ⟨0, .slice none 0 0, rfl, Nat.zero_le _, HBl.out, inil_owns _ _, Below.refl _ _, fun _ => rfl⟩
  case round =>
    obtain ⟨k, v, rfl, hk, hb, ho, hB, hk0⟩ := hrel
    obtain ⟨c0, c1, c2⟩ := hb.cell
    have f2 := hb.frozen 2
    have hlt := heap_lt hb
    have HB := Lib.hid hB
    have HO := Lib.hid ho
    have HTb := Lib.hid hb
    by_cases hlk : k < n
    · have i2 : (k : Int) < (n : Int) := by omega
      have HN := Lib.hid (show nums (List.range k) ++ [(k : Int)] = nums (List.range (k + 1)) by rw [List.range_succ, nums_snoc])
      have HFt := Lib.hid (show Fit64 [(k : Int)] 1 from fun i hi => by
        obtain rfl : i = 0 := by omega
        show -9223372036854775808 ≤ (k : Int) ∧ (k : Int) ≤ 9223372036854775807
        omega)
      clear hb ho hB hk0
      go_wp2_with (at_builtin; refine wpList_app rfl (.tmp 26) (.tmp 28) rfl (tb + 1) _ k (nums (List.range k)) rfl (powns_below HO.out (by ((try simp only [← Array.append_assoc]); repeat' (first | (with_reducible exact Below.refl _ _) | (with_reducible assumption) | (with_reducible refine Below.alloc ?_ ?_ _) | (with_reducible refine Below.drew ?_) | (with_reducible refine below_drewN ?_ _) | (with_reducible exact below_d _ _ _ _ _) | (with_reducible refine below_snoc _ _ ?_ ?_) | (with_reducible refine below_plus ?_ ?_ _ _) | (with_reducible refine Below.setCell ?_ ?_ _) | (with_reducible refine Below.setRow ?_ ?_ _) | go_size)))) _ 1 1 [(k : Int)] rfl (by intro h; cases h) (reads_cell (by simp [go_sem]) HFt.out) (by omega) (by simp; omega) ?_; intro v' w' hown' hg'; obtain ⟨va', vc', rfl⟩ := own_slice hown'; have HO' := Lib.hid hown'; have HTb' := Lib.hid (HTb.out.through HO.out (by decide) (by ((try simp only [← Array.append_assoc]); repeat' (first | (with_reducible exact Below.refl _ _) | (with_reducible assumption) | (with_reducible refine Below.alloc ?_ ?_ _) | (with_reducible refine Below.drew ?_) | (with_reducible refine below_drewN ?_ _) | (with_reducible exact below_d _ _ _ _ _) | (with_reducible refine below_snoc _ _ ?_ ?_) | (with_reducible refine below_plus ?_ ?_ _ _) | (with_reducible refine Below.setCell ?_ ?_ _) | (with_reducible refine Below.setRow ?_ ?_ _) | go_size))) hg'); have HBg := Lib.hid (grown_below (B := tb) (a := W2) (HB.out.trans (by ((try simp only [← Array.append_assoc]); repeat' (first | (with_reducible exact Below.refl _ _) | (with_reducible assumption) | (with_reducible refine Below.alloc ?_ ?_ _) | (with_reducible refine Below.drew ?_) | (with_reducible refine below_drewN ?_ _) | (with_reducible exact below_d _ _ _ _ _) | (with_reducible refine below_snoc _ _ ?_ ?_) | (with_reducible refine below_plus ?_ ?_ _ _) | (with_reducible refine Below.setCell ?_ ?_ _) | (with_reducible refine Below.setRow ?_ ?_ _) | go_size)))) hg' (by simp; omega) (fun k hk => Nat.le_of_succ_le (powns_block HO.out k hk))); obtain ⟨c0', c1', c2'⟩ := HTb'.out.cell; have f2' := HTb'.out.frozen 2; have hl' := heap_lt HTb'.out; clear hown' hg')
      go_roundw
      case rel => exact ⟨k + 1, _, by go_num, by omega, HTb'.out.set2 _, by rw [← HN.out]; exact own_set HO'.out (by omega), HBg.out.setCell (Nat.le_refl tb) _, fun h => by omega⟩
      case measure => simp [intOf]; omega
    · obtain rfl : n = k := by omega
      clear hk
      have hBw : Below w.heap.size w wr := HBe.out.trans (hB.mono hsz1)
      have hor : ordK (keyB L) n 0 (List.range n) = ordB L := by unfold ordB; rw [HL.out]
      by_cases h1 : n ≤ 1
      · have HTr := Lib.hid (show TreeB wr w.heap.size wr.heap.size tb L from by
          refine ⟨hsz1, hlt, Nat.le_refl _, ?_⟩
          by_cases h0 : n = 0
          · exact .inl ⟨List.eq_nil_of_length_eq_zero (by rw [HL.out]; exact h0), c0, by rw [← hk0 h0]; exact c2⟩
          · obtain rfl : n = 1 := by omega
            obtain ⟨bb, ob, cb, co, _, _, g1, g2, g3, g4, hT⟩ := mk_trb (base := w.heap.size) (base2 := tb + 1) (L := L) (O := List.range 1) hb HL.out (by decide) (by decide) (by
              rw [show List.replicate (1 - 1) Bx0 = [] from rfl, List.append_nil]
              exact own_low HVo.out HVl.out hB) ho rfl (fun i hi => by simpa using hi) List.nodup_range
            rw [ord_one (by decide)] at hor
            rw [hor] at hT
            exact .inr ⟨bb, ob, 1, cb, co, _, ⟨g1, g3⟩, ⟨by omega, g4⟩, hT, .inl (by rw [← hor]; decide)⟩)
        have HJ := Lib.hid hBw
        have i2 : ¬ (n : Int) > 1 := by omega
        have i3 : ¬ (1 : Int) < (n : Int) := by omega
        clear hb ho hB hk0 hBw hor h1
        go_wp2_with fail
        go_ret2
        exact ⟨⟨tb, rfl, HTr.out⟩, junk_of_below HJ.out⟩
      · obtain ⟨m, hm⟩ : ∃ m, n - 1 = m := ⟨_, rfl⟩
        have hvr := own_low HVo.out HVl.out hB
        obtain ⟨v2, w2, hrun, ho2, hg2⟩ := append_make wr w.heap.size 22 vb n m _ hvr (by omega) (by omega) (by omega) (by omega)
        obtain ⟨va2, vc2, rfl⟩ := own_slice ho2
        have ht2 : TBlk w2 tb (.pointer (some ⟨tb, 0, none⟩)) vb v := hb.grown hg2 (own_type hvr hb (by decide))
        have hv2 := ho.kept hg2 (own_apart ho hvr (by decide))
        have hb2 : Below w.heap.size w w2 := grown_below (B := w.heap.size) (a := w) hBw hg2 (by omega) (powns_block hvr)
        obtain ⟨d0, d1, d2⟩ := ht2.cell
        have f1 := ht2.frozen 1
        have l2 := heap_lt ht2
        obtain ⟨W3, hW3⟩ : ∃ W, w2.setCell ⟨tb, 1, none⟩ (.slice va2 (n + m) vc2) = W := ⟨_, rfl⟩
        have ht3 : TBlk W3 tb (.pointer (some ⟨tb, 0, none⟩)) (.slice va2 (n + m) vc2) v := by rw [← hW3]; exact ht2.set1 _
        have hb3 : Below w.heap.size w W3 := by rw [← hW3]; exact hb2.setCell (show w.heap.size ≤ tb from hsz1) _
        have ho3 : W3.ownsRow w.heap.size 33 4 (.slice va2 (n + m) vc2) (2 * n - 1) (boxcells (L ++ List.replicate (n - 1) Bx0)) := by
          rw [← hW3, boxcells_app, hm, show 2 * n - 1 = n + m by omega]
          exact own_set' ho2 (own_type ho2 ht2 (by decide))
        have hv3 : W3.ownsRow (tb + 1) 3 1 v n (ints (nums (List.range n))) := by rw [← hW3]; exact own_set' hv2 (own_type hv2 ht2 (by decide))
        obtain ⟨bb, ob, cb, co, e1, e2, g1, g2, g3, g4, hT⟩ := mk_trb ht3 HL.out (by omega) hn ho3 hv3 (by simp) (fun i hi => by simpa using hi) List.nodup_range
        have HWh := Lib.hid (n_btWhole tb W3 _ n co hT.os)
        have HDv := Lib.hid (fun (W : World) (hW : TrB tb bb ob n cb co L (List.range n) (fun _ => Bx0) W) => show Calls Try.prog 29 #[.pointer (some ⟨tb, 0, none⟩), ptV 0 n n false] W fun e w' => e = .returned (.tuple #[]) ∧
            (∃ N', TrB tb bb ob n cb co L (ordB L) N' w' ∧ GoodB L N' n (ordB L) n) ∧ Kept2 bb ob W w' from by
          have hD := n_btDivide L HIn.out tb bb ob n cb co n 0 0 n n (List.range n) (fun _ => Bx0) W (Nat.le_refl _) (by omega) (by omega) (Nat.le_refl _) (by omega) hW
          have es : slc (List.range n) 0 n = List.range n := by
            have := slc_all (List.range n)
            rw [List.length_range] at this
            exact this
          have ey : lvY 0 = false := rfl
          rw [es, hor, ey, spl_all (by rw [← hor, ord_len])] at hD
          exact hD.mono fun e w' ⟨k1, ⟨N', k2, _, k4⟩, k5⟩ => ⟨k1, ⟨N', k2, k4⟩, k5⟩)
        have HT3 := Lib.hid hT
        have HB3 := Lib.hid hb3
        have HG := Lib.hid (show w.heap.size ≤ bb ∧ w.heap.size ≤ ob ∧ w.heap.size ≤ tb ∧ bb < W3.heap.size ∧ ob < W3.heap.size ∧ tb < W3.heap.size from ⟨g1, by omega, hsz1, g3, g4, heap_lt ht3⟩)
        have HR := Lib.hid hrun
        have i2 : (n : Int) > 1 := by omega
        have i3 : (1 : Int) < (n : Int) := by omega
        have i4 : IntKind.i64.wrap ((n : Int) - 1) = (m : Int) := by simp [IntKind.wrap, IntKind.signed, IntKind.bits]; omega
        clear hb ho hB hk0 hBw hor h1 hvr hrun ho2 hg2 ht2 hv2 hb2 ht3 hb3 ho3 hv3 e1 e2 g1 g2 g3 g4 hT hm HTb HO HB HBl HVl HVo HBe hlk
        unfold ptV at *
        go_wp2_with (at_builtin; refine Lib.wpList_append_run _ rfl _ _ _ _ rfl _ _ rfl rfl _ _ HR.out ?_)
        refine HWh.out.mono ?_
        rintro e w4 ⟨rfl, J4, d4, rfl⟩
        go_wp2_with fail
        refine (HDv.out _ (HT3.out.plus _ _)).mono ?_
        rintro e w5 ⟨rfl, ⟨N', hT5, hG5⟩, hK5⟩
        have hb5 : Below w.heap.size w w5 := (HB3.out.trans (show Below w.heap.size W3 (W3.plus J4 d4) from (Junk.below ⟨J4, d4, rfl⟩ : Below W3.heap.size _ _).mono HB3.out.size)).trans (hK5.below HG.out.1 HG.out.2.1 (by have := HB3.out.size; simp; omega))
        have hs5 := hK5.size
        have HTr := Lib.hid (show TreeB w5 w.heap.size w5.heap.size tb L from by
          obtain ⟨q1, q2, q3, q4, q5, q6⟩ := HG.out
          have : W3.heap.size ≤ w5.heap.size := Nat.le_trans (by simp) hs5
          exact ⟨q3, by omega, Nat.le_refl _, .inr ⟨bb, ob, n, cb, co, N', ⟨q1, by omega⟩, ⟨q2, by omega⟩, hT5, hG5⟩⟩)
        have HJ := Lib.hid hb5
        clear hT5 hG5 hK5 hb5 hs5
        go_wp2_with fail
        go_ret2
        exact ⟨⟨tb, rfl, HTr.out⟩, junk_of_below HJ.out⟩
end
end Go.Proofs.Ytnpkhhchbahcpaa

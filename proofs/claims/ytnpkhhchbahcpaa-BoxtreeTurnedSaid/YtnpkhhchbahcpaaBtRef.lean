/- Slices of boxes: what reads as a list, rows of the call's own, copies, arguments. apportionref12: At, Over, Depth. apportionref12: less, ahead. apportionref12: order, Order. -/
import Derived.Test.YtnpkhhchbahcpaaBtOne
import Derived.Test.YtnpkhhchbahcpaaPtArg
import Derived.Test.YtnpkhhchbahcpaaPtTwo
import Derived.Test.YtnpkhhchbahcpaaRgRest
import Derived.Test.YtnpkhhchbahcpaaPtOne
import Derived.Test.YtnpkhhchbahcpaaKitTwo
import Derived.Test.YtnpkhhchbahcpaaNumRest
import Derived.Test.YtnpkhhchbahcpaaKitOne
import Derived.Deep.RegionLaw
namespace Go.Proofs.Ytnpkhhchbahcpaa
section
set_option linter.unusedVariables false
set_option linter.unusedSimpArgs false
open Go.RowKit Go.ChangeShapes Go.WideShapes Go.ChangeAt Go.Joins

abbrev Bx0 : Bx := (0, 0, 0, 0)
def bvB (b : Bx) : Value := bxV b.1 b.2.1 b.2.2.1 b.2.2.2
/-- A slice of boxes that reads as a list. -/
def XReads (w : World) (a : Option Addr) (n : Nat) (L : List Bx) : Prop :=
  L.length = n ∧ (n = 0 ∨ ∃ b o, a = some ⟨b, o, none⟩ ∧ ∀ i, i < n → w.cell? ⟨b, o + i * 4, none⟩ = some (.int .i64 (L.getD i Bx0).1) ∧ w.cell? ⟨b, o + i * 4 + 1, none⟩ = some (.int .i64 (L.getD i Bx0).2.1) ∧
    w.cell? ⟨b, o + i * 4 + 2, none⟩ = some (.int .i64 (L.getD i Bx0).2.2.1) ∧ w.cell? ⟨b, o + i * 4 + 3, none⟩ = some (.int .i64 (L.getD i Bx0).2.2.2))
theorem xreads_nil (w : World) : XReads w none 0 [] := ⟨rfl, .inl rfl⟩
theorem XReads.below {w w' : World} {a : Option Addr} {n : Nat} {L : List Bx} (h : XReads w a n L) (hb : Below w.heap.size w w') : XReads w' a n L := by
  obtain ⟨h1, h2⟩ := h
  refine ⟨h1, ?_⟩
  rcases h2 with h2 | ⟨b, o, he, hc⟩
  · exact .inl h2
  · refine .inr ⟨b, o, he, fun i hi => ?_⟩
    obtain ⟨e1, e2, e3, e4⟩ := hc i hi
    have k := hb.block b (World.block_lt_of_cell? _ _ e1)
    exact ⟨(World.cell?_of_block (a := ⟨b, o + i * 4, none⟩) k).trans e1, (World.cell?_of_block (a := ⟨b, o + i * 4 + 1, none⟩) k).trans e2, (World.cell?_of_block (a := ⟨b, o + i * 4 + 2, none⟩) k).trans e3, (World.cell?_of_block (a := ⟨b, o + i * 4 + 3, none⟩) k).trans e4⟩
theorem xreads_eqh {w1 w2 : World} {a : Option Addr} {n : Nat} {L : List Bx} (h : XReads w1 a n L) (e : w2 = w1) : XReads w2 a n L := by subst e; exact h

/-- The cells of a row of boxes. -/
def boxcells : List Bx → List Value
  | [] => []
  | b :: L => .int .i64 b.1 :: .int .i64 b.2.1 :: .int .i64 b.2.2.1 :: .int .i64 b.2.2.2 :: boxcells L
theorem boxcells_len : ∀ L : List Bx, (boxcells L).length = L.length * 4
  | [] => rfl
  | b :: L => by show (boxcells L).length + 1 + 1 + 1 + 1 = (L.length + 1) * 4; rw [boxcells_len L]; omega
theorem boxcells_app : ∀ K M : List Bx, boxcells (K ++ M) = boxcells K ++ boxcells M
  | [], M => rfl
  | b :: K, M => by simp [boxcells, boxcells_app K M]
theorem boxcells_one : ∀ (L : List Bx) (u : Value), u ∈ boxcells L → u.oneCell' = true
  | [], u, h => by cases h
  | b :: L, u, h => by
    unfold boxcells at h
    simp only [List.mem_cons] at h
    rcases h with rfl | rfl | rfl | rfl | h
    · rfl
    · rfl
    · rfl
    · rfl
    · exact boxcells_one L u h
theorem boxcells_at : ∀ (L : List Bx) (i : Nat), i < L.length → (boxcells L)[i * 4]? = some (.int .i64 (L.getD i Bx0).1) ∧ (boxcells L)[i * 4 + 1]? = some (.int .i64 (L.getD i Bx0).2.1) ∧ (boxcells L)[i * 4 + 2]? = some (.int .i64 (L.getD i Bx0).2.2.1) ∧ (boxcells L)[i * 4 + 3]? = some (.int .i64 (L.getD i Bx0).2.2.2)
  | [], i, h => by cases h
  | b :: L, 0, h => by simp [boxcells]
  | b :: L, i + 1, h => by
    have := boxcells_at L i (by simpa using h)
    unfold boxcells
    rw [show (i + 1) * 4 = i * 4 + 4 by omega]
    simpa using this
theorem info_bx : ∃ i, Try.prog.info? 33 = some i ∧ i.zero = some (.agg #[.int .i64 0, .int .i64 0, .int .i64 0, .int .i64 0]) ∧ i.size = 4 ∧ i.bytes = 32 := by
  have h : (Try.prog.info? 33).map (fun i => (i.zero, i.size, i.bytes)) = some (some (.agg #[.int .i64 0, .int .i64 0, .int .i64 0, .int .i64 0]), 4, 32) := by kernel_rfl
  cases hi : Try.prog.info? 33 with
  | none => rw [hi] at h; cases h
  | some i =>
    rw [hi] at h
    simp at h
    exact ⟨i, rfl, h.1, h.2.1, h.2.2⟩
theorem xreads_of_owns {w : World} {base : Nat} {v : Value} {n : Nat} {L : List Bx} (h : w.ownsRow base 33 4 v n (boxcells L)) : ∃ a cap, v = .slice a n cap ∧ XReads w a n L ∧ SOk a n cap := by
  obtain ⟨hl, h⟩ := h
  rw [boxcells_len] at hl
  have hl' : L.length = n := by omega
  rcases h with ⟨rfl, rfl⟩ | ⟨g, cap, cur, rfl, _, hc, hnc, _, hs, ht⟩
  · exact ⟨none, 0, rfl, ⟨hl', .inl rfl⟩, ⟨Nat.le_refl _, fun _ => rfl⟩⟩
  · refine ⟨_, cap, rfl, ⟨hl', .inr ⟨g, 0, rfl, fun i hi => ?_⟩⟩, ⟨hnc, fun h => by cases h⟩⟩
    obtain ⟨h1, h2, h3, h4⟩ := boxcells_at L i (by omega)
    rw [← ht] at h1 h2 h3 h4
    rw [List.getElem?_take_of_lt (by omega)] at h1 h2 h3 h4
    have e : ∀ k v, cur.toList[k]? = some v → w.cell? ⟨g, 0 + k, none⟩ = some v := by
      intro k v hk
      simp [World.cell?, hc]
      simpa using hk
    exact ⟨e _ _ h1, e _ _ h2, e _ _ h3, e _ _ h4⟩
theorem XReads.cells {w : World} {a : Addr} {n : Nat} {L : List Bx} (h : XReads w (some a) n L) : ∀ j u, (boxcells L)[j]? = some u → w.cell? (a.add j) = some u := by
  obtain ⟨h1, h3⟩ := h
  intro j u hu
  have hj : j < L.length * 4 := by
    obtain ⟨h0, _⟩ := List.getElem?_eq_some_iff.1 hu
    rw [← boxcells_len]; exact h0
  rcases h3 with h3 | ⟨b, o, he, hc⟩
  · omega
  · injection he with he
    subst he
    have ha : ∀ j, (⟨b, o, none⟩ : Addr).add j = ⟨b, o + j, none⟩ := fun j => by unfold Addr.add; split <;> simp_all
    rw [ha]
    obtain ⟨i, hi⟩ : ∃ i, j = i * 4 ∨ j = i * 4 + 1 ∨ j = i * 4 + 2 ∨ j = i * 4 + 3 := ⟨j / 4, by omega⟩
    obtain ⟨k1, k2, k3, k4⟩ := hc i (by omega)
    obtain ⟨m1, m2, m3, m4⟩ := boxcells_at L i (by omega)
    rcases hi with rfl | rfl | rfl | rfl
    · rw [m1] at hu; rw [← hu]; exact k1
    · rw [m2] at hu; rw [← Nat.add_assoc, ← hu]; exact k2
    · rw [m3] at hu; rw [← Nat.add_assoc, ← hu]; exact k3
    · rw [m4] at hu; rw [← Nat.add_assoc, ← hu]; exact k4

theorem XReads.only {v : Value} {w w' : World} {a : Option Addr} {n : Nat} {L : List Bx} (h : XReads w a n L) (hk : ∀ x, a = some x → w'.heap[x.block]? = w.heap[x.block]?) : XReads w' a n L := by
  obtain ⟨h1, h2⟩ := h
  refine ⟨h1, ?_⟩
  rcases h2 with h2 | ⟨b, o, rfl, hc⟩
  · exact .inl h2
  · refine .inr ⟨b, o, rfl, fun i hi => ?_⟩
    have k := hk _ rfl
    obtain ⟨e1, e2, e3, e4⟩ := hc i hi
    exact ⟨(World.cell?_of_block (a := ⟨b, o + i * 4, none⟩) k).trans e1, (World.cell?_of_block (a := ⟨b, o + i * 4 + 1, none⟩) k).trans e2, (World.cell?_of_block (a := ⟨b, o + i * 4 + 2, none⟩) k).trans e3, (World.cell?_of_block (a := ⟨b, o + i * 4 + 3, none⟩) k).trans e4⟩
theorem xowns_empty (w : World) : (w.alloc (.cells #[] 33)).ownsRow w.heap.size 33 4 (.slice (some ⟨w.heap.size, 0, none⟩) 0 0) 0 (boxcells []) :=
  ⟨rfl, .inr ⟨w.heap.size, 0, #[], rfl, Nat.le_refl _, World.alloc_heap_new w _, Nat.le_refl _, Nat.zero_le _, rfl, rfl⟩⟩
theorem xnil_owns (w : World) (base : Nat) : w.ownsRow base 33 4 (.slice none 0 0) 0 (boxcells []) := ⟨rfl, .inl ⟨rfl, rfl⟩⟩
/-- What a copy of boxes leaves. -/
def XCopied (w : World) (n : Nat) (L : List Bx) (v : Value) (wx : World) : Prop := wx.ownsRow w.heap.size 33 4 v n (boxcells L) ∧ Below w.heap.size w wx
/-- 'append([]api.Box{}, l...)': a copy. -/
theorem wpList_xcopy {ops : Array Oper} {rest : List Oper} {o : Oper} {a : Act} {w : World} {Q : Exit → Act → World → Prop} (hgd : o.guard = none) (s x : Operand)
    (ho : o.op = .call { callee := .builtin .append, args := #[s, x], argTypes := #[22, 22] }) (hs : a.eval s = .slice (some ⟨w.heap.size, 0, none⟩) 0 0)
    (A : Option Addr) (len cap : Nat) (L : List Bx) (hx : a.eval x = .slice A len cap) (hok : SOk A len cap) (hr : XReads w A len L) (hm : len ≤ 100000)
    (h : ∀ v' w', XCopied w len L v' w' → wpList Try.prog ops Q rest (a.put o.dst v') w') : wpList Try.prog ops Q (o :: rest) a (w.alloc (.cells #[] 33)) := by
  obtain ⟨i0, hi0, hz0, hz1, hz2⟩ := info_bx
  have hb0 : Below w.heap.size w (w.alloc (.cells #[] 33)) := (Below.refl _ _).alloc (Nat.le_refl _) _
  have hr1 := hr.below hb0
  have hzl := hr.1
  rcases A with _ | ad
  · have h0 : cap = 0 := hok.nil rfl
    have h1 := hok.le
    obtain rfl : len = 0 := by omega
    subst h0
    obtain rfl : L = [] := List.eq_nil_of_length_eq_zero hzl
    refine wpList_append_own_none hgd s x _ ho w.heap.size 33 i0 4 Try.underlying22 hi0 _ 0 (boxcells []) hs (xowns_empty w) hx ?_
    exact h _ _ ⟨xowns_empty w, hb0⟩
  · refine wpList_append_own _ hgd s x _ ho w.heap.size 33 i0 _ 4 32 Try.underlying22 hi0 hz0 hz1 hz2 rfl (by decide) _ 0 (boxcells []) hs (xowns_empty w) ad len cap (boxcells L) hx
      (by rw [boxcells_len, hzl]) hr1.cells (boxcells_one L) (by simp only [maxLen]; omega) (by omega) (by simp) ?_
    intro v' w' hown hg _
    rw [Nat.zero_add] at hown
    exact h _ _ ⟨hown, hb0.grown hg (by simp) (by intro k hk; simp [Value.ownBlock] at hk; omega)⟩

section
variable {H : Type} {enc : TypeId × Value → H} {w : World} {base : Nat} {spare : Nat → Bool} {held : Bool}
theorem boxes_open {fuel : Nat} {cs : List Value} {x : DataW H × List MemPlace} (h : DataW.trod enc Try.prog w base spare held fuel 22 cs = some x) :
    cs = [.slice none 0 0] ∨ ∃ (a : Addr) (len cap : Nat) (K : Nat → Bx), cs = [.slice (some a) len cap] ∧ len ≤ cap ∧ cap ≤ maxLen ∧
      ∀ i, i < len → w.cell? (a.add (i * 4)) = some (.int .i64 (K i).1) ∧ w.cell? (a.add (i * 4 + 1)) = some (.int .i64 (K i).2.1) ∧ w.cell? (a.add (i * 4 + 2)) = some (.int .i64 (K i).2.2.1) ∧ w.cell? (a.add (i * 4 + 3)) = some (.int .i64 (K i).2.2.2) := by
  rcases Deep.open_slice Try.underlying22 h with ⟨h0, _⟩ | ⟨a, len, cap, m, n, D, Pl, rfl, hb, hl, hm, hmm, rfl, hx⟩
  · exact .inl h0
  right
  have hlm : len ≤ m := by rw [hmm]; split <;> omega
  have each : ∀ i, i < len → ∃ q : Bx, w.cell? (a.add (i * 4)) = some (.int .i64 q.1) ∧ w.cell? (a.add (i * 4 + 1)) = some (.int .i64 q.2.1) ∧ w.cell? (a.add (i * 4 + 2)) = some (.int .i64 q.2.2.1) ∧ w.cell? (a.add (i * 4 + 3)) = some (.int .i64 q.2.2.2) := by
    intro i hi
    obtain ⟨cs', h1, h2⟩ := hx i (by omega)
    rw [bx_cells] at h1
    obtain ⟨_, hlen, hcell⟩ := World.cells?_some h1
    match cs', hlen with
    | [v0, v1, v2, v3], _ =>
      obtain ⟨y0, y1, n', _, _, g0, g1⟩ := trod_struct2 Try.underlying33 h2
      simp [pt_cells] at g0 g1
      obtain ⟨x1, x2, rfl, rfl⟩ := open_pt2 g0
      obtain ⟨x3, x4, rfl, rfl⟩ := open_pt2 g1
      have e0 := hcell 0 (by omega)
      have e1 := hcell 1 (by omega)
      have e2 := hcell 2 (by omega)
      have e3 := hcell 3 (by omega)
      rw [Deep.add_add] at e0 e1 e2 e3
      exact ⟨(x1, x2, x3, x4), by simpa using e0, by simpa using e1, by simpa using e2, by simpa using e3⟩
  obtain ⟨K, hK⟩ := Deep.choose_lt each
  exact ⟨a, len, cap, K, rfl, hl, hm, hK⟩
end
theorem boxes_at {w : World} {a : Addr} {len : Nat} {K : Nat → Bx} (h : ∀ i, i < len → w.cell? (a.add (i * 4)) = some (.int .i64 (K i).1) ∧ w.cell? (a.add (i * 4 + 1)) = some (.int .i64 (K i).2.1) ∧ w.cell? (a.add (i * 4 + 2)) = some (.int .i64 (K i).2.2.1) ∧ w.cell? (a.add (i * 4 + 3)) = some (.int .i64 (K i).2.2.2)) :
    XReads w (some a) len ((List.range len).map K) := by
  refine ⟨by simp, ?_⟩
  by_cases hz : len = 0
  · exact .inl hz
  · obtain ⟨b, off, sp⟩ := a
    have h1 := (h 0 (by omega)).1
    have hsp : sp = none := by
      cases sp with
      | none => rfl
      | some s => unfold Addr.add World.cell? at h1; simp at h1; split at h1 <;> simp_all
    subst hsp
    have ha : ∀ j, (⟨b, off, none⟩ : Addr).add j = ⟨b, off + j, none⟩ := fun j => by unfold Addr.add; split <;> simp_all
    refine .inr ⟨b, off, rfl, fun i hi => ?_⟩
    have := h i hi
    rw [ha, ha, ha, ha] at this
    have e : ((List.range len).map K).getD i Bx0 = K i := by
      rw [List.getD_eq_getElem?_getD, List.getElem?_map, List.getElem?_range hi]; rfl
    rw [e]
    exact this
end

section
set_option linter.unusedVariables false
set_option linter.unusedSimpArgs false
open Go.RowKit

def scanK (f : Bx → Bool) (L : List Bx) (k : Nat) : List Nat := (List.range k).filter fun i => f (L.getD i Bx0)
theorem scanK_all (f : Bx → Bool) (L : List Bx) : scanK f L L.length = scanB f L := rfl
theorem scanK_hit {f : Bx → Bool} {L : List Bx} {k : Nat} (h : f (L.getD k Bx0) = true) : scanK f L (k + 1) = scanK f L k ++ [k] := by
  unfold scanK; rw [List.range_succ, List.filter_append]; simp only [List.filter_cons, List.filter_nil, h, if_true]
theorem scanK_not {f : Bx → Bool} {L : List Bx} {k : Nat} (h : f (L.getD k Bx0) = false) : scanK f L (k + 1) = scanK f L k := by
  unfold scanK; rw [List.range_succ, List.filter_append]; simp only [List.filter_cons, List.filter_nil, h]; simp
theorem scanK_le (f : Bx → Bool) (L : List Bx) (k : Nat) : (scanK f L k).length ≤ k := by
  have := List.length_filter_le (fun i => f (L.getD i Bx0)) (List.range k)
  rw [List.length_range] at this
  exact this
/-- Places as the numbers that a row holds. -/
def nums (l : List Nat) : List Int := l.map fun (i : Nat) => (i : Int)
theorem nums_len (l : List Nat) : (nums l).length = l.length := by simp [nums]
theorem nums_snoc (l : List Nat) (k : Nat) : nums (l ++ [k]) = nums l ++ [(k : Int)] := by simp [nums]
theorem inil_owns (w : World) (base : Nat) : w.ownsRow base 3 1 (.slice none 0 0) 0 (ints []) := ⟨rfl, .inl ⟨rfl, rfl⟩⟩
/-- A row of numbers of the call's own. -/
def IOwn (w w' : World) (v : Value) (l : List Nat) : Prop := w'.ownsRow w.heap.size 3 1 v l.length (ints (nums l))
/-- Between two rounds: what has been found so far. -/
def ScAt (W : World) (f : Bx → Bool) (L : List Bx) (v i : Value) (wr : World) : Prop := ∃ k : Nat, i = .int .i64 (k : Int) ∧ k ≤ L.length ∧ wr.ownsRow W.heap.size 3 1 v (scanK f L k).length (ints (nums (scanK f L k))) ∧ Below W.heap.size W wr
def inB (px py : Int) (b : Bx) : Bool := inF px py b.1 b.2.1 b.2.2.1 b.2.2.2
def meetB (x : Bx) (b : Bx) : Bool := meetF b.1 b.2.1 b.2.2.1 b.2.2.2 x.1 x.2.1 x.2.2.1 x.2.2.2

set_option maxRecDepth 100000 in
set_option maxHeartbeats 2000000 in
theorem r_btAt (px py : Int) (w : World) (a : Option Addr) (n ca : Nat) (L : List Bx) (hL : XReads w a n L) (hs : n ≤ 100000) :
    Calls Try.prog 15 #[.slice a n ca, pt px py] w fun e w' => (∃ v, e = .returned v ∧ IOwn w w' v (scanB (inB px py) L)) ∧ Junk w w' := by
  have L1 := Lib.hid hL.1
  have HK := Lib.hid hL
  unfold pt
  obtain ⟨F, hF⟩ : ∃ F, inB px py = F := ⟨_, rfl⟩
  have HF := Lib.hid hF
  rw [hF]
  clear hL hF
  go_enter Try.func15, Try.ntmps15
  go_wp2_with fail
  obtain ⟨W, hW⟩ : ∃ W, w.alloc (.cells #[.int .i64 px, .int .i64 py] 31) = W := ⟨_, rfl⟩
  have c0 : W.cell? ⟨w.heap.size, 0, none⟩ = some (.int .i64 px) := by rw [← hW]; simp [go_sem]
  have c1 : W.cell? ⟨w.heap.size, 1, none⟩ = some (.int .i64 py) := by rw [← hW]; simp [go_sem]
  have hj : Below w.heap.size w W := by rw [← hW]; (repeat' (first | (with_reducible exact Below.refl _ _) | (with_reducible assumption) | (with_reducible refine Below.alloc ?_ ?_ _) | (with_reducible refine Below.drew ?_) | (with_reducible refine below_drewN ?_ _) | (with_reducible refine below_plus ?_ ?_ _ _) | (with_reducible refine Below.setCell ?_ ?_ _) | (with_reducible refine Below.setRow ?_ ?_ _) | go_size))
  have l0 : w.heap.size < W.heap.size := World.block_lt_of_cell? _ _ c0
  have HKW := Lib.hid (HK.out.below hj)
  have HJ := Lib.hid hj
  rw [hW]
  clear hW HK hj
  go_loopw [5, 6] (fun v i wr => ScAt W F L v i wr) (fun _ i _ => n - (intOf i).toNat)
  case atStart => exact ⟨0, rfl, by omega, inil_owns _ _, Below.refl _ _⟩
  case round =>
    obtain ⟨k, rfl, k1, hown, hB⟩ := hrel
    rw [L1.out] at k1
    have hsz := hB.size
    have s0 := (World.cell?_of_block (hB.block _ l0)).trans c0
    have s1 := (World.cell?_of_block (hB.block _ l0)).trans c1
    have n0 := World.block_lt_of_cell? _ _ s0
    have hle := scanK_le F L k
    by_cases hlt : k < n
    · rcases HKW.out.2 with h | ⟨b, o, rfl, hc⟩
      · omega
      obtain ⟨p1, p2, p3, p4⟩ := hc k hlt
      obtain ⟨x1, x2, x3, x4, hx⟩ : ∃ x1 x2 x3 x4 : Int, L.getD k Bx0 = (x1, x2, x3, x4) := ⟨_, _, _, _, rfl⟩
      rw [hx] at p1 p2 p3 p4
      simp only at p1 p2 p3 p4
      have hb : b < W.heap.size := World.block_lt_of_cell? _ _ p1
      have q1 := (World.cell?_of_block (hB.block _ hb)).trans p1
      have q2 := (World.cell?_of_block (hB.block _ hb)).trans p2
      have q3 := (World.cell?_of_block (hB.block _ hb)).trans p3
      have q4 := (World.cell?_of_block (hB.block _ hb)).trans p4
      have n1 := World.block_lt_of_cell? _ _ q1
      have hf : F (L.getD k Bx0) = inF px py x1 x2 x3 x4 := by rw [hx, ← HF.out]; rfl
      have HI := Lib.hid (fun w' => r_ptIn px py x1 x2 x3 x4 w')
      generalize inF px py x1 x2 x3 x4 = g at *
      unfold pt bxV at HI
      have HFk := Lib.hid hf
      have HOW := Lib.hid hown
      have HB := Lib.hid hB
      obtain ⟨S, hS⟩ : ∃ S, scanK F L k = S := ⟨_, rfl⟩
      have HS := Lib.hid hS
      rw [hS] at HOW hle
      have i1 : (k : Int) < (n : Int) := by omega
      obtain ⟨wo, rfl⟩ : ∃ wo : World, wo = wr := ⟨_, rfl⟩
      clear hc hx hf hown hB hS p1 p2 p3 p4
      cases g with
      | true =>
        have HN := Lib.hid (show scanK F L (k + 1) = S ++ [k] by rw [scanK_hit HFk.out, HS.out])
        go_upto_region 5 with fail
        refine region_quiet_all (C := Cls wo) (by kernel_rfl) (by kernel_rfl) (cls_drawn _) ?_
        repeat (first | (refine qw_skip (by rfl) ?_; simp only [Act.put, List.setIfInBounds_toArray, List.set_cons_succ, List.set_cons_zero]) | (refine qw_want (by rfl) (fun K hK => ?_); go_simp; first | (refine hK _ ?_; clear hK K) | (apply Exists.intro; refine ⟨?_, hK _ ?_⟩; (rintro w3_ ⟨J3_, d3_, rfl⟩; first | (with_reducible exact rfl) | (go_simp; with_reducible exact rfl) | (go_simp; (first | (with_reducible refine (HI.out _).mono ?_)); rintro e_ w_ ⟨rfl, J4_, d4_, rfl⟩; exact ⟨rfl, J3_ ++ J4_, d4_, by simp only [plus_plus, Array.append_assoc]⟩)); clear hK K)))
        refine qw_nil ?_
        rintro w4 ⟨J3, d3, rfl⟩
        go_wp2_with (at_builtin; refine wpList_app rfl (.tmp 19) (.tmp 21) rfl W.heap.size _ S.length (nums S) rfl (powns_below HOW.out (by ((try simp only [← Array.append_assoc]); repeat' (first | (with_reducible exact Below.refl _ _) | (with_reducible assumption) | (with_reducible refine Below.alloc ?_ ?_ _) | (with_reducible refine Below.drew ?_) | (with_reducible refine below_drewN ?_ _) | (with_reducible exact below_d _ _ _ _ _) | (with_reducible refine below_snoc _ _ ?_ ?_) | (with_reducible refine below_plus ?_ ?_ _ _) | (with_reducible refine Below.setCell ?_ ?_ _) | (with_reducible refine Below.setRow ?_ ?_ _) | go_size)))) _ 1 1 [(k : Int)] rfl (by intro h; cases h) (by have := reads_one (wo.plus J3 d3) (k : Int) (by omega) (by omega); rwa [size_plus] at this) (by omega) (by simp; omega) ?_; intro v' w' hown' hg')
        go_roundw
        case rel => exact ⟨k + 1, by go_num, by rw [L1.out]; omega, by rw [HN.out, nums_snoc, List.length_append]; exact hown', grown_below (B := W.heap.size) (a := W) (HB.out.trans (by ((try simp only [← Array.append_assoc]); repeat' (first | (with_reducible exact Below.refl _ _) | (with_reducible assumption) | (with_reducible refine Below.alloc ?_ ?_ _) | (with_reducible refine Below.drew ?_) | (with_reducible refine below_drewN ?_ _) | (with_reducible exact below_d _ _ _ _ _) | (with_reducible refine below_snoc _ _ ?_ ?_) | (with_reducible refine below_plus ?_ ?_ _ _) | (with_reducible refine Below.setCell ?_ ?_ _) | (with_reducible refine Below.setRow ?_ ?_ _) | go_size)))) hg' (by simp; omega) (powns_block HOW.out)⟩
        case measure => simp [intOf]; omega
      | false =>
        have HN := Lib.hid (show scanK F L (k + 1) = S by rw [scanK_not HFk.out, HS.out])
        go_upto_region 5 with fail
        refine region_quiet_all (C := Cls wo) (by kernel_rfl) (by kernel_rfl) (cls_drawn _) ?_
        repeat (first | (refine qw_skip (by rfl) ?_; simp only [Act.put, List.setIfInBounds_toArray, List.set_cons_succ, List.set_cons_zero]) | (refine qw_want (by rfl) (fun K hK => ?_); go_simp; first | (refine hK _ ?_; clear hK K) | (apply Exists.intro; refine ⟨?_, hK _ ?_⟩; (rintro w3_ ⟨J3_, d3_, rfl⟩; first | (with_reducible exact rfl) | (go_simp; with_reducible exact rfl) | (go_simp; (first | (with_reducible refine (HI.out _).mono ?_)); rintro e_ w_ ⟨rfl, J4_, d4_, rfl⟩; exact ⟨rfl, J3_ ++ J4_, d4_, by simp only [plus_plus, Array.append_assoc]⟩)); clear hK K)))
        refine qw_nil ?_
        rintro w4 ⟨J3, d3, rfl⟩
        go_wp2_with fail
        go_roundw
        case rel => exact ⟨k + 1, by go_num, by rw [L1.out]; omega, by rw [HN.out]; exact powns_below HOW.out (Junk.below ⟨_, _, rfl⟩), HB.out.trans ((Junk.below ⟨_, _, rfl⟩).mono hsz)⟩
        case measure => simp [intOf]; omega
    · obtain rfl : k = n := by omega
      have hE : scanK F L k = scanB F L := by rw [← L1.out]; rfl
      rw [hE] at hown
      have hB := hB
      have i1 : ¬ (k : Int) < (k : Int) := by omega
      have HOW := Lib.hid hown
      clear hE hown hle
      go_wp2_with fail
      go_ret
      exact ⟨⟨_, rfl, ⟨HOW.out.1, HOW.out.2.imp id fun ⟨g, cap, cur, h1, h2, h3⟩ => ⟨g, cap, cur, h1, by omega, h3⟩⟩⟩, junk_of_below (HJ.out.trans (hB.mono HJ.out.size))⟩

set_option maxRecDepth 100000 in
set_option maxHeartbeats 2000000 in
theorem r_btOver (y1 y2 y3 y4 : Int) (w : World) (a : Option Addr) (n ca : Nat) (L : List Bx) (hL : XReads w a n L) (hs : n ≤ 100000) :
    Calls Try.prog 17 #[.slice a n ca, bxV y1 y2 y3 y4] w fun e w' => (∃ v, e = .returned v ∧ IOwn w w' v (scanB (meetB (y1, y2, y3, y4)) L)) ∧ Junk w w' := by
  have L1 := Lib.hid hL.1
  have HK := Lib.hid hL
  unfold bxV
  obtain ⟨F, hF⟩ : ∃ F, meetB (y1, y2, y3, y4) = F := ⟨_, rfl⟩
  have HF := Lib.hid hF
  rw [hF]
  clear hL hF
  go_enter Try.func17, Try.ntmps17
  go_wp2_with fail
  obtain ⟨W, hW⟩ : ∃ W, w.alloc (.cells #[.int .i64 y1, .int .i64 y2, .int .i64 y3, .int .i64 y4] 33) = W := ⟨_, rfl⟩
  have c0 : W.cell? ⟨w.heap.size, 0, none⟩ = some (.int .i64 y1) := by rw [← hW]; simp [go_sem]
  have c1 : W.cell? ⟨w.heap.size, 1, none⟩ = some (.int .i64 y2) := by rw [← hW]; simp [go_sem]
  have c2 : W.cell? ⟨w.heap.size, 2, none⟩ = some (.int .i64 y3) := by rw [← hW]; simp [go_sem]
  have c3 : W.cell? ⟨w.heap.size, 3, none⟩ = some (.int .i64 y4) := by rw [← hW]; simp [go_sem]
  have hj : Below w.heap.size w W := by rw [← hW]; (repeat' (first | (with_reducible exact Below.refl _ _) | (with_reducible assumption) | (with_reducible refine Below.alloc ?_ ?_ _) | (with_reducible refine Below.drew ?_) | (with_reducible refine below_drewN ?_ _) | (with_reducible refine below_plus ?_ ?_ _ _) | (with_reducible refine Below.setCell ?_ ?_ _) | (with_reducible refine Below.setRow ?_ ?_ _) | go_size))
  have l0 : w.heap.size < W.heap.size := World.block_lt_of_cell? _ _ c0
  have HKW := Lib.hid (HK.out.below hj)
  have HJ := Lib.hid hj
  rw [hW]
  clear hW HK hj
  go_loopw [5, 6] (fun v i wr => ScAt W F L v i wr) (fun _ i _ => n - (intOf i).toNat)
  case atStart => exact ⟨0, rfl, by omega, inil_owns _ _, Below.refl _ _⟩
  case round =>
    obtain ⟨k, rfl, k1, hown, hB⟩ := hrel
    rw [L1.out] at k1
    have hsz := hB.size
    have s0 := (World.cell?_of_block (hB.block _ l0)).trans c0
    have s1 := (World.cell?_of_block (hB.block _ l0)).trans c1
    have s2 := (World.cell?_of_block (hB.block _ l0)).trans c2
    have s3 := (World.cell?_of_block (hB.block _ l0)).trans c3
    have n0 := World.block_lt_of_cell? _ _ s0
    have hle := scanK_le F L k
    by_cases hlt : k < n
    · rcases HKW.out.2 with h | ⟨b, o, rfl, hc⟩
      · omega
      obtain ⟨p1, p2, p3, p4⟩ := hc k hlt
      obtain ⟨x1, x2, x3, x4, hx⟩ : ∃ x1 x2 x3 x4 : Int, L.getD k Bx0 = (x1, x2, x3, x4) := ⟨_, _, _, _, rfl⟩
      rw [hx] at p1 p2 p3 p4
      simp only at p1 p2 p3 p4
      have hb : b < W.heap.size := World.block_lt_of_cell? _ _ p1
      have q1 := (World.cell?_of_block (hB.block _ hb)).trans p1
      have q2 := (World.cell?_of_block (hB.block _ hb)).trans p2
      have q3 := (World.cell?_of_block (hB.block _ hb)).trans p3
      have q4 := (World.cell?_of_block (hB.block _ hb)).trans p4
      have n1 := World.block_lt_of_cell? _ _ q1
      have hf : F (L.getD k Bx0) = meetF x1 x2 x3 x4 y1 y2 y3 y4 := by rw [hx, ← HF.out]; rfl
      have HI := Lib.hid (fun w' => r_ptMeet x1 x2 x3 x4 y1 y2 y3 y4 w')
      generalize meetF x1 x2 x3 x4 y1 y2 y3 y4 = g at *
      unfold bxV at HI
      have HFk := Lib.hid hf
      have HOW := Lib.hid hown
      have HB := Lib.hid hB
      obtain ⟨S, hS⟩ : ∃ S, scanK F L k = S := ⟨_, rfl⟩
      have HS := Lib.hid hS
      rw [hS] at HOW hle
      have i1 : (k : Int) < (n : Int) := by omega
      obtain ⟨wo, rfl⟩ : ∃ wo : World, wo = wr := ⟨_, rfl⟩
      clear hc hx hf hown hB hS p1 p2 p3 p4
      cases g with
      | true =>
        have HN := Lib.hid (show scanK F L (k + 1) = S ++ [k] by rw [scanK_hit HFk.out, HS.out])
        go_upto_region 5 with fail
        refine region_quiet_all (C := Cls wo) (by kernel_rfl) (by kernel_rfl) (cls_drawn _) ?_
        repeat (first | (refine qw_skip (by rfl) ?_; simp only [Act.put, List.setIfInBounds_toArray, List.set_cons_succ, List.set_cons_zero]) | (refine qw_want (by rfl) (fun K hK => ?_); go_simp; first | (refine hK _ ?_; clear hK K) | (apply Exists.intro; refine ⟨?_, hK _ ?_⟩; (rintro w3_ ⟨J3_, d3_, rfl⟩; first | (with_reducible exact rfl) | (go_simp; with_reducible exact rfl) | (go_simp; (first | (with_reducible refine (HI.out _).mono ?_)); rintro e_ w_ ⟨rfl, J4_, d4_, rfl⟩; exact ⟨rfl, J3_ ++ J4_, d4_, by simp only [plus_plus, Array.append_assoc]⟩)); clear hK K)))
        refine qw_nil ?_
        rintro w4 ⟨J3, d3, rfl⟩
        go_wp2_with (at_builtin; refine wpList_app rfl (.tmp 19) (.tmp 21) rfl W.heap.size _ S.length (nums S) rfl (powns_below HOW.out (by ((try simp only [← Array.append_assoc]); repeat' (first | (with_reducible exact Below.refl _ _) | (with_reducible assumption) | (with_reducible refine Below.alloc ?_ ?_ _) | (with_reducible refine Below.drew ?_) | (with_reducible refine below_drewN ?_ _) | (with_reducible exact below_d _ _ _ _ _) | (with_reducible refine below_snoc _ _ ?_ ?_) | (with_reducible refine below_plus ?_ ?_ _ _) | (with_reducible refine Below.setCell ?_ ?_ _) | (with_reducible refine Below.setRow ?_ ?_ _) | go_size)))) _ 1 1 [(k : Int)] rfl (by intro h; cases h) (by have := reads_one (wo.plus J3 d3) (k : Int) (by omega) (by omega); rwa [size_plus] at this) (by omega) (by simp; omega) ?_; intro v' w' hown' hg')
        go_roundw
        case rel => exact ⟨k + 1, by go_num, by rw [L1.out]; omega, by rw [HN.out, nums_snoc, List.length_append]; exact hown', grown_below (B := W.heap.size) (a := W) (HB.out.trans (by ((try simp only [← Array.append_assoc]); repeat' (first | (with_reducible exact Below.refl _ _) | (with_reducible assumption) | (with_reducible refine Below.alloc ?_ ?_ _) | (with_reducible refine Below.drew ?_) | (with_reducible refine below_drewN ?_ _) | (with_reducible exact below_d _ _ _ _ _) | (with_reducible refine below_snoc _ _ ?_ ?_) | (with_reducible refine below_plus ?_ ?_ _ _) | (with_reducible refine Below.setCell ?_ ?_ _) | (with_reducible refine Below.setRow ?_ ?_ _) | go_size)))) hg' (by simp; omega) (powns_block HOW.out)⟩
        case measure => simp [intOf]; omega
      | false =>
        have HN := Lib.hid (show scanK F L (k + 1) = S by rw [scanK_not HFk.out, HS.out])
        go_upto_region 5 with fail
        refine region_quiet_all (C := Cls wo) (by kernel_rfl) (by kernel_rfl) (cls_drawn _) ?_
        repeat (first | (refine qw_skip (by rfl) ?_; simp only [Act.put, List.setIfInBounds_toArray, List.set_cons_succ, List.set_cons_zero]) | (refine qw_want (by rfl) (fun K hK => ?_); go_simp; first | (refine hK _ ?_; clear hK K) | (apply Exists.intro; refine ⟨?_, hK _ ?_⟩; (rintro w3_ ⟨J3_, d3_, rfl⟩; first | (with_reducible exact rfl) | (go_simp; with_reducible exact rfl) | (go_simp; (first | (with_reducible refine (HI.out _).mono ?_)); rintro e_ w_ ⟨rfl, J4_, d4_, rfl⟩; exact ⟨rfl, J3_ ++ J4_, d4_, by simp only [plus_plus, Array.append_assoc]⟩)); clear hK K)))
        refine qw_nil ?_
        rintro w4 ⟨J3, d3, rfl⟩
        go_wp2_with fail
        go_roundw
        case rel => exact ⟨k + 1, by go_num, by rw [L1.out]; omega, by rw [HN.out]; exact powns_below HOW.out (Junk.below ⟨_, _, rfl⟩), HB.out.trans ((Junk.below ⟨_, _, rfl⟩).mono hsz)⟩
        case measure => simp [intOf]; omega
    · obtain rfl : k = n := by omega
      have hE : scanK F L k = scanB F L := by rw [← L1.out]; rfl
      rw [hE] at hown
      have hB := hB
      have i1 : ¬ (k : Int) < (k : Int) := by omega
      have HOW := Lib.hid hown
      clear hE hown hle
      go_wp2_with fail
      go_ret
      exact ⟨⟨_, rfl, ⟨HOW.out.1, HOW.out.2.imp id fun ⟨g, cap, cur, h1, h2, h3⟩ => ⟨g, cap, cur, h1, by omega, h3⟩⟩⟩, junk_of_below (HJ.out.trans (hB.mono HJ.out.size))⟩

set_option maxRecDepth 100000 in
theorem r_btDepth : ∀ (f n : Nat) (w : World), n ≤ f → n ≤ 1000000 → Calls Try.prog 19 #[.int .i64 (n : Int)] w fun e w' => e = .returned (.int .i64 (depthF n : Nat)) ∧ Junk w w' := by
  intro f
  induction f with
  | zero =>
    intro n w h _
    obtain rfl : n = 0 := by omega
    have e : depthF 0 = 0 := depth_small (by omega)
    rw [e]
    go_enter Try.func19, Try.ntmps19
    go_wp2_with fail
    go_ret
    exact ⟨rfl, junk_of_below (by (repeat' (first | (with_reducible exact Below.refl _ _) | (with_reducible assumption) | (with_reducible refine Below.alloc ?_ ?_ _) | (with_reducible refine Below.drew ?_) | (with_reducible refine below_drewN ?_ _) | (with_reducible refine below_plus ?_ ?_ _ _) | (with_reducible refine Below.setCell ?_ ?_ _) | (with_reducible refine Below.setRow ?_ ?_ _) | go_size)))⟩
  | succ f ih =>
    intro n w h hm
    by_cases h1 : n ≤ 1
    · have e : depthF n = n := depth_small h1
      rw [e]
      have i1 : (n : Int) ≤ 1 := by omega
      go_enter Try.func19, Try.ntmps19
      go_wp2_with fail
      go_ret
      exact ⟨rfl, junk_of_below (by (repeat' (first | (with_reducible exact Below.refl _ _) | (with_reducible assumption) | (with_reducible refine Below.alloc ?_ ?_ _) | (with_reducible refine Below.drew ?_) | (with_reducible refine below_drewN ?_ _) | (with_reducible refine below_plus ?_ ?_ _ _) | (with_reducible refine Below.setCell ?_ ?_ _) | (with_reducible refine Below.setRow ?_ ?_ _) | go_size)))⟩
    · have e : depthF n = 1 + depthF ((n + 1) / 2) := depth_big (by omega)
      have hd : depthF ((n + 1) / 2) ≤ 21 := depth_le 20 _ (by omega)
      rw [e]
      have HR := Lib.hid (fun w' => ih ((n + 1) / 2) w' (by omega) (by omega))
      generalize depthF ((n + 1) / 2) = D at *
      have i1 : ¬ (n : Int) ≤ 1 := by omega
      have w1 : IntKind.i64.wrap ((n : Int) + 1) = (n : Int) + 1 := by simp [IntKind.wrap, IntKind.signed, IntKind.bits]; omega
      have w2 : ((n : Int) + 1).tdiv 2 = (((n + 1) / 2 : Nat) : Int) := by rw [Int.tdiv_eq_ediv_of_nonneg (by omega)]; omega
      have w2' : ((n : Int) + 1) / 2 = (((n + 1) / 2 : Nat) : Int) := by omega
      have w3 : IntKind.i64.wrap (((n + 1) / 2 : Nat) : Int) = (((n + 1) / 2 : Nat) : Int) := by simp [IntKind.wrap, IntKind.signed, IntKind.bits]; omega
      have w4 : IntKind.i64.wrap (1 + (D : Int)) = ((1 + D : Nat) : Int) := by simp [IntKind.wrap, IntKind.signed, IntKind.bits]; omega
      generalize (n + 1) / 2 = m at *
      clear ih e
      go_enter Try.func19, Try.ntmps19
      go_wp2_with (go_at_call 19; refine (HR.out _).mono ?_; rintro e w1 ⟨rfl, J3, d3, rfl⟩)
      go_ret
      exact ⟨rfl, junk_of_below (by (repeat' (first | (with_reducible exact Below.refl _ _) | (with_reducible assumption) | (with_reducible refine Below.alloc ?_ ?_ _) | (with_reducible refine Below.drew ?_) | (with_reducible refine below_drewN ?_ _) | (with_reducible refine below_plus ?_ ?_ _ _) | (with_reducible refine Below.setCell ?_ ?_ _) | (with_reducible refine Below.setRow ?_ ?_ _) | go_size)))⟩
end

section
set_option linter.unusedVariables false
set_option linter.unusedSimpArgs false
open Go.RowKit

set_option maxRecDepth 100000 in
set_option maxHeartbeats 2000000 in
theorem g_btLess (a b c d : Int) (X Y Z : Int) (w : World)
    (Oa : Hid (∀ w, Calls Try.prog 73 #[.int .i64 a] w fun e w' => e = .returned (.agg (cellsOf a)) ∧ Junk w w'))
    (Ob : Hid (∀ w, Calls Try.prog 73 #[.int .i64 b] w fun e w' => e = .returned (.agg (cellsOf b)) ∧ Junk w w'))
    (Oc : Hid (∀ w, Calls Try.prog 73 #[.int .i64 c] w fun e w' => e = .returned (.agg (cellsOf c)) ∧ Junk w w'))
    (Od : Hid (∀ w, Calls Try.prog 73 #[.int .i64 d] w fun e w' => e = .returned (.agg (cellsOf d)) ∧ Junk w w'))
    (P1 : Hid (∀ w, Calls Try.prog 74 #[.agg (cellsOf a), .agg (cellsOf b)] w fun e w' => e = .returned (.agg (cellsOf X)) ∧ Junk w w'))
    (P2 : Hid (∀ w, Calls Try.prog 74 #[.agg (cellsOf c), .agg (cellsOf d)] w fun e w' => e = .returned (.agg (cellsOf Y)) ∧ Junk w w'))
    (LY : Hid (∀ w, Calls Try.prog 75 #[.agg (cellsOf Y)] w fun e w' => e = .returned (.agg (cellsOf (-Y))) ∧ Junk w w'))
    (PZ : Hid (∀ w, Calls Try.prog 74 #[.agg (cellsOf X), .agg (cellsOf (-Y))] w fun e w' => e = .returned (.agg (cellsOf Z)) ∧ Junk w w'))
    (SZ : Hid (∀ w, Calls Try.prog 76 #[.agg (cellsOf Z)] w fun e w' => e = .returned (.int .i64 (sgn Z)) ∧ Junk w w')) :
    Calls Try.prog 58 #[.int .i64 a, .int .i64 b, .int .i64 c, .int .i64 d] w fun e w' => e = .returned (.bool (decide (sgn Z < 0))) ∧ Junk w w' := by
  generalize hA : cellsOf a = ca at *
  generalize hB : cellsOf b = cb at *
  generalize hC : cellsOf c = cc at *
  generalize hD : cellsOf d = cd at *
  clear hA hB hC hD
  go_enter Try.func58, Try.ntmps58
  go_wp2_with (first | (refine wpList_num_load rfl _ rfl _ rfl (by first | (simp [go_sem]; done) | (simp [go_sem, *]; done)) ?_; intro c_ hc_; simp [go_sem] at hc_; subst hc_; try simp only [Act.put, List.setIfInBounds_toArray, List.set_cons_succ, List.set_cons_zero]) | (refine wpList_cells_store rfl _ _ rfl _ rfl _ rfl (by first | (simp [go_sem]; done) | (simp [go_sem, *]; done)) ?_; intro w1_ hw1_; simp [go_sem] at hw1_; subst hw1_; try simp only [Act.put, List.setIfInBounds_toArray, List.set_cons_succ, List.set_cons_zero]))
  refine (Oa.out _).mono ?_; rintro e w' ⟨rfl, J1, d1, rfl⟩
  go_wp2_with (first | (refine wpList_num_load rfl _ rfl _ rfl (by first | (simp [go_sem]; done) | (simp [go_sem, *]; done)) ?_; intro c_ hc_; simp [go_sem] at hc_; subst hc_; try simp only [Act.put, List.setIfInBounds_toArray, List.set_cons_succ, List.set_cons_zero]) | (refine wpList_cells_store rfl _ _ rfl _ rfl _ rfl (by first | (simp [go_sem]; done) | (simp [go_sem, *]; done)) ?_; intro w1_ hw1_; simp [go_sem] at hw1_; subst hw1_; try simp only [Act.put, List.setIfInBounds_toArray, List.set_cons_succ, List.set_cons_zero]))
  refine (Ob.out _).mono ?_; rintro e w' ⟨rfl, J2, d2, rfl⟩
  go_wp2_with (first | (refine wpList_num_load rfl _ rfl _ rfl (by first | (simp [go_sem]; done) | (simp [go_sem, *]; done)) ?_; intro c_ hc_; simp [go_sem] at hc_; subst hc_; try simp only [Act.put, List.setIfInBounds_toArray, List.set_cons_succ, List.set_cons_zero]) | (refine wpList_cells_store rfl _ _ rfl _ rfl _ rfl (by first | (simp [go_sem]; done) | (simp [go_sem, *]; done)) ?_; intro w1_ hw1_; simp [go_sem] at hw1_; subst hw1_; try simp only [Act.put, List.setIfInBounds_toArray, List.set_cons_succ, List.set_cons_zero]))
  refine (P1.out _).mono ?_; rintro e w' ⟨rfl, J3, d3, rfl⟩
  go_wp2_with (first | (refine wpList_num_load rfl _ rfl _ rfl (by first | (simp [go_sem]; done) | (simp [go_sem, *]; done)) ?_; intro c_ hc_; simp [go_sem] at hc_; subst hc_; try simp only [Act.put, List.setIfInBounds_toArray, List.set_cons_succ, List.set_cons_zero]) | (refine wpList_cells_store rfl _ _ rfl _ rfl _ rfl (by first | (simp [go_sem]; done) | (simp [go_sem, *]; done)) ?_; intro w1_ hw1_; simp [go_sem] at hw1_; subst hw1_; try simp only [Act.put, List.setIfInBounds_toArray, List.set_cons_succ, List.set_cons_zero]))
  refine (Oc.out _).mono ?_; rintro e w' ⟨rfl, K1, e1, rfl⟩
  go_wp2_with (first | (refine wpList_num_load rfl _ rfl _ rfl (by first | (simp [go_sem]; done) | (simp [go_sem, *]; done)) ?_; intro c_ hc_; simp [go_sem] at hc_; subst hc_; try simp only [Act.put, List.setIfInBounds_toArray, List.set_cons_succ, List.set_cons_zero]) | (refine wpList_cells_store rfl _ _ rfl _ rfl _ rfl (by first | (simp [go_sem]; done) | (simp [go_sem, *]; done)) ?_; intro w1_ hw1_; simp [go_sem] at hw1_; subst hw1_; try simp only [Act.put, List.setIfInBounds_toArray, List.set_cons_succ, List.set_cons_zero]))
  refine (Od.out _).mono ?_; rintro e w' ⟨rfl, K2, e2, rfl⟩
  go_wp2_with (first | (refine wpList_num_load rfl _ rfl _ rfl (by first | (simp [go_sem]; done) | (simp [go_sem, *]; done)) ?_; intro c_ hc_; simp [go_sem] at hc_; subst hc_; try simp only [Act.put, List.setIfInBounds_toArray, List.set_cons_succ, List.set_cons_zero]) | (refine wpList_cells_store rfl _ _ rfl _ rfl _ rfl (by first | (simp [go_sem]; done) | (simp [go_sem, *]; done)) ?_; intro w1_ hw1_; simp [go_sem] at hw1_; subst hw1_; try simp only [Act.put, List.setIfInBounds_toArray, List.set_cons_succ, List.set_cons_zero]))
  refine (P2.out _).mono ?_; rintro e w' ⟨rfl, K3, e3, rfl⟩
  go_upto_region 3 with (first | (refine wpList_num_load rfl _ rfl _ rfl (by first | (simp [go_sem]; done) | (simp [go_sem, *]; done)) ?_; intro c_ hc_; simp [go_sem] at hc_; subst hc_; try simp only [Act.put, List.setIfInBounds_toArray, List.set_cons_succ, List.set_cons_zero]) | (refine wpList_cells_store rfl _ _ rfl _ rfl _ rfl (by first | (simp [go_sem]; done) | (simp [go_sem, *]; done)) ?_; intro w1_ hw1_; simp [go_sem] at hw1_; subst hw1_; try simp only [Act.put, List.setIfInBounds_toArray, List.set_cons_succ, List.set_cons_zero]))
  refine wp_region_quiet (C := Cls ((((w.plus (J1 ++ (J2 ++ J3)) d3).alloc (.cells (cellsOf X) 107)).plus (K1 ++ (K2 ++ K3)) e3).alloc (.cells (cellsOf Y) 107))) (by kernel_rfl) (by kernel_rfl) (cls_drawn _) ?_
  (refine q_load rfl _ _ rfl _ Try.underlying107 rfl 13 (by kernel_rfl) _ rfl (by simp [go_sem]) _ (by simp [go_sem]; rfl) (by simp [go_sem]) ?_)
  try simp only [Act.put, List.setIfInBounds_toArray, List.set_cons_succ, List.set_cons_zero]
  (refine q_load rfl _ _ rfl _ Try.underlying107 rfl 13 (by kernel_rfl) _ rfl (by simp [go_sem]) _ (by simp [go_sem]; rfl) (by simp [go_sem]) ?_)
  try simp only [Act.put, List.setIfInBounds_toArray, List.set_cons_succ, List.set_cons_zero]
  refine q_call rfl 75 _ _ rfl #[.agg (cellsOf Y)] (by simp [Act.eval]) (fun _ => by kernel_rfl) _ LY.out ?_
  try simp only [Act.put, List.setIfInBounds_toArray, List.set_cons_succ, List.set_cons_zero]
  refine q_call rfl 74 _ _ rfl #[.agg (cellsOf X), .agg (cellsOf (-Y))] (by simp [Act.eval]) (fun _ => by kernel_rfl) _ PZ.out ?_
  try simp only [Act.put, List.setIfInBounds_toArray, List.set_cons_succ, List.set_cons_zero]
  refine q_call rfl 76 _ _ rfl #[.agg (cellsOf Z)] (by simp [Act.eval]) (fun _ => by kernel_rfl) _ SZ.out ?_
  try simp only [Act.put, List.setIfInBounds_toArray, List.set_cons_succ, List.set_cons_zero]
  refine q_val rfl (.bool (decide (sgn Z < 0))) (fun w1 _ => by simp [execOp, Act.eval, go_sem]; done) ?_
  try simp only [Act.put, List.setIfInBounds_toArray, List.set_cons_succ, List.set_cons_zero]
  refine q_assign rfl _ rfl (.bool (decide (sgn Z < 0))) rfl ?_
  try simp only [Act.put, List.setIfInBounds_toArray, List.set_cons_succ, List.set_cons_zero]
  refine wpQuiet_nil ?_
  rintro w4 ⟨J9, d9, rfl⟩
  try simp only [Act.put, List.setIfInBounds_toArray, List.set_cons_succ, List.set_cons_zero]
  go_wp2_with fail
  go_ret
  exact ⟨rfl, junk_of_below (by (repeat' (first | (with_reducible exact Below.refl _ _) | (with_reducible assumption) | (with_reducible refine Below.alloc ?_ ?_ _) | (with_reducible refine Below.drew ?_) | (with_reducible refine below_drewN ?_ _) | (with_reducible refine below_plus ?_ ?_ _ _) | (with_reducible refine Below.setCell ?_ ?_ _) | (with_reducible refine Below.setRow ?_ ?_ _) | go_size)))⟩
/-- A number fits an int. -/
def In6 (a : Int) : Prop := -9223372036854775808 ≤ a ∧ a ≤ 9223372036854775807
theorem r_btLess (a b c d : Int) (ha : In6 a) (hb : In6 b) (hc : In6 c) (hd : In6 d) (w : World) :
    Calls Try.prog 58 #[.int .i64 a, .int .i64 b, .int .i64 c, .int .i64 d] w fun e w' => e = .returned (.bool (decide (a + b < c + d))) ∧ Junk w w' := by
  unfold In6 at *
  have hdd : decide (a + b < c + d) = decide (sgn (a + b + -(c + d)) < 0) := by
    have := sgn_cases (a + b + -(c + d))
    rw [Bool.eq_iff_iff, decide_eq_true_iff, decide_eq_true_iff]
    omega
  rw [hdd]
  refine g_btLess a b c d (a + b) (c + d) _ w (Lib.hid (r_Of' a ha.1 ha.2)) (Lib.hid (r_Of' b hb.1 hb.2)) (Lib.hid (r_Of' c hc.1 hc.2)) (Lib.hid (r_Of' d hd.1 hd.2))
    (Lib.hid (r_Plus' a b (fits_of _ (by omega)) (fits_of _ (by omega)) (fits_of _ (by omega)))) (Lib.hid (r_Plus' c d (fits_of _ (by omega)) (fits_of _ (by omega)) (fits_of _ (by omega)))) (Lib.hid (r_Less' _ (fits_of _ (by omega))))
    (Lib.hid (r_Plus' _ _ (fits_of _ (by omega)) (fits_of _ (by omega)) (fits_of _ (by omega)))) (Lib.hid ?_)
  have := r_Sgn (a + b + -(c + d)) (fits_of _ (by omega))
  rw [num_agg] at this; exact this

/-- The sum that a level goes by. -/
def keyP (lv : Nat) (b : Bx) : Int := if lv % 2 = 0 then b.1 + b.2.2.1 else b.2.1 + b.2.2.2
theorem keyB_at (l : List Bx) (lv i : Nat) : keyB l lv i = keyP lv (l.getD i Bx0) := rfl
def InB (b : Bx) : Prop := In6 b.1 ∧ In6 b.2.1 ∧ In6 b.2.2.1 ∧ In6 b.2.2.2
set_option maxRecDepth 100000 in
set_option maxHeartbeats 2000000 in
theorem r_btAhead (x1 x2 x3 x4 y1 y2 y3 y4 : Int) (hx : InB (x1, x2, x3, x4)) (hy : InB (y1, y2, y3, y4)) (lv : Nat) (hl : lv ≤ 1000000) (w : World) :
    Calls Try.prog 51 #[bxV x1 x2 x3 x4, bxV y1 y2 y3 y4, .int .i64 (lv : Int)] w fun e w' => e = .returned (.bool (decide (keyP lv (x1, x2, x3, x4) < keyP lv (y1, y2, y3, y4)))) ∧ Junk w w' := by
  obtain ⟨a1, a2, a3, a4⟩ := hx
  obtain ⟨b1, b2, b3, b4⟩ := hy
  simp only at a1 a2 a3 a4 b1 b2 b3 b4
  have H1 := Lib.hid (fun w' => r_btLess x1 x3 y1 y3 a1 a3 b1 b3 w')
  have H2 := Lib.hid (fun w' => r_btLess x2 x4 y2 y4 a2 a4 b2 b4 w')
  have m1 : ((lv : Int)).tmod 2 = ((lv % 2 : Nat) : Int) := by rw [Int.tmod_eq_emod_of_nonneg (by omega)]; omega
  unfold bxV
  clear a1 a2 a3 a4 b1 b2 b3 b4
  rcases Nat.mod_two_eq_zero_or_one lv with h | h
  · have hk : decide (keyP lv (x1, x2, x3, x4) < keyP lv (y1, y2, y3, y4)) = decide (x1 + x3 < y1 + y3) := by unfold keyP; rw [if_pos h, if_pos h]
    rw [hk]
    generalize decide (x1 + x3 < y1 + y3) = g at *
    rw [h] at m1
    have m2 : (lv : Int) % 2 = 0 := by omega
    clear hk H2 h
    go_enter Try.func51, Try.ntmps51
    go_wp2_with (go_at_call 58; refine (H1.out _).mono ?_; rintro e w1 ⟨rfl, J1, d1, rfl⟩)
    go_ret
    exact ⟨rfl, junk_of_below (by (repeat' (first | (with_reducible exact Below.refl _ _) | (with_reducible assumption) | (with_reducible refine Below.alloc ?_ ?_ _) | (with_reducible refine Below.drew ?_) | (with_reducible refine below_drewN ?_ _) | (with_reducible refine below_plus ?_ ?_ _ _) | (with_reducible refine Below.setCell ?_ ?_ _) | (with_reducible refine Below.setRow ?_ ?_ _) | go_size)))⟩
  · have hk : decide (keyP lv (x1, x2, x3, x4) < keyP lv (y1, y2, y3, y4)) = decide (x2 + x4 < y2 + y4) := by unfold keyP; rw [if_neg (by omega), if_neg (by omega)]
    rw [hk]
    generalize decide (x2 + x4 < y2 + y4) = g at *
    rw [h] at m1
    have m2 : (lv : Int) % 2 = 1 := by omega
    clear hk H1 h
    go_enter Try.func51, Try.ntmps51
    go_wp2_with (go_at_call 58; refine (H2.out _).mono ?_; rintro e w1 ⟨rfl, J1, d1, rfl⟩)
    go_ret
    exact ⟨rfl, junk_of_below (by (repeat' (first | (with_reducible exact Below.refl _ _) | (with_reducible assumption) | (with_reducible refine Below.alloc ?_ ?_ _) | (with_reducible refine Below.drew ?_) | (with_reducible refine below_drewN ?_ _) | (with_reducible refine below_plus ?_ ?_ _ _) | (with_reducible refine Below.setCell ?_ ?_ _) | (with_reducible refine Below.setRow ?_ ?_ _) | go_size)))⟩
end

section
set_option linter.unusedVariables false
set_option linter.unusedSimpArgs false
open Go.RowKit

/-- A slice of numbers is put behind a row of the call's own, in a statement that draws its order. -/
theorem step_iapp {ops : Array Oper} {o : Oper} {a : Act} {w : World} {K : Act → World → Prop} {Q : Exit → Act → World → Prop} {E : Prop} (hgd : o.guard = none) (s x : Operand)
    (ho : o.op = .call { callee := .builtin .append, args := #[s, x], argTypes := #[34, 34] }) (base : Nat) (v : Value) (n : Nat) (xs : List Int) (hs : a.eval s = v) (hown : w.ownsRow base 3 1 v n (ints xs))
    (A : Option Addr) (len cap : Nat) (zs : List Int) (hx : a.eval x = .slice A len cap) (hn : A = none → len = 0 ∧ cap = 0) (hr : Reads w A len zs) (hm : n + len ≤ 17592186044416) (hb : base ≤ w.heap.size)
    (h : ∀ v' w', w'.ownsRow base 3 1 v' (n + len) (ints (xs ++ zs)) → w.grownBy w' v.ownBlock → K (a.put o.dst v') w') :
    if Region.wanted o (yielded ops a.tmps) = true then Oper.wp Try.prog o a w K Q else E := by
  have hw : Region.wanted o (yielded ops a.tmps) = true := by simp [Region.wanted, hgd]
  rw [if_pos hw]
  obtain ⟨i0, hi0, hz0, hz1, hz2⟩ := info_int
  rcases A with _ | ad
  · obtain ⟨rfl, rfl⟩ := hn rfl
    obtain rfl : zs = [] := List.eq_nil_of_length_eq_zero hr.1
    have hrun := run_append_owned_none (P := Try.prog) (w := w) base 34 o.type 3 i0 1 Try.underlying34 hi0 v n (ints xs) hown
    have hK := h v w (by rw [List.append_nil, Nat.add_zero]; exact hown) (World.grownBy.refl w _)
    unfold Oper.wp
    simp [execOp, ho, resolve, invoke, builtin, hs, hx, hrun, Result.andThen]
    exact hK
  · refine wp_append_own _ s x _ ho base 3 i0 _ 1 8 Try.underlying34 hi0 hz0 hz1 hz2 rfl (by decide) _ n (ints xs) hs hown ad len cap (ints zs) hx
      (by rw [ints_len, hr.1, Nat.mul_one]) hr.cells (ints_one zs) (by simp only [maxLen]; omega) (by omega) hb ?_
    intro v' w' hown' hg _
    rw [ints_app] at hown'
    exact h _ _ hown' hg

theorem nums_get {l : List Nat} {k : Nat} (h : k < l.length) : (nums l).getD k 0 = ((l.getD k 0 : Nat) : Int) := by
  unfold nums
  rw [List.getD_eq_getElem?_getD, List.getElem?_map, List.getElem?_eq_getElem h, List.getD_eq_getElem?_getD, List.getElem?_eq_getElem h]
  rfl
theorem nums_app (l m : List Nat) : nums l ++ nums m = nums (l ++ m) := by simp [nums]
theorem nums_fit {l : List Nat} {n N : Nat} (h : ∀ i ∈ l, i < N) (hN : N ≤ 1000000) (hn : n ≤ l.length) : Fit64 (nums l) n := fun i hi => by
  rw [nums_get (by omega)]
  have hm : l.getD i 0 ∈ l := by rw [List.getD_eq_getElem?_getD, List.getElem?_eq_getElem (by omega)]; exact List.getElem_mem (by omega)
  have := h _ hm
  omega
/-- A place is put where it belongs: all ahead of it, it ahead of all behind. -/
theorem mid_srt {k : Nat → Int} {S : List Nat} {x j : Nat} (h : SrtK k S) (h1 : ∀ i, i < j → aheadK k (S.getD i 0) x) (h2 : ∀ i, j ≤ i → i < S.length → aheadK k x (S.getD i 0)) : SrtK k (S.take j ++ [x] ++ S.drop j) := by
  unfold SrtK at *
  have g : ∀ i (hi : i < S.length), S.getD i 0 = S[i] := fun i hi => by rw [List.getD_eq_getElem?_getD, List.getElem?_eq_getElem hi]; rfl
  have hsp : (S.take j ++ S.drop j).Pairwise (aheadK k) := by rw [List.take_append_drop]; exact h
  rw [List.pairwise_append] at hsp
  obtain ⟨s1, s2, s3⟩ := hsp
  have t1 : ∀ y ∈ S.take j, aheadK k y x := fun y hy => by
    obtain ⟨i, hi, e⟩ := List.mem_iff_getElem.1 hy
    rw [List.length_take] at hi
    rw [List.getElem_take] at e
    have := h1 i (by omega)
    rw [g i (by omega), e] at this
    exact this
  have t2 : ∀ y ∈ S.drop j, aheadK k x y := fun y hy => by
    obtain ⟨i, hi, e⟩ := List.mem_iff_getElem.1 hy
    rw [List.length_drop] at hi
    rw [List.getElem_drop] at e
    have := h2 (j + i) (by omega) (by omega)
    rw [g (j + i) (by omega), e] at this
    exact this
  rw [List.append_assoc, List.pairwise_append]
  refine ⟨s1, ?_, fun y hy z hz => ?_⟩
  · rw [List.singleton_append, List.pairwise_cons]
    exact ⟨t2, s2⟩
  · rcases List.mem_append.1 hz with hz | hz
    · rw [List.mem_singleton.1 hz]; exact t1 y hy
    · exact s3 y hy z hz
theorem mid_perm {S : List Nat} {x j : Nat} : (S.take j ++ [x] ++ S.drop j).Perm (S ++ [x]) := by
  rw [List.append_assoc]
  have h : (S.take j ++ (S.drop j ++ [x])).Perm (S ++ [x]) := by rw [← List.append_assoc, List.take_append_drop]
  exact (List.Perm.append_left _ List.perm_append_comm).trans h
/-- Between two rounds: the first i in their order. -/
def OdO (W : World) (k : Nat → Int) (P : List Nat) (v x : Value) (wr : World) : Prop := ∃ (i : Nat) (S : List Nat), x = .int .i64 (i : Int) ∧ i ≤ P.length ∧ wr.ownsRow W.heap.size 3 1 v S.length (ints (nums S)) ∧ S.Perm (P.take i) ∧ SrtK k S ∧ Below W.heap.size W wr
/-- Between two inner rounds: it is ahead of all from the j-th on. -/
def OdI (W : World) (k : Nat → Int) (S : List Nat) (p : Nat) (x : Value) (wr : World) : Prop := ∃ j : Nat, x = .int .i64 (j : Int) ∧ j ≤ S.length ∧ (∀ i, j ≤ i → i < S.length → aheadK k p (S.getD i 0)) ∧ Cls W wr

theorem iown_ok {w : World} {base n : Nat} {v : Value} {zs : List Int} (h : w.ownsRow base 3 1 v n (ints zs)) (hb : Fit64 zs n) : ∃ a cap, v = .slice a n cap ∧ Reads w a n zs ∧ SOk a n cap := by
  obtain ⟨a, cap, e, hr⟩ := reads_of_owns h hb
  refine ⟨a, cap, e, hr, ?_⟩
  obtain ⟨_, h2⟩ := h
  rcases h2 with ⟨e2, h0⟩ | ⟨g, c2, cur, e2, _, _, hnc, _⟩
  · rw [e2] at e
    injection e with e3 e4 e5
    subst e3 e4 e5
    exact ⟨Nat.le_refl _, fun _ => rfl⟩
  · rw [e2] at e
    injection e with e3 e4 e5
    subst e5
    exact ⟨by omega, fun h => by rw [← e3] at h; cases h⟩
theorem iown_base {W : World} {base base' es : Nat} {e : TypeId} {v : Value} {k : Nat} {xs : List Value} (h : W.ownsRow base e es v k xs) (hb : base' ≤ base) : W.ownsRow base' e es v k xs := by
  obtain ⟨h1, h⟩ := h
  refine ⟨h1, ?_⟩
  rcases h with h | ⟨g, cap, cur, hv, hg, hc, h4, h5, h6, h7⟩
  · exact .inl h
  · exact .inr ⟨g, cap, cur, hv, by omega, hc, h4, h5, h6, h7⟩
theorem reads_cell {w : World} {g : Nat} {z : Int} (hc : w.cell? ⟨g, 0, none⟩ = some (.int .i64 z)) (hf : Fit64 [z] 1) : Reads w (some ⟨g, 0, none⟩) 1 [z] :=
  ⟨rfl, hf, .inr ⟨g, 0, rfl, fun i hi => by
    obtain rfl : i = 0 := by omega
    exact hc⟩⟩
theorem iempty_at {w : World} {g : Nat} (e : w.heap.size = g) : (w.alloc (.cells #[] 3)).ownsRow g 3 1 (.slice (some ⟨g, 0, none⟩) 0 0) 0 (ints []) := by subst e; exact owns_empty w
theorem grown_cell {w w' : World} {row : Option Nat} {g : Nat} {u : Value} (hg : w.grownBy w' row) (hc : w.cell? ⟨g, 0, none⟩ = some u) (hr : ¬ row = some g) : w'.cell? ⟨g, 0, none⟩ = some u :=
  (World.cell?_of_block (a := ⟨g, 0, none⟩) (hg.block g (World.block_lt_of_cell? _ _ hc) (fun e => hr e.symm))).trans hc
/-- Where a slice's rest begins. -/
def dropA (a : Option Addr) (j c : Nat) : Option Addr := if c = j then a else Option.map (fun x => x.add j) a
theorem dropA_none {a : Option Addr} {j c n : Nat} (hk : SOk a n c) (h : dropA a j c = none) : n - j = 0 ∧ c - j = 0 := by
  have hle := hk.le
  unfold dropA at h
  cases a with
  | none => have := hk.nil rfl; omega
  | some x => split at h <;> cases h
theorem reads_takeN {w : World} {a : Option Addr} {l : List Nat} {j : Nat} (h : Reads w a l.length (nums l)) (hj : j ≤ l.length) : Reads w a j (nums (l.take j)) := by
  obtain ⟨h1, h2, h3⟩ := h
  have g : ∀ i, i < j → (nums (l.take j)).getD i 0 = (nums l).getD i 0 := fun i hi => by
    rw [nums_get (by rw [List.length_take]; omega), nums_get (by omega), List.getD_eq_getElem?_getD, List.getElem?_take_of_lt hi, List.getD_eq_getElem?_getD]
  refine ⟨by rw [nums_len, List.length_take]; omega, fun i hi => by rw [g i hi]; exact h2 i (by omega), ?_⟩
  rcases h3 with h3 | ⟨b, o, he, hc⟩
  · exact .inl (by omega)
  · exact .inr ⟨b, o, he, fun i hi => by rw [g i hi]; exact hc i (by omega)⟩
theorem reads_dropN {w : World} {a : Option Addr} {c : Nat} {l : List Nat} {j : Nat} (h : Reads w a l.length (nums l)) (hk : SOk a l.length c) (hj : j ≤ l.length) : Reads w (dropA a j c) (l.length - j) (nums (l.drop j)) := by
  obtain ⟨h1, h2, h3⟩ := h
  have g : ∀ i, i < l.length - j → (nums (l.drop j)).getD i 0 = (nums l).getD (j + i) 0 := fun i hi => by
    rw [nums_get (by rw [List.length_drop]; omega), nums_get (by omega), List.getD_eq_getElem?_getD, List.getElem?_drop, List.getD_eq_getElem?_getD]
  refine ⟨by rw [nums_len, List.length_drop], fun i hi => by rw [g i hi]; exact h2 _ (by omega), ?_⟩
  have := hk.le
  by_cases hz : l.length - j = 0
  · exact .inl hz
  · rcases h3 with h3 | ⟨b, o, rfl, hc⟩
    · omega
    · refine .inr ⟨b, o + j, ?_, fun i hi => ?_⟩
      · unfold dropA; rw [if_neg (by omega)]
        show some ((⟨b, o, none⟩ : Addr).add j) = _
        congr 1
        unfold Addr.add; split <;> simp_all
      · rw [g i hi, Nat.add_assoc]; exact hc _ (by omega)
theorem getD_memN {l : List Nat} {k : Nat} (h : k < l.length) : l.getD k 0 ∈ l := by
  rw [List.getD_eq_getElem?_getD, List.getElem?_eq_getElem h]; exact List.getElem_mem h
/-- One number of a row that reads as a list. -/
theorem reads_at {w : World} {a : Option Addr} {n : Nat} {l : List Nat} (h : Reads w a n (nums l)) {k : Nat} (hk : k < n) : ∃ b o, a = some ⟨b, o, none⟩ ∧ w.cell? ⟨b, o + k, none⟩ = some (.int .i64 ((l.getD k 0 : Nat) : Int)) ∧ b < w.heap.size := by
  have hl := h.1
  rw [nums_len] at hl
  rcases h.2.2 with h0 | ⟨b, o, rfl, hc⟩
  · omega
  · have := hc k hk
    rw [nums_get (by omega)] at this
    exact ⟨b, o, rfl, this, World.block_lt_of_cell? _ _ this⟩
theorem xreads_at {w : World} {a : Option Addr} {n : Nat} {L : List Bx} (h : XReads w a n L) {k : Nat} (hk : k < n) : ∃ b o x1 x2 x3 x4, a = some ⟨b, o, none⟩ ∧ L.getD k Bx0 = (x1, x2, x3, x4) ∧ w.cell? ⟨b, o + k * 4, none⟩ = some (.int .i64 x1) ∧ w.cell? ⟨b, o + k * 4 + 1, none⟩ = some (.int .i64 x2) ∧ w.cell? ⟨b, o + k * 4 + 2, none⟩ = some (.int .i64 x3) ∧ w.cell? ⟨b, o + k * 4 + 3, none⟩ = some (.int .i64 x4) ∧ b < w.heap.size := by
  rcases h.2 with h0 | ⟨b, o, rfl, hc⟩
  · omega
  · obtain ⟨p1, p2, p3, p4⟩ := hc k hk
    exact ⟨b, o, _, _, _, _, rfl, rfl, p1, p2, p3, p4, World.block_lt_of_cell? _ _ p1⟩

set_option maxRecDepth 100000 in
set_option maxHeartbeats 8000000 in
theorem r_btOrd (L : List Bx) (hin : ∀ b ∈ L, InB b) (n ca : Nat) (a : Option Addr) (hn : n ≤ 100000) : ∀ (f lv : Nat) (P : List Nat) (w : World) (ap : Option Addr) (m cp : Nat), P.length ≤ f → lv + f ≤ 1000000 → P.length ≤ 100000 → P.Nodup → (∀ i ∈ P, i < n) → XReads w a n L → Reads w ap m (nums P) → SOk ap m cp →
    Calls Try.prog 40 #[.slice a n ca, .slice ap m cp, .int .i64 (lv : Int)] w fun e w' => (∃ b c, e = .returned (.slice b m c) ∧ Reads w' b m (nums (ordK (keyB L) f lv P)) ∧ SOk b m c) ∧ Junk w w' := by
  intro f
  induction f with
  | zero =>
    intro lv P w ap m cp hf _ _ _ _ _ hP hk
    obtain rfl := List.eq_nil_of_length_eq_zero (Nat.le_zero.1 hf)
    obtain rfl : m = 0 := by have := hP.1; rw [nums_len] at this; simpa using this.symm
    have HP := Lib.hid hP
    have HK := Lib.hid hk
    clear hP hk
    go_enter Try.func40, Try.ntmps40
    go_wp2_with fail
    go_ret
    exact ⟨⟨_, _, rfl, HP.out, HK.out⟩, junk_of_below (by (repeat' (first | (with_reducible exact Below.refl _ _) | (with_reducible assumption) | (with_reducible refine Below.alloc ?_ ?_ _) | (with_reducible refine Below.drew ?_) | (with_reducible refine below_drewN ?_ _) | (with_reducible refine below_plus ?_ ?_ _ _) | (with_reducible refine Below.setCell ?_ ?_ _) | (with_reducible refine Below.setRow ?_ ?_ _) | go_size)))⟩
  | succ f ih =>
    intro lv P w ap m cp hf hlv hP1 hnd hmem hX hP hk
    have hPl : P.length = m := by have := hP.1; rwa [nums_len] at this
    by_cases h2 : m < 2
    · have e : ordK (keyB L) (f + 1) lv P = P := by unfold ordK; rw [if_pos (by omega)]
      rw [e]
      have HP := Lib.hid hP
      have HK := Lib.hid hk
      have i1 : (m : Int) < 2 := by omega
      clear hP hk ih e hX hmem hnd
      go_enter Try.func40, Try.ntmps40
      go_wp2_with fail
      go_ret
      exact ⟨⟨_, _, rfl, HP.out, HK.out⟩, junk_of_below (by (repeat' (first | (with_reducible exact Below.refl _ _) | (with_reducible assumption) | (with_reducible refine Below.alloc ?_ ?_ _) | (with_reducible refine Below.drew ?_) | (with_reducible refine below_drewN ?_ _) | (with_reducible refine below_plus ?_ ?_ _ _) | (with_reducible refine Below.setCell ?_ ?_ _) | (with_reducible refine Below.setRow ?_ ?_ _) | go_size)))⟩
    have i1 : ¬ (m : Int) < 2 := by omega
    have HIn := Lib.hid hin
    have HIh := Lib.hid ih
    have HX := Lib.hid hX
    have HP := Lib.hid hP
    have HK := Lib.hid hk
    have HM := Lib.hid hmem
    have HND := Lib.hid hnd
    have L1 := Lib.hid hPl
    clear hin ih hX hP hk hmem hnd
    go_enter Try.func40, Try.ntmps40
    go_wp2_with fail
    go_loopw [7, 8] (fun v x wr => OdO w (keyB L lv) P v x wr) (fun _ x _ => m - (intOf x).toNat)
    case atStart => exact ⟨0, [], rfl, by omega, inil_owns _ _, List.Perm.refl _, List.Pairwise.nil, Below.refl _ _⟩
    case round =>
      obtain ⟨i, S, rfl, hi, hown, hperm, hsrt, hB⟩ := hrel
      rw [L1.out] at hi
      have hsz := hB.size
      have hSl : S.length = i := by rw [hperm.length_eq, List.length_take]; omega
      by_cases hlt : i < m
      · obtain ⟨bp, op, rfl, pc, lbp⟩ := reads_at HP.out (k := i) hlt
        have hpm : P.getD i 0 ∈ P := getD_memN (by rw [L1.out]; exact hlt)
        have hpn := HM.out _ hpm
        obtain ⟨p, hp⟩ : ∃ p, P.getD i 0 = p := ⟨_, rfl⟩
        rw [hp] at pc hpm hpn
        have hSm : ∀ x ∈ S, x ∈ P := fun x hx => List.mem_of_mem_take (hperm.mem_iff.1 hx)
        obtain ⟨sa, sc, rfl, hSr, hSk⟩ := iown_ok hown (nums_fit (N := n) (fun x hx => HM.out x (hSm x hx)) (by omega) (Nat.le_refl _))
        have qc := (World.cell?_of_block (hB.block _ lbp)).trans pc
        have lbp2 := World.block_lt_of_cell? _ _ qc
        have HSr := Lib.hid hSr
        have HSk := Lib.hid hSk
        have HOW := Lib.hid hown
        have HPe := Lib.hid hperm
        have HSt := Lib.hid hsrt
        have HB := Lib.hid hB
        have HSm := Lib.hid hSm
        have HSl := Lib.hid hSl
        have Hp := Lib.hid hp
        have HXB := Lib.hid (HX.out.below hB)
        have i2 : (i : Int) < (m : Int) := by omega
        obtain ⟨bl, ol, x1, x2, x3, x4, ea, ex, b1, b2, b3, b4, lbl⟩ := xreads_at HXB.out (k := p) hpn
        subst ea
        have hxi := HIn.out _ (show L.getD p Bx0 ∈ L by rw [List.getD_eq_getElem?_getD, List.getElem?_eq_getElem (by rw [HX.out.1]; exact hpn)]; exact List.getElem_mem _)
        rw [ex] at hxi
        have i3 : (p : Int) < (n : Int) := by omega
        have HKp := Lib.hid (show keyB L lv p = keyP lv (x1, x2, x3, x4) by rw [keyB_at, ex])
        have HXi := Lib.hid hxi
        obtain ⟨wo, rfl⟩ : ∃ wo : World, wo = wr := ⟨_, rfl⟩
        clear pc hpm hp hSm hSr hSk hown hperm hsrt hB hSl ex hxi
        go_wp2_with fail
        go_loopw [9] (fun x wr => OdI wo (keyB L lv) S p x wr) (fun x _ => (intOf x).toNat)
        case atStart => exact ⟨S.length, rfl, Nat.le_refl _, fun q h1 h2 => by omega, #[], _, (plus_nil _).symm⟩
        case round =>
          obtain ⟨j, rfl, j1, hah, J, d, rfl⟩ := hrel
          have HAh := Lib.hid hah
          clear hah
          obtain ⟨g, hg⟩ : ∃ g, (decide (0 < j) && decide (aheadK (keyB L lv) p (S.getD (j - 1) 0))) = g := ⟨_, rfl⟩
          have HG := Lib.hid hg
          clear hg
          go_upto_region 8 with fail
          go_cut [75] from 23 to 75 (fun t wx => t = .bool g ∧ Cls wo wx)
          case first =>
            by_cases j0 : j = 0
            · subst j0
              have hg : g = false := by rw [← HG.out]; rfl
              subst hg
              have HD := Lib.hid (fun w' => r_btDepth 0 0 w' (Nat.le_refl _) (by decide))
              refine region_quiet_all (C := Cls wo) (by kernel_rfl) (by kernel_rfl) ⟨_, _, rfl⟩ ?_
              repeat (first | (refine qw_skip (by rfl) ?_; simp only [Act.put, List.setIfInBounds_toArray, List.set_cons_succ, List.set_cons_zero]) | (refine qw_want (by rfl) (fun K hK => ?_); go_simp; first | (refine hK _ ?_; clear hK K) | (apply Exists.intro; refine ⟨?_, hK _ ?_⟩; (rintro w3_ ⟨J3_, d3_, rfl⟩; first | (with_reducible exact rfl) | (go_simp; with_reducible exact rfl) | (go_simp; (first | (with_reducible refine (HD.out _).mono ?_)); rintro e_ w_ ⟨rfl, J4_, d4_, rfl⟩; exact ⟨rfl, J3_ ++ J4_, d4_, by simp only [plus_plus, Array.append_assoc]⟩)); clear hK K)))
              refine qw_nil ?_
              rintro w7 ⟨J3, d3, rfl⟩
              go_wp2_with fail
              go_meet
              exact ⟨rfl, _, _, rfl⟩
            · obtain ⟨q, rfl⟩ : ∃ q, j = q + 1 := ⟨j - 1, by omega⟩
              obtain ⟨bs, os, es, sq, lbs⟩ := reads_at HSr.out (k := q) (by omega)
              subst es
              obtain ⟨s, hs⟩ : ∃ s, S.getD q 0 = s := ⟨_, rfl⟩
              have hsn : s < n := by rw [← hs]; exact HM.out _ (HSm.out _ (getD_memN (by omega)))
              rw [hs] at sq
              obtain ⟨bl2, ol2, y1, y2, y3, y4, ea2, ey, e1, e2, e3, e4, lbl2⟩ := xreads_at HXB.out (k := s) hsn
              obtain ⟨rfl, rfl⟩ : bl2 = bl ∧ ol2 = ol := by injection ea2 with ea2; injection ea2 with h1 h2 _; exact ⟨h1.symm, h2.symm⟩
              have hyi := HIn.out _ (show L.getD s Bx0 ∈ L by rw [List.getD_eq_getElem?_getD, List.getElem?_eq_getElem (by rw [HX.out.1]; exact hsn)]; exact List.getElem_mem _)
              rw [ey] at hyi
              have H1 := Lib.hid (fun w' => r_btAhead x1 x2 x3 x4 y1 y2 y3 y4 HXi.out hyi lv (by omega) w')
              have H2 := Lib.hid (fun w' => r_btAhead y1 y2 y3 y4 x1 x2 x3 x4 hyi HXi.out lv (by omega) w')
              have hks : keyB L lv s = keyP lv (y1, y2, y3, y4) := by rw [keyB_at, ey]
              have hgg : g = decide (keyP lv (x1, x2, x3, x4) < keyP lv (y1, y2, y3, y4) ∨ (keyP lv (x1, x2, x3, x4) = keyP lv (y1, y2, y3, y4) ∧ p < s)) := by
                rw [← HG.out, decide_eq_true (show 0 < q + 1 by omega), show q + 1 - 1 = q by omega, hs, Bool.true_and]
                exact decide_eq_decide.2 (by unfold aheadK; rw [HKp.out, hks])
              have hql : q < 100000 := by have := HSl.out; omega
              have k1 : IntKind.i64.wrap (((q + 1 : Nat) : Int) - 1) = (q : Int) := by simp [IntKind.wrap, IntKind.signed, IntKind.bits]; omega
              have k1a : IntKind.i64.wrap (q : Int) = (q : Int) := by simp [IntKind.wrap, IntKind.signed, IntKind.bits]; omega
              have k1b : (q : Int) + 1 - 1 = (q : Int) := by omega
              have k2 : (0 : Int) < ((q + 1 : Nat) : Int) := by omega
              have k2a : (0 : Int) < (q : Int) + 1 := by omega
              have k3 : (q : Int) < (S.length : Int) := by omega
              have k4 : (s : Int) < (n : Int) := by omega
              generalize keyP lv (x1, x2, x3, x4) = kx at *
              generalize keyP lv (y1, y2, y3, y4) = ky at *
              unfold bxV at H1 H2
              clear ea2 hyi hks HG hs ey
              by_cases c1 : kx < ky
              · rw [decide_eq_true (show kx < ky ∨ (kx = ky ∧ p < s) from .inl c1)] at hgg
                subst hgg
                rw [decide_eq_true c1] at H1
                clear c1
                refine region_quiet_all (C := Cls wo) (by kernel_rfl) (by kernel_rfl) ⟨_, _, rfl⟩ ?_
                repeat (first | (refine qw_skip (by rfl) ?_; simp only [Act.put, List.setIfInBounds_toArray, List.set_cons_succ, List.set_cons_zero]) | (refine qw_want (by rfl) (fun K hK => ?_); go_simp; first | (refine hK _ ?_; clear hK K) | (apply Exists.intro; refine ⟨?_, hK _ ?_⟩; (rintro w3_ ⟨J3_, d3_, rfl⟩; first | (with_reducible exact rfl) | (go_simp; with_reducible exact rfl) | (go_simp; (first | (with_reducible refine (H1.out _).mono ?_) | (with_reducible refine (H2.out _).mono ?_)); rintro e_ w_ ⟨rfl, J4_, d4_, rfl⟩; exact ⟨rfl, J3_ ++ J4_, d4_, by simp only [plus_plus, Array.append_assoc]⟩)); clear hK K)))
                refine qw_nil ?_
                rintro w7 ⟨J3, d3, rfl⟩
                go_wp2_with fail
                go_meet
                exact ⟨rfl, _, _, rfl⟩
              · rw [decide_eq_false c1] at H1
                by_cases c2 : ky < kx
                · rw [decide_eq_false (show ¬ (kx < ky ∨ (kx = ky ∧ p < s)) by omega)] at hgg
                  subst hgg
                  rw [decide_eq_true c2] at H2
                  clear c1 c2
                  refine region_quiet_all (C := Cls wo) (by kernel_rfl) (by kernel_rfl) ⟨_, _, rfl⟩ ?_
                  repeat (first | (refine qw_skip (by rfl) ?_; simp only [Act.put, List.setIfInBounds_toArray, List.set_cons_succ, List.set_cons_zero]) | (refine qw_want (by rfl) (fun K hK => ?_); go_simp; first | (refine hK _ ?_; clear hK K) | (apply Exists.intro; refine ⟨?_, hK _ ?_⟩; (rintro w3_ ⟨J3_, d3_, rfl⟩; first | (with_reducible exact rfl) | (go_simp; with_reducible exact rfl) | (go_simp; (first | (with_reducible refine (H1.out _).mono ?_) | (with_reducible refine (H2.out _).mono ?_)); rintro e_ w_ ⟨rfl, J4_, d4_, rfl⟩; exact ⟨rfl, J3_ ++ J4_, d4_, by simp only [plus_plus, Array.append_assoc]⟩)); clear hK K)))
                  refine qw_nil ?_
                  rintro w7 ⟨J3, d3, rfl⟩
                  go_wp2_with fail
                  go_meet
                  exact ⟨rfl, _, _, rfl⟩
                · rw [decide_eq_false c2] at H2
                  by_cases c3 : p < s
                  · rw [decide_eq_true (show kx < ky ∨ (kx = ky ∧ p < s) by omega)] at hgg
                    subst hgg
                    have k5 : (p : Int) < (s : Int) := by omega
                    clear c1 c2 c3
                    refine region_quiet_all (C := Cls wo) (by kernel_rfl) (by kernel_rfl) ⟨_, _, rfl⟩ ?_
                    repeat (first | (refine qw_skip (by rfl) ?_; simp only [Act.put, List.setIfInBounds_toArray, List.set_cons_succ, List.set_cons_zero]) | (refine qw_want (by rfl) (fun K hK => ?_); go_simp; first | (refine hK _ ?_; clear hK K) | (apply Exists.intro; refine ⟨?_, hK _ ?_⟩; (rintro w3_ ⟨J3_, d3_, rfl⟩; first | (with_reducible exact rfl) | (go_simp; with_reducible exact rfl) | (go_simp; (first | (with_reducible refine (H1.out _).mono ?_) | (with_reducible refine (H2.out _).mono ?_)); rintro e_ w_ ⟨rfl, J4_, d4_, rfl⟩; exact ⟨rfl, J3_ ++ J4_, d4_, by simp only [plus_plus, Array.append_assoc]⟩)); clear hK K)))
                    refine qw_nil ?_
                    rintro w7 ⟨J3, d3, rfl⟩
                    go_wp2_with fail
                    go_meet
                    exact ⟨rfl, _, _, rfl⟩
                  · rw [decide_eq_false (show ¬ (kx < ky ∨ (kx = ky ∧ p < s)) by omega)] at hgg
                    subst hgg
                    have k5 : ¬ (p : Int) < (s : Int) := by omega
                    clear c1 c2 c3
                    refine region_quiet_all (C := Cls wo) (by kernel_rfl) (by kernel_rfl) ⟨_, _, rfl⟩ ?_
                    repeat (first | (refine qw_skip (by rfl) ?_; simp only [Act.put, List.setIfInBounds_toArray, List.set_cons_succ, List.set_cons_zero]) | (refine qw_want (by rfl) (fun K hK => ?_); go_simp; first | (refine hK _ ?_; clear hK K) | (apply Exists.intro; refine ⟨?_, hK _ ?_⟩; (rintro w3_ ⟨J3_, d3_, rfl⟩; first | (with_reducible exact rfl) | (go_simp; with_reducible exact rfl) | (go_simp; (first | (with_reducible refine (H1.out _).mono ?_) | (with_reducible refine (H2.out _).mono ?_)); rintro e_ w_ ⟨rfl, J4_, d4_, rfl⟩; exact ⟨rfl, J3_ ++ J4_, d4_, by simp only [plus_plus, Array.append_assoc]⟩)); clear hK K)))
                    refine qw_nil ?_
                    rintro w7 ⟨J3, d3, rfl⟩
                    go_wp2_with fail
                    go_meet
                    exact ⟨rfl, _, _, rfl⟩
          case rest =>
          obtain ⟨rfl, J2, d2, rfl⟩ := hcut
          cases g with
          | true =>
            have hgo : 0 < j ∧ aheadK (keyB L lv) p (S.getD (j - 1) 0) := by simpa using HG.out
            have HN := Lib.hid (show ∀ q, j - 1 ≤ q → q < S.length → aheadK (keyB L lv) p (S.getD q 0) from fun q h1 h2 => by
              by_cases e : q = j - 1
              · subst e; exact hgo.2
              · exact HAh.out q (by omega) h2)
            have j0 : 0 < j := hgo.1
            have hjl : j < 100000 := by have := HSl.out; omega
            have w2 : IntKind.i64.wrap ((j : Int) - 1) = ((j - 1 : Nat) : Int) := by simp [IntKind.wrap, IntKind.signed, IntKind.bits]; omega
            clear hgo
            go_wp2_with fail
            go_roundw
            case rel => exact ⟨j - 1, rfl, by omega, HN.out, _, _, rfl⟩
            case measure => simp [intOf]; omega
          | false =>
            have hno : ¬ (0 < j ∧ aheadK (keyB L lv) p (S.getD (j - 1) 0)) := by simpa using HG.out
            have HTk := Lib.hid (show P.take (i + 1) = P.take i ++ [p] by rw [List.take_succ_eq_append_getElem (by rw [L1.out]; exact hlt), ← Hp.out, List.getD_eq_getElem?_getD, List.getElem?_eq_getElem (by rw [L1.out]; exact hlt)]; rfl)
            have hpS : p ∉ S := fun h => by
              have h1 : (P.take (i + 1)).Nodup := HND.out.sublist (List.take_sublist _ _)
              rw [HTk.out, List.nodup_append] at h1
              exact h1.2.2 p (HPe.out.mem_iff.1 h) p (by simp) rfl
            have HN1 := Lib.hid (show SrtK (keyB L lv) (S.take j ++ [p] ++ S.drop j) from mid_srt HSt.out (fun q hq => by
              have hj0 : 0 < j := by omega
              have hjS : j - 1 < S.length := by omega
              have a1 : aheadK (keyB L lv) (S.getD (j - 1) 0) p := by
                apply Decidable.byContradiction
                intro k
                have e := ahead_tot (fun h => hno ⟨hj0, h⟩) k
                exact hpS (by rw [e]; exact getD_memN hjS)
              by_cases e : q = j - 1
              · subst e; exact a1
              · have h3 := List.pairwise_iff_getElem.1 HSt.out q (j - 1) (by omega) hjS (by omega)
                rw [List.getD_eq_getElem?_getD, List.getElem?_eq_getElem (by omega : q < S.length)]
                rw [List.getD_eq_getElem?_getD, List.getElem?_eq_getElem hjS] at a1
                exact ahead_trans h3 a1) HAh.out)
            have HN2 := Lib.hid (show (S.take j ++ [p] ++ S.drop j).Perm (P.take (i + 1)) by rw [HTk.out]; exact mid_perm.trans (HPe.out.append_right [p]))
            have HN3 := Lib.hid (show j + 1 + (S.length - j) = (S.take j ++ [p] ++ S.drop j).length ∧ (nums (S.take j) ++ [(p : Int)]) ++ nums (S.drop j) = nums (S.take j ++ [p] ++ S.drop j) by
              constructor
              · rw [List.length_append, List.length_append, List.length_take, List.length_drop, Nat.min_eq_left j1]; rfl
              · rw [← nums_app, ← nums_app]; rfl)
            have HNo := Lib.hid hno
            clear hno HG hpS HTk
            have HRd := Lib.hid (show Reads wo sa j (nums (S.take j)) from reads_takeN HSr.out j1)
            have HRe := Lib.hid (show Reads wo (dropA sa j sc) (S.length - j) (nums (S.drop j)) from reads_dropN HSr.out HSk.out j1)
            have jsc : j ≤ sc := Nat.le_trans j1 HSk.out.le
            have hjl : j < 100000 := by have := HSl.out; omega
            have HNl := Lib.hid (show sa = none → j = 0 ∧ sc = 0 from fun h => by have h1 := HSk.out.nil h; omega)
            have hfp : Fit64 [(p : Int)] 1 := fun q hq => by
              obtain rfl : q = 0 := by omega
              show _ ≤ (p : Int) ∧ (p : Int) ≤ _
              omega
            go_upto_region 10 with fail
            have HE1 := Lib.hid (iown_base (base' := wo.heap.size) (iempty_at (w := wo.plus J2 (d2 + 1)) (g := wo.heap.size + J2.size) (by simp)) (by omega))
            have HE3 := Lib.hid (iown_base (base' := wo.heap.size) (iempty_at (w := (wo.plus J2 (d2 + 1)).alloc (.cells #[.int .i64 (p : Int)] 3)) (g := wo.heap.size + J2.size + 1) (by simp)) (by omega))
            go_region_law (first
              | (refine step_iapp rfl (.tmp 78) (.tmp 81) rfl wo.heap.size _ 0 [] rfl (powns_below HE1.out (by ((try simp only [← Array.append_assoc]); repeat' (first | (with_reducible exact Below.refl _ _) | (with_reducible assumption) | (with_reducible refine Below.alloc ?_ ?_ _) | (with_reducible refine Below.drew ?_) | (with_reducible refine below_drewN ?_ _) | (with_reducible exact below_d _ _ _ _ _) | (with_reducible refine below_snoc _ _ ?_ ?_) | (with_reducible refine below_plus ?_ ?_ _ _) | (with_reducible refine Below.setCell ?_ ?_ _) | (with_reducible refine Below.setRow ?_ ?_ _) | go_size)))) sa j sc (nums (S.take j)) rfl HNl.out (HRd.out.below (by ((try simp only [← Array.append_assoc]); repeat' (first | (with_reducible exact Below.refl _ _) | (with_reducible assumption) | (with_reducible refine Below.alloc ?_ ?_ _) | (with_reducible refine Below.drew ?_) | (with_reducible refine below_drewN ?_ _) | (with_reducible exact below_d _ _ _ _ _) | (with_reducible refine below_snoc _ _ ?_ ?_) | (with_reducible refine below_plus ?_ ?_ _ _) | (with_reducible refine Below.setCell ?_ ?_ _) | (with_reducible refine Below.setRow ?_ ?_ _) | go_size)))) (by omega) (by first | omega | (simp; done) | (simp; omega)) ?_; intro v1 w1 hown1 hg1; have hgb := grown_below (B := wo.heap.size) (a := wo) (by ((try simp only [← Array.append_assoc]); repeat' (first | (with_reducible exact Below.refl _ _) | (with_reducible assumption) | (with_reducible refine Below.alloc ?_ ?_ _) | (with_reducible refine Below.drew ?_) | (with_reducible refine below_drewN ?_ _) | (with_reducible exact below_d _ _ _ _ _) | (with_reducible refine below_snoc _ _ ?_ ?_) | (with_reducible refine below_plus ?_ ?_ _ _) | (with_reducible refine Below.setCell ?_ ?_ _) | (with_reducible refine Below.setRow ?_ ?_ _) | go_size))) hg1 (by first | omega | (simp; done) | (simp; omega)) (powns_block HE1.out); have z1 := hgb.size; have K1 := (World.cell?_of_block (a := ⟨bp, op + i, none⟩) (hgb.block _ lbp2)).trans qc; have lb1 : bp < w1.heap.size := Nat.lt_of_lt_of_le lbp2 z1; rw [Nat.zero_add, List.nil_append] at hown1; have HO1 := Lib.hid hown1; have HB1 := Lib.hid hgb; have HG1 := Lib.hid (show World.grownBy _ w1 (some _) from hg1); clear hown1 hgb hg1)
              | (refine step_iapp rfl (.tmp 78) (.tmp 81) rfl wo.heap.size _ 0 [] rfl (powns_below HE3.out (by ((try simp only [← Array.append_assoc]); repeat' (first | (with_reducible exact Below.refl _ _) | (with_reducible assumption) | (with_reducible refine Below.alloc ?_ ?_ _) | (with_reducible refine Below.drew ?_) | (with_reducible refine below_drewN ?_ _) | (with_reducible exact below_d _ _ _ _ _) | (with_reducible refine below_snoc _ _ ?_ ?_) | (with_reducible refine below_plus ?_ ?_ _ _) | (with_reducible refine Below.setCell ?_ ?_ _) | (with_reducible refine Below.setRow ?_ ?_ _) | go_size)))) sa j sc (nums (S.take j)) rfl HNl.out (HRd.out.below (by ((try simp only [← Array.append_assoc]); repeat' (first | (with_reducible exact Below.refl _ _) | (with_reducible assumption) | (with_reducible refine Below.alloc ?_ ?_ _) | (with_reducible refine Below.drew ?_) | (with_reducible refine below_drewN ?_ _) | (with_reducible exact below_d _ _ _ _ _) | (with_reducible refine below_snoc _ _ ?_ ?_) | (with_reducible refine below_plus ?_ ?_ _ _) | (with_reducible refine Below.setCell ?_ ?_ _) | (with_reducible refine Below.setRow ?_ ?_ _) | go_size)))) (by omega) (by first | omega | (simp; done) | (simp; omega)) ?_; intro v1 w1 hown1 hg1; have hgb := grown_below (B := wo.heap.size) (a := wo) (by ((try simp only [← Array.append_assoc]); repeat' (first | (with_reducible exact Below.refl _ _) | (with_reducible assumption) | (with_reducible refine Below.alloc ?_ ?_ _) | (with_reducible refine Below.drew ?_) | (with_reducible refine below_drewN ?_ _) | (with_reducible exact below_d _ _ _ _ _) | (with_reducible refine below_snoc _ _ ?_ ?_) | (with_reducible refine below_plus ?_ ?_ _ _) | (with_reducible refine Below.setCell ?_ ?_ _) | (with_reducible refine Below.setRow ?_ ?_ _) | go_size))) hg1 (by first | omega | (simp; done) | (simp; omega)) (powns_block HE3.out); have z1 := hgb.size; have K1 := (World.cell?_of_block (a := ⟨bp, op + i, none⟩) (hgb.block _ lbp2)).trans qc; have lb1 : bp < w1.heap.size := Nat.lt_of_lt_of_le lbp2 z1; rw [Nat.zero_add, List.nil_append] at hown1; have HO1 := Lib.hid hown1; have HB1 := Lib.hid hgb; have HG1 := Lib.hid (show World.grownBy _ w1 (some _) from hg1); clear hown1 hgb hg1)
              | (refine step_iapp rfl (.tmp 82) (.tmp 87) rfl wo.heap.size _ j (nums (S.take j)) rfl (powns_below HO1.out (by ((try simp only [← Array.append_assoc]); repeat' (first | (with_reducible exact Below.refl _ _) | (with_reducible assumption) | (with_reducible refine Below.alloc ?_ ?_ _) | (with_reducible refine Below.drew ?_) | (with_reducible refine below_drewN ?_ _) | (with_reducible exact below_d _ _ _ _ _) | (with_reducible refine below_snoc _ _ ?_ ?_) | (with_reducible refine below_plus ?_ ?_ _ _) | (with_reducible refine Below.setCell ?_ ?_ _) | (with_reducible refine Below.setRow ?_ ?_ _) | go_size)))) _ 1 1 [(p : Int)] rfl (by intro h; cases h) (reads_cell (by (first | (simp [go_sem]; done) | (exact grown_cell HG1.out (by simp [go_sem]; done) (by first | (simp; done) | (simp; omega))))) hfp) (by omega) (by first | omega | (simp; done) | (simp; omega)) ?_; intro v2 w2 hown2 hg2; have hgb2 := grown_below (B := wo.heap.size) (a := wo) (HB1.out.trans (by ((try simp only [← Array.append_assoc]); repeat' (first | (with_reducible exact Below.refl _ _) | (with_reducible assumption) | (with_reducible refine Below.alloc ?_ ?_ _) | (with_reducible refine Below.drew ?_) | (with_reducible refine below_drewN ?_ _) | (with_reducible exact below_d _ _ _ _ _) | (with_reducible refine below_snoc _ _ ?_ ?_) | (with_reducible refine below_plus ?_ ?_ _ _) | (with_reducible refine Below.setCell ?_ ?_ _) | (with_reducible refine Below.setRow ?_ ?_ _) | go_size)))) hg2 (by first | omega | (simp; done) | (simp; omega)) (powns_block HO1.out); have z2 := hgb2.size; have HO2 := Lib.hid hown2; have HB2 := Lib.hid hgb2; clear hown2 hg2 hgb2)
              | (refine step_iapp rfl (.tmp 88) (.tmp 91) rfl wo.heap.size _ (j + 1) (nums (S.take j) ++ [(p : Int)]) rfl (powns_below HO2.out (by ((try simp only [← Array.append_assoc]); repeat' (first | (with_reducible exact Below.refl _ _) | (with_reducible assumption) | (with_reducible refine Below.alloc ?_ ?_ _) | (with_reducible refine Below.drew ?_) | (with_reducible refine below_drewN ?_ _) | (with_reducible exact below_d _ _ _ _ _) | (with_reducible refine below_snoc _ _ ?_ ?_) | (with_reducible refine below_plus ?_ ?_ _ _) | (with_reducible refine Below.setCell ?_ ?_ _) | (with_reducible refine Below.setRow ?_ ?_ _) | go_size)))) (dropA sa j sc) (S.length - j) (sc - j) (nums (S.drop j)) rfl (dropA_none HSk.out) (HRe.out.below (HB2.out.trans (by ((try simp only [← Array.append_assoc]); repeat' (first | (with_reducible exact Below.refl _ _) | (with_reducible assumption) | (with_reducible refine Below.alloc ?_ ?_ _) | (with_reducible refine Below.drew ?_) | (with_reducible refine below_drewN ?_ _) | (with_reducible exact below_d _ _ _ _ _) | (with_reducible refine below_snoc _ _ ?_ ?_) | (with_reducible refine below_plus ?_ ?_ _ _) | (with_reducible refine Below.setCell ?_ ?_ _) | (with_reducible refine Below.setRow ?_ ?_ _) | go_size))))) (by have := HSl.out; omega) (by first | omega | (simp; done) | (simp; omega)) ?_; intro v3 w3 hown3 hg3; have hgb3 := grown_below (B := wo.heap.size) (a := wo) (HB2.out.trans (by ((try simp only [← Array.append_assoc]); repeat' (first | (with_reducible exact Below.refl _ _) | (with_reducible assumption) | (with_reducible refine Below.alloc ?_ ?_ _) | (with_reducible refine Below.drew ?_) | (with_reducible refine below_drewN ?_ _) | (with_reducible exact below_d _ _ _ _ _) | (with_reducible refine below_snoc _ _ ?_ ?_) | (with_reducible refine below_plus ?_ ?_ _ _) | (with_reducible refine Below.setCell ?_ ?_ _) | (with_reducible refine Below.setRow ?_ ?_ _) | go_size)))) hg3 (by first | omega | (simp; done) | (simp; omega)) (powns_block HO2.out); have HO3 := Lib.hid hown3; have HB3 := Lib.hid hgb3; clear hown3 hg3 hgb3))
            all_goals go_wp2_with fail
            all_goals
              go_roundw
              case rel => exact ⟨i + 1, S.take j ++ [p] ++ S.drop j, by go_num, by rw [L1.out]; omega, by rw [← HN3.out.1, ← HN3.out.2]; exact iown_base HO3.out hsz, HN2.out, HN1.out, HB.out.trans (HB3.out.mono hsz)⟩
              case measure => simp [intOf]; omega
      · obtain rfl : i = m := by omega
        rw [List.take_of_length_le (by rw [L1.out]; omega)] at hperm
        have hSe : S = srtK (keyB L lv) P := srt_is HND.out hperm hsrt
        obtain ⟨h, hh⟩ : ∃ h, (i + 1) / 2 = h := ⟨_, rfl⟩
        have hOr : ordK (keyB L) (f + 1) lv P = ordK (keyB L) f (lv + 1) (S.take h) ++ ordK (keyB L) f (lv + 1) (S.drop h) := by
          show (if P.length < 2 then P else ordK (keyB L) f (lv + 1) ((srtK (keyB L lv) P).take ((P.length + 1) / 2)) ++ ordK (keyB L) f (lv + 1) ((srtK (keyB L lv) P).drop ((P.length + 1) / 2))) = _
          rw [if_neg (by omega), ← hSe, L1.out, hh]
        have hSm : ∀ x ∈ S, x ∈ P := fun x hx => hperm.mem_iff.1 hx
        have hSn : S.Nodup := hperm.nodup_iff.2 HND.out
        have hSl2 : S.length = i := hSl
        rw [hSl2] at hown
        obtain ⟨sa, sc, rfl, hSr0, hSk⟩ := iown_ok hown (nums_fit (N := n) (fun x hx => HM.out x (hSm x hx)) (by omega) (by omega))
        have hSr : Reads wr sa S.length (nums S) := by rw [hSl2]; exact hSr0
        have hhS : h ≤ S.length := by omega
        have hTl : (S.take h).length = h := by rw [List.length_take]; omega
        have hDl : (S.drop h).length = i - h := by rw [List.length_drop, hSl2]
        have HRd := Lib.hid (reads_takeN hSr hhS)
        have HRe := Lib.hid (show Reads wr (dropA sa h sc) (i - h) (nums (S.drop h)) by have := reads_dropN hSr (by rw [hSl2]; exact hSk) hhS; rwa [hSl2] at this)
        have hXB := HX.out.below hB
        have HXB := Lib.hid hXB
        have HSk := Lib.hid hSk
        have HRa := Lib.hid (fun (w' : World) (hx : XReads w' a n L) (hr : Reads w' sa h (nums (S.take h))) => show Calls Try.prog 40 #[.slice a n ca, .slice sa h sc, .int .i64 ((lv : Int) + 1)] w' fun e w'' => (∃ b c, e = .returned (.slice b h c) ∧ Reads w'' b h (nums (ordK (keyB L) f (lv + 1) (S.take h))) ∧ SOk b h c) ∧ Junk w' w'' from
          HIh.out (lv + 1) (S.take h) w' sa h sc (by omega) (by omega) (by omega) (hSn.sublist (List.take_sublist _ _)) (fun x hx => HM.out x (hSm x (List.mem_of_mem_take hx))) hx hr ⟨by have := hSk.le; omega, hSk.nil⟩)
        have HRb := Lib.hid (fun (w' : World) (hx : XReads w' a n L) (hr : Reads w' (dropA sa h sc) (i - h) (nums (S.drop h))) => show Calls Try.prog 40 #[.slice a n ca, .slice (if sc = h then sa else Option.map (fun x => x.add h) sa) (i - h) (sc - h), .int .i64 ((lv : Int) + 1)] w' fun e w'' => (∃ b c, e = .returned (.slice b (i - h) c) ∧ Reads w'' b (i - h) (nums (ordK (keyB L) f (lv + 1) (S.drop h))) ∧ SOk b (i - h) c) ∧ Junk w' w'' from
          HIh.out (lv + 1) (S.drop h) w' (dropA sa h sc) (i - h) (sc - h) (by omega) (by omega) (by omega) (hSn.sublist (List.drop_sublist _ _)) (fun x hx => HM.out x (hSm x (List.mem_of_mem_drop hx))) hx hr ⟨by have := hSk.le; omega, fun e => (dropA_none (n := i) hSk e).2⟩)
        have HOr := Lib.hid hOr
        have HFi := Lib.hid (show ∀ x ∈ ordK (keyB L) f (lv + 1) (S.take h) ++ ordK (keyB L) f (lv + 1) (S.drop h), x < n from fun x hx => by
          refine HM.out x (hSm x ?_)
          rcases List.mem_append.1 hx with hx | hx
          · exact List.mem_of_mem_take ((ord_perm (keyB L) f (lv + 1) (S.take h)).mem_iff.1 hx)
          · exact List.mem_of_mem_drop ((ord_perm (keyB L) f (lv + 1) (S.drop h)).mem_iff.1 hx))
        have HLn := Lib.hid (show (ordK (keyB L) f (lv + 1) (S.take h) ++ ordK (keyB L) f (lv + 1) (S.drop h)).length = i by
          rw [List.length_append, (ord_perm (keyB L) f (lv + 1) (S.take h)).length_eq, (ord_perm (keyB L) f (lv + 1) (S.drop h)).length_eq, hTl, hDl]; omega)
        have w2 : IntKind.i64.wrap ((i : Int) + 1) = (i : Int) + 1 := by simp [IntKind.wrap, IntKind.signed, IntKind.bits]; omega
        have w3 : ((i : Int) + 1).tdiv 2 = (h : Int) := by rw [Int.tdiv_eq_ediv_of_nonneg (by omega)]; omega
        have w3a : ((i : Int) + 1) / 2 = (h : Int) := by omega
        have w4 : IntKind.i64.wrap (h : Int) = (h : Int) := by simp [IntKind.wrap, IntKind.signed, IntKind.bits]; omega
        have w5 : IntKind.i64.wrap ((lv : Int) + 1) = (lv : Int) + 1 := by simp [IntKind.wrap, IntKind.signed, IntKind.bits]; omega
        have hsc : i ≤ sc := hSk.le
        have HB := Lib.hid hB
        obtain ⟨wo, rfl⟩ : ∃ wo : World, wo = wr := ⟨_, rfl⟩
        have i3 : ¬ (i : Int) < (i : Int) := by omega
        have hhi : h ≤ i := by omega
        have hhs2 : h ≤ sc := by omega
        generalize ordK (keyB L) f (lv + 1) (S.take h) = Oa at *
        generalize ordK (keyB L) f (lv + 1) (S.drop h) = Ob at *
        clear hSe hOr hSm hSn hSr hSr0 hSk hTl hDl hXB hSl hSl2 hhS hown hperm hsrt hB hh HIh
        go_upto_region 12 with fail
        go_region_law (first
          | (go_simp; go_at_call 40; (with_reducible refine (HRa.out _ ?_ ?_).mono ?_); (exact HXB.out.below (by ((try simp only [← Array.append_assoc]); repeat' (first | (with_reducible exact Below.refl _ _) | (with_reducible assumption) | (with_reducible refine Below.alloc ?_ ?_ _) | (with_reducible refine Below.drew ?_) | (with_reducible refine below_drewN ?_ _) | (with_reducible exact below_d _ _ _ _ _) | (with_reducible refine below_snoc _ _ ?_ ?_) | (with_reducible refine below_plus ?_ ?_ _ _) | (with_reducible refine Below.setCell ?_ ?_ _) | (with_reducible refine Below.setRow ?_ ?_ _) | go_size)))); (exact HRd.out.below (by ((try simp only [← Array.append_assoc]); repeat' (first | (with_reducible exact Below.refl _ _) | (with_reducible assumption) | (with_reducible refine Below.alloc ?_ ?_ _) | (with_reducible refine Below.drew ?_) | (with_reducible refine below_drewN ?_ _) | (with_reducible exact below_d _ _ _ _ _) | (with_reducible refine below_snoc _ _ ?_ ?_) | (with_reducible refine below_plus ?_ ?_ _ _) | (with_reducible refine Below.setCell ?_ ?_ _) | (with_reducible refine Below.setRow ?_ ?_ _) | go_size)))); rintro e w1 ⟨⟨b5, c5, rfl, hr5, hk5⟩, J5, d5, rfl⟩; (try simp only [plus_of_drew, plus_of_drewN, plus_plus, Array.append_assoc] at hr5); have HR5 := Lib.hid hr5; have HK5 := Lib.hid hk5; clear hr5 hk5; go_simp)
          | (go_simp; go_at_call 40; (with_reducible refine (HRb.out _ ?_ ?_).mono ?_); (exact HXB.out.below (HB1.out.trans (by ((try simp only [← Array.append_assoc]); repeat' (first | (with_reducible exact Below.refl _ _) | (with_reducible assumption) | (with_reducible refine Below.alloc ?_ ?_ _) | (with_reducible refine Below.drew ?_) | (with_reducible refine below_drewN ?_ _) | (with_reducible exact below_d _ _ _ _ _) | (with_reducible refine below_snoc _ _ ?_ ?_) | (with_reducible refine below_plus ?_ ?_ _ _) | (with_reducible refine Below.setCell ?_ ?_ _) | (with_reducible refine Below.setRow ?_ ?_ _) | go_size))))); (exact HRe.out.below (HB1.out.trans (by ((try simp only [← Array.append_assoc]); repeat' (first | (with_reducible exact Below.refl _ _) | (with_reducible assumption) | (with_reducible refine Below.alloc ?_ ?_ _) | (with_reducible refine Below.drew ?_) | (with_reducible refine below_drewN ?_ _) | (with_reducible exact below_d _ _ _ _ _) | (with_reducible refine below_snoc _ _ ?_ ?_) | (with_reducible refine below_plus ?_ ?_ _ _) | (with_reducible refine Below.setCell ?_ ?_ _) | (with_reducible refine Below.setRow ?_ ?_ _) | go_size))))); rintro e w6 ⟨⟨b6, c6, rfl, hr6, hk6⟩, J6, d6, rfl⟩; (try simp only [plus_of_drew, plus_of_drewN, plus_plus, Array.append_assoc] at hr6); have HR6 := Lib.hid hr6; have HK6 := Lib.hid hk6; clear hr6 hk6; go_simp)
          | (refine step_iapp rfl (.tmp 97) (.tmp 104) rfl wo.heap.size _ 0 [] rfl (powns_below (iempty_at (w := wo) (g := wo.heap.size) rfl) (by ((try simp only [← Array.append_assoc]); repeat' (first | (with_reducible exact Below.refl _ _) | (with_reducible assumption) | (with_reducible refine Below.alloc ?_ ?_ _) | (with_reducible refine Below.drew ?_) | (with_reducible refine below_drewN ?_ _) | (with_reducible exact below_d _ _ _ _ _) | (with_reducible refine below_snoc _ _ ?_ ?_) | (with_reducible refine below_plus ?_ ?_ _ _) | (with_reducible refine Below.setCell ?_ ?_ _) | (with_reducible refine Below.setRow ?_ ?_ _) | go_size)))) b5 h c5 (nums Oa) rfl (fun e => by have h1 := HK5.out.nil e; have h2 := HK5.out.le; omega) (HR5.out.below (by ((try simp only [← Array.append_assoc]); repeat' (first | (with_reducible exact Below.refl _ _) | (with_reducible assumption) | (with_reducible refine Below.alloc ?_ ?_ _) | (with_reducible refine Below.drew ?_) | (with_reducible refine below_drewN ?_ _) | (with_reducible exact below_d _ _ _ _ _) | (with_reducible refine below_snoc _ _ ?_ ?_) | (with_reducible refine below_plus ?_ ?_ _ _) | (with_reducible refine Below.setCell ?_ ?_ _) | (with_reducible refine Below.setRow ?_ ?_ _) | go_size)))) (by omega) (by first | omega | (simp; done) | (simp; omega)) ?_; intro v1 w1 hown1 hg1; have hgb := grown_below (B := wo.heap.size) (a := wo) (by ((try simp only [← Array.append_assoc]); repeat' (first | (with_reducible exact Below.refl _ _) | (with_reducible assumption) | (with_reducible refine Below.alloc ?_ ?_ _) | (with_reducible refine Below.drew ?_) | (with_reducible refine below_drewN ?_ _) | (with_reducible exact below_d _ _ _ _ _) | (with_reducible refine below_snoc _ _ ?_ ?_) | (with_reducible refine below_plus ?_ ?_ _ _) | (with_reducible refine Below.setCell ?_ ?_ _) | (with_reducible refine Below.setRow ?_ ?_ _) | go_size))) hg1 (by first | omega | (simp; done) | (simp; omega)) (powns_block (iempty_at (w := wo) (g := wo.heap.size) rfl)); have z1 := hgb.size; rw [Nat.zero_add, List.nil_append] at hown1; have HO1 := Lib.hid hown1; have HB1 := Lib.hid hgb; clear hown1 hgb hg1)
          | (refine step_iapp rfl (.tmp 97) (.tmp 104) rfl wo.heap.size _ 0 [] rfl (powns_below (iown_base (base' := wo.heap.size) (iempty_at (w := wo.plus J5 d5) (g := wo.heap.size + J5.size) (by simp)) (by omega)) (by ((try simp only [← Array.append_assoc]); repeat' (first | (with_reducible exact Below.refl _ _) | (with_reducible assumption) | (with_reducible refine Below.alloc ?_ ?_ _) | (with_reducible refine Below.drew ?_) | (with_reducible refine below_drewN ?_ _) | (with_reducible exact below_d _ _ _ _ _) | (with_reducible refine below_snoc _ _ ?_ ?_) | (with_reducible refine below_plus ?_ ?_ _ _) | (with_reducible refine Below.setCell ?_ ?_ _) | (with_reducible refine Below.setRow ?_ ?_ _) | go_size)))) b5 h c5 (nums Oa) rfl (fun e => by have h1 := HK5.out.nil e; have h2 := HK5.out.le; omega) (HR5.out.below (by ((try simp only [← Array.append_assoc]); repeat' (first | (with_reducible exact Below.refl _ _) | (with_reducible assumption) | (with_reducible refine Below.alloc ?_ ?_ _) | (with_reducible refine Below.drew ?_) | (with_reducible refine below_drewN ?_ _) | (with_reducible exact below_d _ _ _ _ _) | (with_reducible refine below_snoc _ _ ?_ ?_) | (with_reducible refine below_plus ?_ ?_ _ _) | (with_reducible refine Below.setCell ?_ ?_ _) | (with_reducible refine Below.setRow ?_ ?_ _) | go_size)))) (by omega) (by first | omega | (simp; done) | (simp; omega)) ?_; intro v1 w1 hown1 hg1; have hgb := grown_below (B := wo.heap.size) (a := wo) (by ((try simp only [← Array.append_assoc]); repeat' (first | (with_reducible exact Below.refl _ _) | (with_reducible assumption) | (with_reducible refine Below.alloc ?_ ?_ _) | (with_reducible refine Below.drew ?_) | (with_reducible refine below_drewN ?_ _) | (with_reducible exact below_d _ _ _ _ _) | (with_reducible refine below_snoc _ _ ?_ ?_) | (with_reducible refine below_plus ?_ ?_ _ _) | (with_reducible refine Below.setCell ?_ ?_ _) | (with_reducible refine Below.setRow ?_ ?_ _) | go_size))) hg1 (by first | omega | (simp; done) | (simp; omega)) (powns_block (iown_base (base' := wo.heap.size) (iempty_at (w := wo.plus J5 d5) (g := wo.heap.size + J5.size) (by simp)) (by omega))); have z1 := hgb.size; rw [Nat.zero_add, List.nil_append] at hown1; have HO1 := Lib.hid hown1; have HB1 := Lib.hid hgb; clear hown1 hgb hg1)
          | (refine step_iapp rfl (.tmp 97) (.tmp 104) rfl wo.heap.size _ 0 [] rfl (powns_below (iown_base (base' := wo.heap.size) (iempty_at (w := wo.plus J5 (d5 + 1)) (g := wo.heap.size + J5.size) (by simp)) (by omega)) (by ((try simp only [← Array.append_assoc]); repeat' (first | (with_reducible exact Below.refl _ _) | (with_reducible assumption) | (with_reducible refine Below.alloc ?_ ?_ _) | (with_reducible refine Below.drew ?_) | (with_reducible refine below_drewN ?_ _) | (with_reducible exact below_d _ _ _ _ _) | (with_reducible refine below_snoc _ _ ?_ ?_) | (with_reducible refine below_plus ?_ ?_ _ _) | (with_reducible refine Below.setCell ?_ ?_ _) | (with_reducible refine Below.setRow ?_ ?_ _) | go_size)))) b5 h c5 (nums Oa) rfl (fun e => by have h1 := HK5.out.nil e; have h2 := HK5.out.le; omega) (HR5.out.below (by ((try simp only [← Array.append_assoc]); repeat' (first | (with_reducible exact Below.refl _ _) | (with_reducible assumption) | (with_reducible refine Below.alloc ?_ ?_ _) | (with_reducible refine Below.drew ?_) | (with_reducible refine below_drewN ?_ _) | (with_reducible exact below_d _ _ _ _ _) | (with_reducible refine below_snoc _ _ ?_ ?_) | (with_reducible refine below_plus ?_ ?_ _ _) | (with_reducible refine Below.setCell ?_ ?_ _) | (with_reducible refine Below.setRow ?_ ?_ _) | go_size)))) (by omega) (by first | omega | (simp; done) | (simp; omega)) ?_; intro v1 w1 hown1 hg1; have hgb := grown_below (B := wo.heap.size) (a := wo) (by ((try simp only [← Array.append_assoc]); repeat' (first | (with_reducible exact Below.refl _ _) | (with_reducible assumption) | (with_reducible refine Below.alloc ?_ ?_ _) | (with_reducible refine Below.drew ?_) | (with_reducible refine below_drewN ?_ _) | (with_reducible exact below_d _ _ _ _ _) | (with_reducible refine below_snoc _ _ ?_ ?_) | (with_reducible refine below_plus ?_ ?_ _ _) | (with_reducible refine Below.setCell ?_ ?_ _) | (with_reducible refine Below.setRow ?_ ?_ _) | go_size))) hg1 (by first | omega | (simp; done) | (simp; omega)) (powns_block (iown_base (base' := wo.heap.size) (iempty_at (w := wo.plus J5 (d5 + 1)) (g := wo.heap.size + J5.size) (by simp)) (by omega))); have z1 := hgb.size; rw [Nat.zero_add, List.nil_append] at hown1; have HO1 := Lib.hid hown1; have HB1 := Lib.hid hgb; clear hown1 hgb hg1)
          | (refine step_iapp rfl (.tmp 105) (.tmp 112) rfl wo.heap.size _ h (nums Oa) rfl (powns_below HO1.out (by ((try simp only [← Array.append_assoc]); repeat' (first | (with_reducible exact Below.refl _ _) | (with_reducible assumption) | (with_reducible refine Below.alloc ?_ ?_ _) | (with_reducible refine Below.drew ?_) | (with_reducible refine below_drewN ?_ _) | (with_reducible exact below_d _ _ _ _ _) | (with_reducible refine below_snoc _ _ ?_ ?_) | (with_reducible refine below_plus ?_ ?_ _ _) | (with_reducible refine Below.setCell ?_ ?_ _) | (with_reducible refine Below.setRow ?_ ?_ _) | go_size)))) b6 (i - h) c6 (nums Ob) rfl (fun e => by have h1 := HK6.out.nil e; have h2 := HK6.out.le; omega) (HR6.out.below (by ((try simp only [← Array.append_assoc]); repeat' (first | (with_reducible exact Below.refl _ _) | (with_reducible assumption) | (with_reducible refine Below.alloc ?_ ?_ _) | (with_reducible refine Below.drew ?_) | (with_reducible refine below_drewN ?_ _) | (with_reducible exact below_d _ _ _ _ _) | (with_reducible refine below_snoc _ _ ?_ ?_) | (with_reducible refine below_plus ?_ ?_ _ _) | (with_reducible refine Below.setCell ?_ ?_ _) | (with_reducible refine Below.setRow ?_ ?_ _) | go_size)))) (by omega) (by first | omega | (simp; done) | (simp; omega)) ?_; intro v3 w3 hown3 hg3; have hgb3 := grown_below (B := wo.heap.size) (a := wo) (HB1.out.trans (by ((try simp only [← Array.append_assoc]); repeat' (first | (with_reducible exact Below.refl _ _) | (with_reducible assumption) | (with_reducible refine Below.alloc ?_ ?_ _) | (with_reducible refine Below.drew ?_) | (with_reducible refine below_drewN ?_ _) | (with_reducible exact below_d _ _ _ _ _) | (with_reducible refine below_snoc _ _ ?_ ?_) | (with_reducible refine below_plus ?_ ?_ _ _) | (with_reducible refine Below.setCell ?_ ?_ _) | (with_reducible refine Below.setRow ?_ ?_ _) | go_size)))) hg3 (by first | omega | (simp; done) | (simp; omega)) (powns_block HO1.out); have HO3 := Lib.hid hown3; have HB3 := Lib.hid hgb3; clear hown3 hg3 hgb3))
        all_goals
          have hO3 := HO3.out
          rw [nums_app, show h + (i - h) = i by omega] at hO3
          obtain ⟨b9, c9, e9, hr9, hk9⟩ := iown_ok hO3 (nums_fit (N := n) HFi.out (by omega) (by rw [HLn.out]; omega))
          subst e9
          have HR9 := Lib.hid hr9
          have HK9 := Lib.hid hk9
          clear hO3 hr9 hk9 HO3
          go_wp2_with fail
          go_ret
          exact ⟨⟨_, _, rfl, by rw [HOr.out]; exact HR9.out, HK9.out⟩, junk_of_below (HB.out.trans (HB3.out.mono hsz))⟩

/-- Between two rounds: the first k places. -/
def AlAt (W : World) (n : Nat) (v x : Value) (wr : World) : Prop := ∃ k : Nat, x = .int .i64 (k : Int) ∧ k ≤ n ∧ wr.ownsRow W.heap.size 3 1 v k (ints (nums (List.range k))) ∧ Below W.heap.size W wr
set_option maxRecDepth 100000 in
set_option maxHeartbeats 2000000 in
theorem r_btOrder (w : World) (a : Option Addr) (n ca : Nat) (L : List Bx) (hin : ∀ b ∈ L, InB b) (hX : XReads w a n L) (hn : n ≤ 100000) :
    Calls Try.prog 21 #[.slice a n ca] w fun e w' => (∃ b c, e = .returned (.slice b n c) ∧ Reads w' b n (nums (ordB L)) ∧ SOk b n c) ∧ Junk w w' := by
  have L1 := Lib.hid hX.1
  have HX := Lib.hid hX
  have HO := Lib.hid (fun (w' : World) (ap : Option Addr) (cp : Nat) (hx : XReads w' a n L) (hr : Reads w' ap n (nums (List.range n))) (hk : SOk ap n cp) => show Calls Try.prog 40 #[.slice a n ca, .slice ap n cp, .int .i64 0] w' fun e w'' => (∃ b c, e = .returned (.slice b n c) ∧ Reads w'' b n (nums (ordB L)) ∧ SOk b n c) ∧ Junk w' w'' by
    have := r_btOrd L hin n ca a hn n 0 (List.range n) w' ap n cp (by simp) (by omega) (by simpa using hn) List.nodup_range (fun i hi => by simpa using hi) hx hr hk
    rw [show ordB L = ordK (keyB L) n 0 (List.range n) by unfold ordB; rw [L1.out]]
    exact this)
  clear hX hin
  go_enter Try.func21, Try.ntmps21
  go_wp2_with fail
  go_loopw [3, 4] (fun v x wr => AlAt w n v x wr) (fun _ x _ => n - (intOf x).toNat)
  case atStart => exact ⟨0, rfl, by omega, inil_owns _ _, Below.refl _ _⟩
  case round =>
    obtain ⟨k, rfl, k1, hown, hB⟩ := hrel
    have hsz := hB.size
    by_cases hlt : k < n
    · have HN := Lib.hid (show nums (List.range k) ++ [(k : Int)] = nums (List.range (k + 1)) by rw [List.range_succ, nums_snoc])
      have HOW := Lib.hid hown
      have HB := Lib.hid hB
      have i1 : (k : Int) < (n : Int) := by omega
      obtain ⟨wo, rfl⟩ : ∃ wo : World, wo = wr := ⟨_, rfl⟩
      clear hown hB
      go_wp2_with (at_builtin; refine wpList_app rfl (.tmp 11) (.tmp 13) rfl w.heap.size _ k (nums (List.range k)) rfl (powns_below HOW.out (by ((try simp only [← Array.append_assoc]); repeat' (first | (with_reducible exact Below.refl _ _) | (with_reducible assumption) | (with_reducible refine Below.alloc ?_ ?_ _) | (with_reducible refine Below.drew ?_) | (with_reducible refine below_drewN ?_ _) | (with_reducible exact below_d _ _ _ _ _) | (with_reducible refine below_snoc _ _ ?_ ?_) | (with_reducible refine below_plus ?_ ?_ _ _) | (with_reducible refine Below.setCell ?_ ?_ _) | (with_reducible refine Below.setRow ?_ ?_ _) | go_size)))) _ 1 1 [(k : Int)] rfl (by intro h; cases h) (reads_one wo (k : Int) (by omega) (by omega)) (by omega) (by simp; omega) ?_; intro v' w' hown' hg')
      go_roundw
      case rel => exact ⟨k + 1, by go_num, by omega, by rw [← HN.out]; exact hown', grown_below (B := w.heap.size) (a := w) (HB.out.trans (by ((try simp only [← Array.append_assoc]); repeat' (first | (with_reducible exact Below.refl _ _) | (with_reducible assumption) | (with_reducible refine Below.alloc ?_ ?_ _) | (with_reducible refine Below.drew ?_) | (with_reducible refine below_drewN ?_ _) | (with_reducible exact below_d _ _ _ _ _) | (with_reducible refine below_snoc _ _ ?_ ?_) | (with_reducible refine below_plus ?_ ?_ _ _) | (with_reducible refine Below.setCell ?_ ?_ _) | (with_reducible refine Below.setRow ?_ ?_ _) | go_size)))) hg' (by simp; omega) (powns_block HOW.out)⟩
      case measure => simp [intOf]; omega
    · obtain rfl : k = n := by omega
      obtain ⟨b9, c9, rfl, hr9, hk9⟩ := iown_ok hown (nums_fit (N := k) (fun x hx => by simpa using hx) (by omega) (by simp))
      have HR9 := Lib.hid hr9
      have HK9 := Lib.hid hk9
      have HB := Lib.hid hB
      have i1 : ¬ (k : Int) < (k : Int) := by omega
      have HXB := Lib.hid (HX.out.below hB)
      obtain ⟨wo, rfl⟩ : ∃ wo : World, wo = wr := ⟨_, rfl⟩
      clear hown hB hr9 hk9
      go_wp2_with (go_at_call 40; refine (HO.out _ _ _ (HXB.out.below (by ((try simp only [← Array.append_assoc]); repeat' (first | (with_reducible exact Below.refl _ _) | (with_reducible assumption) | (with_reducible refine Below.alloc ?_ ?_ _) | (with_reducible refine Below.drew ?_) | (with_reducible refine below_drewN ?_ _) | (with_reducible exact below_d _ _ _ _ _) | (with_reducible refine below_snoc _ _ ?_ ?_) | (with_reducible refine below_plus ?_ ?_ _ _) | (with_reducible refine Below.setCell ?_ ?_ _) | (with_reducible refine Below.setRow ?_ ?_ _) | go_size)))) (HR9.out.below (by ((try simp only [← Array.append_assoc]); repeat' (first | (with_reducible exact Below.refl _ _) | (with_reducible assumption) | (with_reducible refine Below.alloc ?_ ?_ _) | (with_reducible refine Below.drew ?_) | (with_reducible refine below_drewN ?_ _) | (with_reducible exact below_d _ _ _ _ _) | (with_reducible refine below_snoc _ _ ?_ ?_) | (with_reducible refine below_plus ?_ ?_ _ _) | (with_reducible refine Below.setCell ?_ ?_ _) | (with_reducible refine Below.setRow ?_ ?_ _) | go_size)))) HK9.out).mono ?_; rintro e w1 ⟨⟨b5, c5, rfl, hr5, hk5⟩, J5, d5, rfl⟩; have HR5 := Lib.hid hr5; have HK5 := Lib.hid hk5; clear hr5 hk5)
      go_ret
      exact ⟨⟨_, _, rfl, HR5.out, HK5.out⟩, junk_of_below (HB.out.trans ((show Below wo.heap.size wo _ by ((try simp only [← Array.append_assoc]); repeat' (first | (with_reducible exact Below.refl _ _) | (with_reducible assumption) | (with_reducible refine Below.alloc ?_ ?_ _) | (with_reducible refine Below.drew ?_) | (with_reducible refine below_drewN ?_ _) | (with_reducible exact below_d _ _ _ _ _) | (with_reducible refine below_snoc _ _ ?_ ?_) | (with_reducible refine below_plus ?_ ?_ _ _) | (with_reducible refine Below.setCell ?_ ?_ _) | (with_reducible refine Below.setRow ?_ ?_ _) | go_size))).mono hsz))⟩
end
end Go.Proofs.Ytnpkhhchbahcpaa

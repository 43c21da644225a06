/- Slices of boxes: what reads as a list, rows of the call's own, copies, arguments. apportionref12: At, Over, Depth. apportionref12: less, ahead. apportionref12: order, Order. -/
import Derived.Test.YthphdiigjimchaaGreatBtOne
import Derived.Test.YthphdiigjimchaaGreatPtArg
import Derived.Test.YthphdiigjimchaaGreatPtTwo
import Derived.Test.YthphdiigjimchaaGreatRgRest
import Derived.Test.YthphdiigjimchaaGreatPtOne
import Derived.Test.YthphdiigjimchaaGreatKitTwo
import Derived.Test.YthphdiigjimchaaGreatNumRest
import Derived.Test.YthphdiigjimchaaGreatKitOne
import Derived.Deep.RegionLaw
namespace Go.Proofs.YthphdiigjimchaaGreat
section
set_option linter.unusedVariables false
set_option linter.unusedSimpArgs false
open Go.RowKit Go.ChangeShapes Go.WideShapes Go.ChangeAt Go.Joins
abbrev Bx0 : Bx := (0, 0, 0, 0)
def bvB (b : Bx) : Value := bxV b.1 b.2.1 b.2.2.1 b.2.2.2
def XReads (w : World) (a : Option Addr) (n : Nat) (L : List Bx) : Prop :=
  L.length = n ∧ (n = 0 ∨ ∃ b o, a = some ⟨b, o, none⟩ ∧ ∀ i, i < n → w.cell? ⟨b, o + i * 4, none⟩ = some (.int .i64 (L.getD i Bx0).1) ∧ w.cell? ⟨b, o + i * 4 + 1, none⟩ = some (.int .i64 (L.getD i Bx0).2.1) ∧
    w.cell? ⟨b, o + i * 4 + 2, none⟩ = some (.int .i64 (L.getD i Bx0).2.2.1) ∧ w.cell? ⟨b, o + i * 4 + 3, none⟩ = some (.int .i64 (L.getD i Bx0).2.2.2))
theorem xreads_nil (w : World) : XReads w none 0 [] := ⟨rfl, .inl rfl⟩
theorem XReads.below {w w' : World} {a : Option Addr} {n : Nat} {L : List Bx} (h : XReads w a n L) (hb : Below w.heap.size w w') : XReads w' a n L := by
  obtain ⟨h1, h2⟩ := h
  refine ⟨h1, ?_⟩
  rcases h2 with h2 | ⟨b, o, he, hc⟩
  · exact .inl h2
  · refine .inr ⟨b, o, he, fun i hi => ?_⟩
    obtain ⟨e1, e2, e3, e4⟩ := hc i hi
    have k := hb.block b (World.block_lt_of_cell? _ _ e1)
    exact ⟨(World.cell?_of_block (a := ⟨b, o + i * 4, none⟩) k).trans e1, (World.cell?_of_block (a := ⟨b, o + i * 4 + 1, none⟩) k).trans e2, (World.cell?_of_block (a := ⟨b, o + i * 4 + 2, none⟩) k).trans e3, (World.cell?_of_block (a := ⟨b, o + i * 4 + 3, none⟩) k).trans e4⟩
def boxcells : List Bx → List Value
  | [] => []
  | b :: L => .int .i64 b.1 :: .int .i64 b.2.1 :: .int .i64 b.2.2.1 :: .int .i64 b.2.2.2 :: boxcells L
theorem boxcells_len : ∀ L : List Bx, (boxcells L).length = L.length * 4
  | [] => rfl
  | b :: L => by show (boxcells L).length + 1 + 1 + 1 + 1 = (L.length + 1) * 4; rw [boxcells_len L]; omega
theorem boxcells_app : ∀ K M : List Bx, boxcells (K ++ M) = boxcells K ++ boxcells M
  | [], M => rfl
  | b :: K, M => by simp [boxcells, boxcells_app K M]
theorem boxcells_one : ∀ (L : List Bx) (u : Value), u ∈ boxcells L → u.oneCell' = true
  | [], u, h => by cases h
  | b :: L, u, h => by
    unfold boxcells at h
    simp only [List.mem_cons] at h
    rcases h with rfl | rfl | rfl | rfl | h
    · rfl
    · rfl
    · rfl
    · rfl
    · exact boxcells_one L u h
theorem boxcells_at : ∀ (L : List Bx) (i : Nat), i < L.length → (boxcells L)[i * 4]? = some (.int .i64 (L.getD i Bx0).1) ∧ (boxcells L)[i * 4 + 1]? = some (.int .i64 (L.getD i Bx0).2.1) ∧ (boxcells L)[i * 4 + 2]? = some (.int .i64 (L.getD i Bx0).2.2.1) ∧ (boxcells L)[i * 4 + 3]? = some (.int .i64 (L.getD i Bx0).2.2.2)
  | [], i, h => by cases h
  | b :: L, 0, h => by simp [boxcells]
  | b :: L, i + 1, h => by
    have := boxcells_at L i (by simpa using h)
    unfold boxcells
    rw [show (i + 1) * 4 = i * 4 + 4 by omega]
    simpa using this
theorem info_bx : ∃ i, Tryz.prog.info? 67 = some i ∧ i.zero = some (.agg #[.int .i64 0, .int .i64 0, .int .i64 0, .int .i64 0]) ∧ i.size = 4 ∧ i.bytes = 32 := by
  have h : (Tryz.prog.info? 67).map (fun i => (i.zero, i.size, i.bytes)) = some (some (.agg #[.int .i64 0, .int .i64 0, .int .i64 0, .int .i64 0]), 4, 32) := by kernel_rfl
  cases hi : Tryz.prog.info? 67 with
  | none => rw [hi] at h; cases h
  | some i =>
    rw [hi] at h
    simp at h
    exact ⟨i, rfl, h.1, h.2.1, h.2.2⟩
theorem xreads_of_owns {w : World} {base : Nat} {v : Value} {n : Nat} {L : List Bx} (h : w.ownsRow base 67 4 v n (boxcells L)) : ∃ a cap, v = .slice a n cap ∧ XReads w a n L ∧ SOk a n cap := by
  obtain ⟨hl, h⟩ := h
  rw [boxcells_len] at hl
  have hl' : L.length = n := by omega
  rcases h with ⟨rfl, rfl⟩ | ⟨g, cap, cur, rfl, _, hc, hnc, _, hs, ht⟩
  · exact ⟨none, 0, rfl, ⟨hl', .inl rfl⟩, ⟨Nat.le_refl _, fun _ => rfl⟩⟩
  · refine ⟨_, cap, rfl, ⟨hl', .inr ⟨g, 0, rfl, fun i hi => ?_⟩⟩, ⟨hnc, fun h => by cases h⟩⟩
    obtain ⟨h1, h2, h3, h4⟩ := boxcells_at L i (by omega)
    rw [← ht] at h1 h2 h3 h4
    rw [List.getElem?_take_of_lt (by omega)] at h1 h2 h3 h4
    have e : ∀ k v, cur.toList[k]? = some v → w.cell? ⟨g, 0 + k, none⟩ = some v := by
      intro k v hk
      simp [World.cell?, hc]
      simpa using hk
    exact ⟨e _ _ h1, e _ _ h2, e _ _ h3, e _ _ h4⟩
theorem XReads.cells {w : World} {a : Addr} {n : Nat} {L : List Bx} (h : XReads w (some a) n L) : ∀ j u, (boxcells L)[j]? = some u → w.cell? (a.add j) = some u := by
  obtain ⟨h1, h3⟩ := h
  intro j u hu
  have hj : j < L.length * 4 := by
    obtain ⟨h0, _⟩ := List.getElem?_eq_some_iff.1 hu
    rw [← boxcells_len]; exact h0
  rcases h3 with h3 | ⟨b, o, he, hc⟩
  · omega
  · injection he with he
    subst he
    have ha : ∀ j, (⟨b, o, none⟩ : Addr).add j = ⟨b, o + j, none⟩ := fun j => by unfold Addr.add; split <;> simp_all
    rw [ha]
    obtain ⟨i, hi⟩ : ∃ i, j = i * 4 ∨ j = i * 4 + 1 ∨ j = i * 4 + 2 ∨ j = i * 4 + 3 := ⟨j / 4, by omega⟩
    obtain ⟨k1, k2, k3, k4⟩ := hc i (by omega)
    obtain ⟨m1, m2, m3, m4⟩ := boxcells_at L i (by omega)
    rcases hi with rfl | rfl | rfl | rfl
    · rw [m1] at hu; rw [← hu]; exact k1
    · rw [m2] at hu; rw [← Nat.add_assoc, ← hu]; exact k2
    · rw [m3] at hu; rw [← Nat.add_assoc, ← hu]; exact k3
    · rw [m4] at hu; rw [← Nat.add_assoc, ← hu]; exact k4
theorem XReads.only {v : Value} {w w' : World} {a : Option Addr} {n : Nat} {L : List Bx} (h : XReads w a n L) (hk : ∀ x, a = some x → w'.heap[x.block]? = w.heap[x.block]?) : XReads w' a n L := by
  obtain ⟨h1, h2⟩ := h
  refine ⟨h1, ?_⟩
  rcases h2 with h2 | ⟨b, o, rfl, hc⟩
  · exact .inl h2
  · refine .inr ⟨b, o, rfl, fun i hi => ?_⟩
    have k := hk _ rfl
    obtain ⟨e1, e2, e3, e4⟩ := hc i hi
    exact ⟨(World.cell?_of_block (a := ⟨b, o + i * 4, none⟩) k).trans e1, (World.cell?_of_block (a := ⟨b, o + i * 4 + 1, none⟩) k).trans e2, (World.cell?_of_block (a := ⟨b, o + i * 4 + 2, none⟩) k).trans e3, (World.cell?_of_block (a := ⟨b, o + i * 4 + 3, none⟩) k).trans e4⟩
theorem xowns_empty (w : World) : (w.alloc (.cells #[] 67)).ownsRow w.heap.size 67 4 (.slice (some ⟨w.heap.size, 0, none⟩) 0 0) 0 (boxcells []) :=
  ⟨rfl, .inr ⟨w.heap.size, 0, #[], rfl, Nat.le_refl _, World.alloc_heap_new w _, Nat.le_refl _, Nat.zero_le _, rfl, rfl⟩⟩
theorem xnil_owns (w : World) (base : Nat) : w.ownsRow base 67 4 (.slice none 0 0) 0 (boxcells []) := ⟨rfl, .inl ⟨rfl, rfl⟩⟩
def XCopied (w : World) (n : Nat) (L : List Bx) (v : Value) (wx : World) : Prop := wx.ownsRow w.heap.size 67 4 v n (boxcells L) ∧ Below w.heap.size w wx
theorem wpList_xcopy {ops : Array Oper} {rest : List Oper} {o : Oper} {a : Act} {w : World} {Q : Exit → Act → World → Prop} (hgd : o.guard = none) (s x : Operand)
    (ho : o.op = .call { callee := .builtin .append, args := #[s, x], argTypes := #[65, 65] }) (hs : a.eval s = .slice (some ⟨w.heap.size, 0, none⟩) 0 0)
    (A : Option Addr) (len cap : Nat) (L : List Bx) (hx : a.eval x = .slice A len cap) (hok : SOk A len cap) (hr : XReads w A len L) (hm : len ≤ 100000)
    (h : ∀ v' w', XCopied w len L v' w' → wpList Tryz.prog ops Q rest (a.put o.dst v') w') : wpList Tryz.prog ops Q (o :: rest) a (w.alloc (.cells #[] 67)) := by
  obtain ⟨i0, hi0, hz0, hz1, hz2⟩ := info_bx
  have hb0 : Below w.heap.size w (w.alloc (.cells #[] 67)) := (Below.refl _ _).alloc (Nat.le_refl _) _
  have hr1 := hr.below hb0
  have hzl := hr.1
  rcases A with _ | ad
  · have h0 : cap = 0 := hok.nil rfl
    have h1 := hok.le
    obtain rfl : len = 0 := by omega
    subst h0
    obtain rfl : L = [] := List.eq_nil_of_length_eq_zero hzl
    refine wpList_append_own_none hgd s x _ ho w.heap.size 67 i0 4 Tryz.underlying65 hi0 _ 0 (boxcells []) hs (xowns_empty w) hx ?_
    exact h _ _ ⟨xowns_empty w, hb0⟩
  · refine wpList_append_own _ hgd s x _ ho w.heap.size 67 i0 _ 4 32 Tryz.underlying65 hi0 hz0 hz1 hz2 rfl (by decide) _ 0 (boxcells []) hs (xowns_empty w) ad len cap (boxcells L) hx
      (by rw [boxcells_len, hzl]) hr1.cells (boxcells_one L) (by simp only [maxLen]; omega) (by omega) (by simp) ?_
    intro v' w' hown hg _
    rw [Nat.zero_add] at hown
    exact h _ _ ⟨hown, hb0.grown hg (by simp) (by intro k hk; simp [Value.ownBlock] at hk; omega)⟩
section
variable {H : Type} {enc : TypeId × Value → H} {w : World} {base : Nat} {spare : Nat → Bool} {held : Bool}
end
end

section
set_option linter.unusedVariables false
set_option linter.unusedSimpArgs false
open Go.RowKit
def scanK (f : Bx → Bool) (L : List Bx) (k : Nat) : List Nat := (List.range k).filter fun i => f (L.getD i Bx0)
def nums (l : List Nat) : List Int := l.map fun (i : Nat) => (i : Int)
theorem nums_len (l : List Nat) : (nums l).length = l.length := by simp [nums]
theorem nums_snoc (l : List Nat) (k : Nat) : nums (l ++ [k]) = nums l ++ [(k : Int)] := by simp [nums]
theorem inil_owns (w : World) (base : Nat) : w.ownsRow base 3 1 (.slice none 0 0) 0 (ints []) := ⟨rfl, .inl ⟨rfl, rfl⟩⟩
def IOwn (w w' : World) (v : Value) (l : List Nat) : Prop := w'.ownsRow w.heap.size 3 1 v l.length (ints (nums l))
def ScAt (W : World) (f : Bx → Bool) (L : List Bx) (v i : Value) (wr : World) : Prop := ∃ k : Nat, i = .int .i64 (k : Int) ∧ k ≤ L.length ∧ wr.ownsRow W.heap.size 3 1 v (scanK f L k).length (ints (nums (scanK f L k))) ∧ Below W.heap.size W wr
def inB (px py : Int) (b : Bx) : Bool := inF px py b.1 b.2.1 b.2.2.1 b.2.2.2
def meetB (x : Bx) (b : Bx) : Bool := meetF b.1 b.2.1 b.2.2.1 b.2.2.2 x.1 x.2.1 x.2.2.1 x.2.2.2
end

section
set_option linter.unusedVariables false
set_option linter.unusedSimpArgs false
open Go.RowKit
def In6 (a : Int) : Prop := -9223372036854775808 ≤ a ∧ a ≤ 9223372036854775807
def keyP (lv : Nat) (b : Bx) : Int := if lv % 2 = 0 then b.1 + b.2.2.1 else b.2.1 + b.2.2.2
def InB (b : Bx) : Prop := In6 b.1 ∧ In6 b.2.1 ∧ In6 b.2.2.1 ∧ In6 b.2.2.2
end

section
set_option linter.unusedVariables false
set_option linter.unusedSimpArgs false
open Go.RowKit
theorem nums_get {l : List Nat} {k : Nat} (h : k < l.length) : (nums l).getD k 0 = ((l.getD k 0 : Nat) : Int) := by
  unfold nums
  rw [List.getD_eq_getElem?_getD, List.getElem?_map, List.getElem?_eq_getElem h, List.getD_eq_getElem?_getD, List.getElem?_eq_getElem h]
  rfl
theorem nums_fit {l : List Nat} {n N : Nat} (h : ∀ i ∈ l, i < N) (hN : N ≤ 1000000) (hn : n ≤ l.length) : Fit64 (nums l) n := fun i hi => by
  rw [nums_get (by omega)]
  have hm : l.getD i 0 ∈ l := by rw [List.getD_eq_getElem?_getD, List.getElem?_eq_getElem (by omega)]; exact List.getElem_mem (by omega)
  have := h _ hm
  omega
def OdO (W : World) (k : Nat → Int) (P : List Nat) (v x : Value) (wr : World) : Prop := ∃ (i : Nat) (S : List Nat), x = .int .i64 (i : Int) ∧ i ≤ P.length ∧ wr.ownsRow W.heap.size 3 1 v S.length (ints (nums S)) ∧ S.Perm (P.take i) ∧ SrtK k S ∧ Below W.heap.size W wr
def OdI (W : World) (k : Nat → Int) (S : List Nat) (p : Nat) (x : Value) (wr : World) : Prop := ∃ j : Nat, x = .int .i64 (j : Int) ∧ j ≤ S.length ∧ (∀ i, j ≤ i → i < S.length → aheadK k p (S.getD i 0)) ∧ Cls W wr
theorem iown_ok {w : World} {base n : Nat} {v : Value} {zs : List Int} (h : w.ownsRow base 3 1 v n (ints zs)) (hb : Fit64 zs n) : ∃ a cap, v = .slice a n cap ∧ Reads w a n zs ∧ SOk a n cap := by
  obtain ⟨a, cap, e, hr⟩ := reads_of_owns h hb
  refine ⟨a, cap, e, hr, ?_⟩
  obtain ⟨_, h2⟩ := h
  rcases h2 with ⟨e2, h0⟩ | ⟨g, c2, cur, e2, _, _, hnc, _⟩
  · rw [e2] at e
    injection e with e3 e4 e5
    subst e3 e4 e5
    exact ⟨Nat.le_refl _, fun _ => rfl⟩
  · rw [e2] at e
    injection e with e3 e4 e5
    subst e5
    exact ⟨by omega, fun h => by rw [← e3] at h; cases h⟩
theorem iown_base {W : World} {base base' es : Nat} {e : TypeId} {v : Value} {k : Nat} {xs : List Value} (h : W.ownsRow base e es v k xs) (hb : base' ≤ base) : W.ownsRow base' e es v k xs := by
  obtain ⟨h1, h⟩ := h
  refine ⟨h1, ?_⟩
  rcases h with h | ⟨g, cap, cur, hv, hg, hc, h4, h5, h6, h7⟩
  · exact .inl h
  · exact .inr ⟨g, cap, cur, hv, by omega, hc, h4, h5, h6, h7⟩
theorem reads_cell {w : World} {g : Nat} {z : Int} (hc : w.cell? ⟨g, 0, none⟩ = some (.int .i64 z)) (hf : Fit64 [z] 1) : Reads w (some ⟨g, 0, none⟩) 1 [z] :=
  ⟨rfl, hf, .inr ⟨g, 0, rfl, fun i hi => by
    obtain rfl : i = 0 := by omega
    exact hc⟩⟩
def dropA (a : Option Addr) (j c : Nat) : Option Addr := if c = j then a else Option.map (fun x => x.add j) a
theorem getD_memN {l : List Nat} {k : Nat} (h : k < l.length) : l.getD k 0 ∈ l := by
  rw [List.getD_eq_getElem?_getD, List.getElem?_eq_getElem h]; exact List.getElem_mem h
theorem reads_at {w : World} {a : Option Addr} {n : Nat} {l : List Nat} (h : Reads w a n (nums l)) {k : Nat} (hk : k < n) : ∃ b o, a = some ⟨b, o, none⟩ ∧ w.cell? ⟨b, o + k, none⟩ = some (.int .i64 ((l.getD k 0 : Nat) : Int)) ∧ b < w.heap.size := by
  have hl := h.1
  rw [nums_len] at hl
  rcases h.2.2 with h0 | ⟨b, o, rfl, hc⟩
  · omega
  · have := hc k hk
    rw [nums_get (by omega)] at this
    exact ⟨b, o, rfl, this, World.block_lt_of_cell? _ _ this⟩
theorem xreads_at {w : World} {a : Option Addr} {n : Nat} {L : List Bx} (h : XReads w a n L) {k : Nat} (hk : k < n) : ∃ b o x1 x2 x3 x4, a = some ⟨b, o, none⟩ ∧ L.getD k Bx0 = (x1, x2, x3, x4) ∧ w.cell? ⟨b, o + k * 4, none⟩ = some (.int .i64 x1) ∧ w.cell? ⟨b, o + k * 4 + 1, none⟩ = some (.int .i64 x2) ∧ w.cell? ⟨b, o + k * 4 + 2, none⟩ = some (.int .i64 x3) ∧ w.cell? ⟨b, o + k * 4 + 3, none⟩ = some (.int .i64 x4) ∧ b < w.heap.size := by
  rcases h.2 with h0 | ⟨b, o, rfl, hc⟩
  · omega
  · obtain ⟨p1, p2, p3, p4⟩ := hc k hk
    exact ⟨b, o, _, _, _, _, rfl, rfl, p1, p2, p3, p4, World.block_lt_of_cell? _ _ p1⟩
def AlAt (W : World) (n : Nat) (v x : Value) (wr : World) : Prop := ∃ k : Nat, x = .int .i64 (k : Int) ∧ k ≤ n ∧ wr.ownsRow W.heap.size 3 1 v k (ints (nums (List.range k))) ∧ Below W.heap.size W wr
end
end Go.Proofs.YthphdiigjimchaaGreat

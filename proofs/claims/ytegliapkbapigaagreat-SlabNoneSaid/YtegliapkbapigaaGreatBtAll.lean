/- Trees of boxes: levels, the order of a part by sums of sides and places, what a scan finds. No program. Slices of boxes: what reads as a list, rows of the call's own, copies, arguments. apportionref12: At, Over, Depth. apportionref12: less, ahead. apportionref12: order, Order. -/
import Derived.Test.YtegliapkbapigaaGreatKitOne
import Derived.Test.YtegliapkbapigaaGreatPtArg
import Derived.Test.YtegliapkbapigaaGreatPtTwo
import Derived.Test.YtegliapkbapigaaGreatRgRest
import Derived.Test.YtegliapkbapigaaGreatPtOne
import Derived.Test.YtegliapkbapigaaGreatKitTwo
import Derived.Test.YtegliapkbapigaaGreatNumRest
import Derived.Deep.RegionLaw
namespace Go.Proofs.YtegliapkbapigaaGreat
section
set_option linter.unusedVariables false
set_option linter.unusedSimpArgs false

/-- How many levels there are of n boxes. -/
def depthF (n : Nat) : Nat := if h : n ≤ 1 then n else 1 + depthF ((n + 1) / 2)
termination_by n
decreasing_by omega
theorem depth_small {n : Nat} (h : n ≤ 1) : depthF n = n := by rw [depthF, dif_pos h]
theorem depth_big {n : Nat} (h : 2 ≤ n) : depthF n = 1 + depthF ((n + 1) / 2) := by rw [depthF, dif_neg (by omega)]
theorem depth_double {n : Nat} (h : 0 < n) : depthF (2 * n) = depthF n + 1 := by
  rw [depth_big (by omega), show (2 * n + 1) / 2 = n by omega]; omega
theorem depth_le : ∀ (k n : Nat), n ≤ 2 ^ k → depthF n ≤ k + 1
  | 0, n, h => by rw [depth_small (by simpa using h)]; simpa using h
  | k + 1, n, h => by
    by_cases h1 : n ≤ 1
    · rw [depth_small h1]; omega
    · rw [depth_big (by omega)]
      have := depth_le k ((n + 1) / 2) (by rw [Nat.pow_succ] at h; omega)
      omega
theorem depth_pow : ∀ (f n : Nat), n ≤ f → 0 < n → n ≤ 2 ^ (depthF n - 1)
  | 0, n, h, h0 => by omega
  | f + 1, n, h, h0 => by
    by_cases h1 : n ≤ 1
    · rw [depth_small h1]; have : n = 1 := by omega
      subst this; decide
    · have ih := depth_pow f ((n + 1) / 2) (by omega) (by omega)
      rw [depth_big (by omega)]
      have hd : 0 < depthF ((n + 1) / 2) := by
        by_cases h2 : (n + 1) / 2 ≤ 1
        · rw [depth_small h2]; omega
        · rw [depth_big (by omega)]; omega
      rw [show 1 + depthF ((n + 1) / 2) - 1 = (depthF ((n + 1) / 2) - 1) + 1 by omega, Nat.pow_succ]
      omega

/-- Is a place ahead of another, by a key and then by the place? -/
def aheadK (k : Nat → Int) (i j : Nat) : Prop := k i < k j ∨ (k i = k j ∧ i < j)
instance (k : Nat → Int) (i j : Nat) : Decidable (aheadK k i j) := by unfold aheadK; exact inferInstance
theorem ahead_trans {k : Nat → Int} {i j l : Nat} (h1 : aheadK k i j) (h2 : aheadK k j l) : aheadK k i l := by unfold aheadK at *; omega
theorem ahead_irr {k : Nat → Int} {i : Nat} : ¬ aheadK k i i := by unfold aheadK; omega
theorem ahead_tot {k : Nat → Int} {i j : Nat} (h : ¬ aheadK k i j) (h2 : ¬ aheadK k j i) : i = j := by unfold aheadK at *; omega
/-- A part in its order: each ahead of all behind it. -/
def SrtK (k : Nat → Int) (L : List Nat) : Prop := L.Pairwise (aheadK k)
theorem srt_unique {k : Nat → Int} : ∀ {A B : List Nat}, SrtK k A → SrtK k B → A.Perm B → A = B
  | [], _, _, _, h => (List.nil_perm.1 h).symm
  | x :: A, [], _, _, h => by have := h.length_eq; simp at this
  | x :: A, y :: B, h1, h2, h => by
    unfold SrtK at *
    rw [List.pairwise_cons] at h1 h2
    have e : x = y := by
      rcases List.mem_cons.1 (h.mem_iff.1 List.mem_cons_self) with e | hm
      · exact e
      · rcases List.mem_cons.1 (h.mem_iff.2 List.mem_cons_self) with e | hk
        · exact e.symm
        · exact absurd (ahead_trans (h2.1 x hm) (h1.1 y hk)) ahead_irr
    subst e
    rw [srt_unique h1.2 h2.2 ((List.perm_cons x).1 h)]
/-- Put a place where it belongs. -/
def putK (k : Nat → Int) (x : Nat) : List Nat → List Nat
  | [] => [x]
  | y :: L => if aheadK k x y then x :: y :: L else y :: putK k x L
theorem put_perm (k : Nat → Int) (x : Nat) : ∀ L : List Nat, (putK k x L).Perm (x :: L)
  | [] => List.Perm.refl _
  | y :: L => by
    unfold putK
    split
    · exact List.Perm.refl _
    · exact ((put_perm k x L).cons y).trans (List.Perm.swap x y L)
theorem put_srt {k : Nat → Int} {x : Nat} : ∀ {L : List Nat}, SrtK k L → x ∉ L → SrtK k (putK k x L)
  | [], _, _ => by unfold putK SrtK; simp
  | y :: L, h, hx => by
    unfold putK
    have h' := h
    unfold SrtK at h'
    rw [List.pairwise_cons] at h'
    split
    case isTrue ha =>
      unfold SrtK
      rw [List.pairwise_cons]
      refine ⟨fun z hz => ?_, h⟩
      rcases List.mem_cons.1 hz with rfl | hz
      · exact ha
      · exact ahead_trans ha (h'.1 z hz)
    case isFalse ha =>
      unfold SrtK
      rw [List.pairwise_cons]
      refine ⟨fun z hz => ?_, put_srt h'.2 (fun hm => hx (List.mem_cons_of_mem _ hm))⟩
      rcases List.mem_cons.1 ((put_perm k x L).mem_iff.1 hz) with rfl | hz
      · apply Decidable.byContradiction
        intro hn
        exact hx (by rw [ahead_tot hn ha]; exact List.mem_cons_self)
      · exact h'.1 z hz
/-- A part's places in their order. -/
def srtK (k : Nat → Int) : List Nat → List Nat
  | [] => []
  | x :: L => putK k x (srtK k L)
theorem srt_perm (k : Nat → Int) : ∀ L : List Nat, (srtK k L).Perm L
  | [] => List.Perm.refl _
  | x :: L => (put_perm k x _).trans ((srt_perm k L).cons x)
theorem srt_srt {k : Nat → Int} : ∀ {L : List Nat}, L.Nodup → SrtK k (srtK k L)
  | [], _ => List.Pairwise.nil
  | x :: L, h => by
    rw [List.nodup_cons] at h
    exact put_srt (srt_srt h.2) (fun hm => h.1 ((srt_perm k L).mem_iff.1 hm))
theorem srt_is {k : Nat → Int} {L M : List Nat} (hn : L.Nodup) (hp : M.Perm L) (hs : SrtK k M) : M = srtK k L := srt_unique hs (srt_srt hn) (hp.trans (srt_perm k L).symm)

/-- The places of a part, in the order of the parts of the last level, from a level on. -/
def ordK (key : Nat → Nat → Int) : Nat → Nat → List Nat → List Nat
  | 0, _, L => L
  | f + 1, lv, L => if L.length < 2 then L else ordK key f (lv + 1) ((srtK (key lv) L).take ((L.length + 1) / 2)) ++ ordK key f (lv + 1) ((srtK (key lv) L).drop ((L.length + 1) / 2))
theorem ord_perm (key : Nat → Nat → Int) : ∀ (f lv : Nat) (L : List Nat), (ordK key f lv L).Perm L
  | 0, _, L => List.Perm.refl _
  | f + 1, lv, L => by
    unfold ordK
    split
    · exact List.Perm.refl _
    · refine ((ord_perm key f (lv + 1) _).append (ord_perm key f (lv + 1) _)).trans ?_
      rw [List.take_append_drop]
      exact srt_perm _ _
/-- More fuel tells the same. -/
theorem ord_fuel (key : Nat → Nat → Int) : ∀ (f g lv : Nat) (L : List Nat), L.length ≤ f → L.length ≤ g → ordK key f lv L = ordK key g lv L
  | 0, g, lv, L, h, _ => by
    obtain rfl := List.eq_nil_of_length_eq_zero (Nat.le_zero.1 h)
    cases g <;> simp [ordK]
  | f + 1, 0, lv, L, _, h => by
    obtain rfl := List.eq_nil_of_length_eq_zero (Nat.le_zero.1 h)
    simp [ordK]
  | f + 1, g + 1, lv, L, h1, h2 => by
    unfold ordK
    split
    · rfl
    · have hl := (srt_perm (key lv) L).length_eq
      rw [ord_fuel key f g (lv + 1) _ (by rw [List.length_take]; omega) (by rw [List.length_take]; omega), ord_fuel key f g (lv + 1) _ (by rw [List.length_drop]; omega) (by rw [List.length_drop]; omega)]

/-- A box by its four numbers; the sum that a level goes by. -/
abbrev Bx := Int × Int × Int × Int
def keyB (l : List Bx) (lv i : Nat) : Int := let b := l.getD i (0, 0, 0, 0); if lv % 2 = 0 then b.1 + b.2.2.1 else b.2.1 + b.2.2.2
def ordB (l : List Bx) : List Nat := ordK (keyB l) l.length 0 (List.range l.length)
theorem ordB_perm (l : List Bx) : (ordB l).Perm (List.range l.length) := ord_perm _ _ _ _
/-- What a scan finds: the places at which f holds, ascending. -/
def scanB (f : Bx → Bool) (l : List Bx) : List Nat := (List.range l.length).filter fun i => f (l.getD i (0, 0, 0, 0))
theorem scan_mem {f : Bx → Bool} {l : List Bx} {i : Nat} : i ∈ scanB f l ↔ i < l.length ∧ f (l.getD i (0, 0, 0, 0)) = true := by
  unfold scanB; rw [List.mem_filter, List.mem_range]
theorem scan_up (f : Bx → Bool) (l : List Bx) : (scanB f l).Pairwise (· < ·) := List.Pairwise.filter _ List.pairwise_lt_range
/-- An ascending list with the same places is the same list. -/
theorem up_one {A B : List Nat} (h1 : A.Pairwise (· < ·)) (h2 : B.Pairwise (· < ·)) (h : ∀ i, i ∈ A ↔ i ∈ B) : A = B := by
  have n1 : A.Nodup := h1.imp fun {a b} h => by omega
  have n2 : B.Nodup := h2.imp fun {a b} h => by omega
  have hp : A.Perm B := (List.perm_ext_iff_of_nodup n1 n2).2 h
  have e1 : SrtK (fun i => (i : Int)) A := h1.imp fun {a b} h => .inl (by show (a : Int) < (b : Int); omega)
  have e2 : SrtK (fun i => (i : Int)) B := h2.imp fun {a b} h => .inl (by show (a : Int) < (b : Int); omega)
  exact srt_unique e1 e2 hp
end

section
set_option linter.unusedVariables false
set_option linter.unusedSimpArgs false
open Go.RowKit Go.ChangeShapes Go.WideShapes Go.ChangeAt Go.Joins

abbrev Bx0 : Bx := (0, 0, 0, 0)
def bvB (b : Bx) : Value := bxV b.1 b.2.1 b.2.2.1 b.2.2.2
/-- A slice of boxes that reads as a list. -/
def XReads (w : World) (a : Option Addr) (n : Nat) (L : List Bx) : Prop :=
  L.length = n ∧ (n = 0 ∨ ∃ b o, a = some ⟨b, o, none⟩ ∧ ∀ i, i < n → w.cell? ⟨b, o + i * 4, none⟩ = some (.int .i64 (L.getD i Bx0).1) ∧ w.cell? ⟨b, o + i * 4 + 1, none⟩ = some (.int .i64 (L.getD i Bx0).2.1) ∧
    w.cell? ⟨b, o + i * 4 + 2, none⟩ = some (.int .i64 (L.getD i Bx0).2.2.1) ∧ w.cell? ⟨b, o + i * 4 + 3, none⟩ = some (.int .i64 (L.getD i Bx0).2.2.2))
theorem xreads_nil (w : World) : XReads w none 0 [] := ⟨rfl, .inl rfl⟩
theorem XReads.below {w w' : World} {a : Option Addr} {n : Nat} {L : List Bx} (h : XReads w a n L) (hb : Below w.heap.size w w') : XReads w' a n L := by
  obtain ⟨h1, h2⟩ := h
  refine ⟨h1, ?_⟩
  rcases h2 with h2 | ⟨b, o, he, hc⟩
  · exact .inl h2
  · refine .inr ⟨b, o, he, fun i hi => ?_⟩
    obtain ⟨e1, e2, e3, e4⟩ := hc i hi
    have k := hb.block b (World.block_lt_of_cell? _ _ e1)
    exact ⟨(World.cell?_of_block (a := ⟨b, o + i * 4, none⟩) k).trans e1, (World.cell?_of_block (a := ⟨b, o + i * 4 + 1, none⟩) k).trans e2, (World.cell?_of_block (a := ⟨b, o + i * 4 + 2, none⟩) k).trans e3, (World.cell?_of_block (a := ⟨b, o + i * 4 + 3, none⟩) k).trans e4⟩
theorem xreads_eqh {w1 w2 : World} {a : Option Addr} {n : Nat} {L : List Bx} (h : XReads w1 a n L) (e : w2 = w1) : XReads w2 a n L := by subst e; exact h

/-- The cells of a row of boxes. -/
def boxcells : List Bx → List Value
  | [] => []
  | b :: L => .int .i64 b.1 :: .int .i64 b.2.1 :: .int .i64 b.2.2.1 :: .int .i64 b.2.2.2 :: boxcells L
theorem boxcells_len : ∀ L : List Bx, (boxcells L).length = L.length * 4
  | [] => rfl
  | b :: L => by show (boxcells L).length + 1 + 1 + 1 + 1 = (L.length + 1) * 4; rw [boxcells_len L]; omega
theorem boxcells_app : ∀ K M : List Bx, boxcells (K ++ M) = boxcells K ++ boxcells M
  | [], M => rfl
  | b :: K, M => by simp [boxcells, boxcells_app K M]
theorem boxcells_one : ∀ (L : List Bx) (u : Value), u ∈ boxcells L → u.oneCell' = true
  | [], u, h => by cases h
  | b :: L, u, h => by
    unfold boxcells at h
    simp only [List.mem_cons] at h
    rcases h with rfl | rfl | rfl | rfl | h
    · rfl
    · rfl
    · rfl
    · rfl
    · exact boxcells_one L u h
theorem boxcells_at : ∀ (L : List Bx) (i : Nat), i < L.length → (boxcells L)[i * 4]? = some (.int .i64 (L.getD i Bx0).1) ∧ (boxcells L)[i * 4 + 1]? = some (.int .i64 (L.getD i Bx0).2.1) ∧ (boxcells L)[i * 4 + 2]? = some (.int .i64 (L.getD i Bx0).2.2.1) ∧ (boxcells L)[i * 4 + 3]? = some (.int .i64 (L.getD i Bx0).2.2.2)
  | [], i, h => by cases h
  | b :: L, 0, h => by simp [boxcells]
  | b :: L, i + 1, h => by
    have := boxcells_at L i (by simpa using h)
    unfold boxcells
    rw [show (i + 1) * 4 = i * 4 + 4 by omega]
    simpa using this
theorem info_bx : ∃ i, Tryz.prog.info? 59 = some i ∧ i.zero = some (.agg #[.int .i64 0, .int .i64 0, .int .i64 0, .int .i64 0]) ∧ i.size = 4 ∧ i.bytes = 32 := by
  have h : (Tryz.prog.info? 59).map (fun i => (i.zero, i.size, i.bytes)) = some (some (.agg #[.int .i64 0, .int .i64 0, .int .i64 0, .int .i64 0]), 4, 32) := by kernel_rfl
  cases hi : Tryz.prog.info? 59 with
  | none => rw [hi] at h; cases h
  | some i =>
    rw [hi] at h
    simp at h
    exact ⟨i, rfl, h.1, h.2.1, h.2.2⟩
theorem xreads_of_owns {w : World} {base : Nat} {v : Value} {n : Nat} {L : List Bx} (h : w.ownsRow base 59 4 v n (boxcells L)) : ∃ a cap, v = .slice a n cap ∧ XReads w a n L ∧ SOk a n cap := by
  obtain ⟨hl, h⟩ := h
  rw [boxcells_len] at hl
  have hl' : L.length = n := by omega
  rcases h with ⟨rfl, rfl⟩ | ⟨g, cap, cur, rfl, _, hc, hnc, _, hs, ht⟩
  · exact ⟨none, 0, rfl, ⟨hl', .inl rfl⟩, ⟨Nat.le_refl _, fun _ => rfl⟩⟩
  · refine ⟨_, cap, rfl, ⟨hl', .inr ⟨g, 0, rfl, fun i hi => ?_⟩⟩, ⟨hnc, fun h => by cases h⟩⟩
    obtain ⟨h1, h2, h3, h4⟩ := boxcells_at L i (by omega)
    rw [← ht] at h1 h2 h3 h4
    rw [List.getElem?_take_of_lt (by omega)] at h1 h2 h3 h4
    have e : ∀ k v, cur.toList[k]? = some v → w.cell? ⟨g, 0 + k, none⟩ = some v := by
      intro k v hk
      simp [World.cell?, hc]
      simpa using hk
    exact ⟨e _ _ h1, e _ _ h2, e _ _ h3, e _ _ h4⟩
theorem XReads.cells {w : World} {a : Addr} {n : Nat} {L : List Bx} (h : XReads w (some a) n L) : ∀ j u, (boxcells L)[j]? = some u → w.cell? (a.add j) = some u := by
  obtain ⟨h1, h3⟩ := h
  intro j u hu
  have hj : j < L.length * 4 := by
    obtain ⟨h0, _⟩ := List.getElem?_eq_some_iff.1 hu
    rw [← boxcells_len]; exact h0
  rcases h3 with h3 | ⟨b, o, he, hc⟩
  · omega
  · injection he with he
    subst he
    have ha : ∀ j, (⟨b, o, none⟩ : Addr).add j = ⟨b, o + j, none⟩ := fun j => by unfold Addr.add; split <;> simp_all
    rw [ha]
    obtain ⟨i, hi⟩ : ∃ i, j = i * 4 ∨ j = i * 4 + 1 ∨ j = i * 4 + 2 ∨ j = i * 4 + 3 := ⟨j / 4, by omega⟩
    obtain ⟨k1, k2, k3, k4⟩ := hc i (by omega)
    obtain ⟨m1, m2, m3, m4⟩ := boxcells_at L i (by omega)
    rcases hi with rfl | rfl | rfl | rfl
    · rw [m1] at hu; rw [← hu]; exact k1
    · rw [m2] at hu; rw [← Nat.add_assoc, ← hu]; exact k2
    · rw [m3] at hu; rw [← Nat.add_assoc, ← hu]; exact k3
    · rw [m4] at hu; rw [← Nat.add_assoc, ← hu]; exact k4

theorem XReads.only {v : Value} {w w' : World} {a : Option Addr} {n : Nat} {L : List Bx} (h : XReads w a n L) (hk : ∀ x, a = some x → w'.heap[x.block]? = w.heap[x.block]?) : XReads w' a n L := by
  obtain ⟨h1, h2⟩ := h
  refine ⟨h1, ?_⟩
  rcases h2 with h2 | ⟨b, o, rfl, hc⟩
  · exact .inl h2
  · refine .inr ⟨b, o, rfl, fun i hi => ?_⟩
    have k := hk _ rfl
    obtain ⟨e1, e2, e3, e4⟩ := hc i hi
    exact ⟨(World.cell?_of_block (a := ⟨b, o + i * 4, none⟩) k).trans e1, (World.cell?_of_block (a := ⟨b, o + i * 4 + 1, none⟩) k).trans e2, (World.cell?_of_block (a := ⟨b, o + i * 4 + 2, none⟩) k).trans e3, (World.cell?_of_block (a := ⟨b, o + i * 4 + 3, none⟩) k).trans e4⟩
theorem xowns_empty (w : World) : (w.alloc (.cells #[] 59)).ownsRow w.heap.size 59 4 (.slice (some ⟨w.heap.size, 0, none⟩) 0 0) 0 (boxcells []) :=
  ⟨rfl, .inr ⟨w.heap.size, 0, #[], rfl, Nat.le_refl _, World.alloc_heap_new w _, Nat.le_refl _, Nat.zero_le _, rfl, rfl⟩⟩
theorem xnil_owns (w : World) (base : Nat) : w.ownsRow base 59 4 (.slice none 0 0) 0 (boxcells []) := ⟨rfl, .inl ⟨rfl, rfl⟩⟩
/-- What a copy of boxes leaves. -/
def XCopied (w : World) (n : Nat) (L : List Bx) (v : Value) (wx : World) : Prop := wx.ownsRow w.heap.size 59 4 v n (boxcells L) ∧ Below w.heap.size w wx
section
variable {H : Type} {enc : TypeId × Value → H} {w : World} {base : Nat} {spare : Nat → Bool} {held : Bool}
end
theorem boxes_at {w : World} {a : Addr} {len : Nat} {K : Nat → Bx} (h : ∀ i, i < len → w.cell? (a.add (i * 4)) = some (.int .i64 (K i).1) ∧ w.cell? (a.add (i * 4 + 1)) = some (.int .i64 (K i).2.1) ∧ w.cell? (a.add (i * 4 + 2)) = some (.int .i64 (K i).2.2.1) ∧ w.cell? (a.add (i * 4 + 3)) = some (.int .i64 (K i).2.2.2)) :
    XReads w (some a) len ((List.range len).map K) := by
  refine ⟨by simp, ?_⟩
  by_cases hz : len = 0
  · exact .inl hz
  · obtain ⟨b, off, sp⟩ := a
    have h1 := (h 0 (by omega)).1
    have hsp : sp = none := by
      cases sp with
      | none => rfl
      | some s => unfold Addr.add World.cell? at h1; simp at h1; split at h1 <;> simp_all
    subst hsp
    have ha : ∀ j, (⟨b, off, none⟩ : Addr).add j = ⟨b, off + j, none⟩ := fun j => by unfold Addr.add; split <;> simp_all
    refine .inr ⟨b, off, rfl, fun i hi => ?_⟩
    have := h i hi
    rw [ha, ha, ha, ha] at this
    have e : ((List.range len).map K).getD i Bx0 = K i := by
      rw [List.getD_eq_getElem?_getD, List.getElem?_map, List.getElem?_range hi]; rfl
    rw [e]
    exact this
end

section
set_option linter.unusedVariables false
set_option linter.unusedSimpArgs false
open Go.RowKit

def scanK (f : Bx → Bool) (L : List Bx) (k : Nat) : List Nat := (List.range k).filter fun i => f (L.getD i Bx0)
theorem scanK_all (f : Bx → Bool) (L : List Bx) : scanK f L L.length = scanB f L := rfl
theorem scanK_hit {f : Bx → Bool} {L : List Bx} {k : Nat} (h : f (L.getD k Bx0) = true) : scanK f L (k + 1) = scanK f L k ++ [k] := by
  unfold scanK; rw [List.range_succ, List.filter_append]; simp only [List.filter_cons, List.filter_nil, h, if_true]
theorem scanK_not {f : Bx → Bool} {L : List Bx} {k : Nat} (h : f (L.getD k Bx0) = false) : scanK f L (k + 1) = scanK f L k := by
  unfold scanK; rw [List.range_succ, List.filter_append]; simp only [List.filter_cons, List.filter_nil, h]; simp
theorem scanK_le (f : Bx → Bool) (L : List Bx) (k : Nat) : (scanK f L k).length ≤ k := by
  have := List.length_filter_le (fun i => f (L.getD i Bx0)) (List.range k)
  rw [List.length_range] at this
  exact this
/-- Places as the numbers that a row holds. -/
def nums (l : List Nat) : List Int := l.map fun (i : Nat) => (i : Int)
theorem nums_len (l : List Nat) : (nums l).length = l.length := by simp [nums]
theorem nums_snoc (l : List Nat) (k : Nat) : nums (l ++ [k]) = nums l ++ [(k : Int)] := by simp [nums]
theorem inil_owns (w : World) (base : Nat) : w.ownsRow base 3 1 (.slice none 0 0) 0 (ints []) := ⟨rfl, .inl ⟨rfl, rfl⟩⟩
/-- A row of numbers of the call's own. -/
def IOwn (w w' : World) (v : Value) (l : List Nat) : Prop := w'.ownsRow w.heap.size 3 1 v l.length (ints (nums l))
/-- Between two rounds: what has been found so far. -/
def ScAt (W : World) (f : Bx → Bool) (L : List Bx) (v i : Value) (wr : World) : Prop := ∃ k : Nat, i = .int .i64 (k : Int) ∧ k ≤ L.length ∧ wr.ownsRow W.heap.size 3 1 v (scanK f L k).length (ints (nums (scanK f L k))) ∧ Below W.heap.size W wr
def inB (px py : Int) (b : Bx) : Bool := inF px py b.1 b.2.1 b.2.2.1 b.2.2.2
def meetB (x : Bx) (b : Bx) : Bool := meetF b.1 b.2.1 b.2.2.1 b.2.2.2 x.1 x.2.1 x.2.2.1 x.2.2.2
end

section
set_option linter.unusedVariables false
set_option linter.unusedSimpArgs false
open Go.RowKit

/-- A number fits an int. -/
def In6 (a : Int) : Prop := -9223372036854775808 ≤ a ∧ a ≤ 9223372036854775807
/-- The sum that a level goes by. -/
def keyP (lv : Nat) (b : Bx) : Int := if lv % 2 = 0 then b.1 + b.2.2.1 else b.2.1 + b.2.2.2
theorem keyB_at (l : List Bx) (lv i : Nat) : keyB l lv i = keyP lv (l.getD i Bx0) := rfl
def InB (b : Bx) : Prop := In6 b.1 ∧ In6 b.2.1 ∧ In6 b.2.2.1 ∧ In6 b.2.2.2
end

section
set_option linter.unusedVariables false
set_option linter.unusedSimpArgs false
open Go.RowKit

/-- A slice of numbers is put behind a row of the call's own, in a statement that draws its order. -/
theorem step_iapp {ops : Array Oper} {o : Oper} {a : Act} {w : World} {K : Act → World → Prop} {Q : Exit → Act → World → Prop} {E : Prop} (hgd : o.guard = none) (s x : Operand)
    (ho : o.op = .call { callee := .builtin .append, args := #[s, x], argTypes := #[45, 45] }) (base : Nat) (v : Value) (n : Nat) (xs : List Int) (hs : a.eval s = v) (hown : w.ownsRow base 3 1 v n (ints xs))
    (A : Option Addr) (len cap : Nat) (zs : List Int) (hx : a.eval x = .slice A len cap) (hn : A = none → len = 0 ∧ cap = 0) (hr : Reads w A len zs) (hm : n + len ≤ 17592186044416) (hb : base ≤ w.heap.size)
    (h : ∀ v' w', w'.ownsRow base 3 1 v' (n + len) (ints (xs ++ zs)) → w.grownBy w' v.ownBlock → K (a.put o.dst v') w') :
    if Region.wanted o (yielded ops a.tmps) = true then Oper.wp Tryz.prog o a w K Q else E := by
  have hw : Region.wanted o (yielded ops a.tmps) = true := by simp [Region.wanted, hgd]
  rw [if_pos hw]
  obtain ⟨i0, hi0, hz0, hz1, hz2⟩ := info_int
  rcases A with _ | ad
  · obtain ⟨rfl, rfl⟩ := hn rfl
    obtain rfl : zs = [] := List.eq_nil_of_length_eq_zero hr.1
    have hrun := run_append_owned_none (P := Tryz.prog) (w := w) base 45 o.type 3 i0 1 Tryz.underlying45 hi0 v n (ints xs) hown
    have hK := h v w (by rw [List.append_nil, Nat.add_zero]; exact hown) (World.grownBy.refl w _)
    unfold Oper.wp
    simp [execOp, ho, resolve, invoke, builtin, hs, hx, hrun, Result.andThen]
    exact hK
  · refine wp_append_own _ s x _ ho base 3 i0 _ 1 8 Tryz.underlying45 hi0 hz0 hz1 hz2 rfl (by decide) _ n (ints xs) hs hown ad len cap (ints zs) hx
      (by rw [ints_len, hr.1, Nat.mul_one]) hr.cells (ints_one zs) (by simp only [maxLen]; omega) (by omega) hb ?_
    intro v' w' hown' hg _
    rw [ints_app] at hown'
    exact h _ _ hown' hg

theorem nums_get {l : List Nat} {k : Nat} (h : k < l.length) : (nums l).getD k 0 = ((l.getD k 0 : Nat) : Int) := by
  unfold nums
  rw [List.getD_eq_getElem?_getD, List.getElem?_map, List.getElem?_eq_getElem h, List.getD_eq_getElem?_getD, List.getElem?_eq_getElem h]
  rfl
theorem nums_app (l m : List Nat) : nums l ++ nums m = nums (l ++ m) := by simp [nums]
theorem nums_fit {l : List Nat} {n N : Nat} (h : ∀ i ∈ l, i < N) (hN : N ≤ 1000000) (hn : n ≤ l.length) : Fit64 (nums l) n := fun i hi => by
  rw [nums_get (by omega)]
  have hm : l.getD i 0 ∈ l := by rw [List.getD_eq_getElem?_getD, List.getElem?_eq_getElem (by omega)]; exact List.getElem_mem (by omega)
  have := h _ hm
  omega
/-- A place is put where it belongs: all ahead of it, it ahead of all behind. -/
theorem mid_srt {k : Nat → Int} {S : List Nat} {x j : Nat} (h : SrtK k S) (h1 : ∀ i, i < j → aheadK k (S.getD i 0) x) (h2 : ∀ i, j ≤ i → i < S.length → aheadK k x (S.getD i 0)) : SrtK k (S.take j ++ [x] ++ S.drop j) := by
  unfold SrtK at *
  have g : ∀ i (hi : i < S.length), S.getD i 0 = S[i] := fun i hi => by rw [List.getD_eq_getElem?_getD, List.getElem?_eq_getElem hi]; rfl
  have hsp : (S.take j ++ S.drop j).Pairwise (aheadK k) := by rw [List.take_append_drop]; exact h
  rw [List.pairwise_append] at hsp
  obtain ⟨s1, s2, s3⟩ := hsp
  have t1 : ∀ y ∈ S.take j, aheadK k y x := fun y hy => by
    obtain ⟨i, hi, e⟩ := List.mem_iff_getElem.1 hy
    rw [List.length_take] at hi
    rw [List.getElem_take] at e
    have := h1 i (by omega)
    rw [g i (by omega), e] at this
    exact this
  have t2 : ∀ y ∈ S.drop j, aheadK k x y := fun y hy => by
    obtain ⟨i, hi, e⟩ := List.mem_iff_getElem.1 hy
    rw [List.length_drop] at hi
    rw [List.getElem_drop] at e
    have := h2 (j + i) (by omega) (by omega)
    rw [g (j + i) (by omega), e] at this
    exact this
  rw [List.append_assoc, List.pairwise_append]
  refine ⟨s1, ?_, fun y hy z hz => ?_⟩
  · rw [List.singleton_append, List.pairwise_cons]
    exact ⟨t2, s2⟩
  · rcases List.mem_append.1 hz with hz | hz
    · rw [List.mem_singleton.1 hz]; exact t1 y hy
    · exact s3 y hy z hz
theorem mid_perm {S : List Nat} {x j : Nat} : (S.take j ++ [x] ++ S.drop j).Perm (S ++ [x]) := by
  rw [List.append_assoc]
  have h : (S.take j ++ (S.drop j ++ [x])).Perm (S ++ [x]) := by rw [← List.append_assoc, List.take_append_drop]
  exact (List.Perm.append_left _ List.perm_append_comm).trans h
/-- Between two rounds: the first i in their order. -/
def OdO (W : World) (k : Nat → Int) (P : List Nat) (v x : Value) (wr : World) : Prop := ∃ (i : Nat) (S : List Nat), x = .int .i64 (i : Int) ∧ i ≤ P.length ∧ wr.ownsRow W.heap.size 3 1 v S.length (ints (nums S)) ∧ S.Perm (P.take i) ∧ SrtK k S ∧ Below W.heap.size W wr
/-- Between two inner rounds: it is ahead of all from the j-th on. -/
def OdI (W : World) (k : Nat → Int) (S : List Nat) (p : Nat) (x : Value) (wr : World) : Prop := ∃ j : Nat, x = .int .i64 (j : Int) ∧ j ≤ S.length ∧ (∀ i, j ≤ i → i < S.length → aheadK k p (S.getD i 0)) ∧ Cls W wr

theorem iown_ok {w : World} {base n : Nat} {v : Value} {zs : List Int} (h : w.ownsRow base 3 1 v n (ints zs)) (hb : Fit64 zs n) : ∃ a cap, v = .slice a n cap ∧ Reads w a n zs ∧ SOk a n cap := by
  obtain ⟨a, cap, e, hr⟩ := reads_of_owns h hb
  refine ⟨a, cap, e, hr, ?_⟩
  obtain ⟨_, h2⟩ := h
  rcases h2 with ⟨e2, h0⟩ | ⟨g, c2, cur, e2, _, _, hnc, _⟩
  · rw [e2] at e
    injection e with e3 e4 e5
    subst e3 e4 e5
    exact ⟨Nat.le_refl _, fun _ => rfl⟩
  · rw [e2] at e
    injection e with e3 e4 e5
    subst e5
    exact ⟨by omega, fun h => by rw [← e3] at h; cases h⟩
theorem iown_base {W : World} {base base' es : Nat} {e : TypeId} {v : Value} {k : Nat} {xs : List Value} (h : W.ownsRow base e es v k xs) (hb : base' ≤ base) : W.ownsRow base' e es v k xs := by
  obtain ⟨h1, h⟩ := h
  refine ⟨h1, ?_⟩
  rcases h with h | ⟨g, cap, cur, hv, hg, hc, h4, h5, h6, h7⟩
  · exact .inl h
  · exact .inr ⟨g, cap, cur, hv, by omega, hc, h4, h5, h6, h7⟩
theorem reads_cell {w : World} {g : Nat} {z : Int} (hc : w.cell? ⟨g, 0, none⟩ = some (.int .i64 z)) (hf : Fit64 [z] 1) : Reads w (some ⟨g, 0, none⟩) 1 [z] :=
  ⟨rfl, hf, .inr ⟨g, 0, rfl, fun i hi => by
    obtain rfl : i = 0 := by omega
    exact hc⟩⟩
theorem iempty_at {w : World} {g : Nat} (e : w.heap.size = g) : (w.alloc (.cells #[] 3)).ownsRow g 3 1 (.slice (some ⟨g, 0, none⟩) 0 0) 0 (ints []) := by subst e; exact owns_empty w
theorem grown_cell {w w' : World} {row : Option Nat} {g : Nat} {u : Value} (hg : w.grownBy w' row) (hc : w.cell? ⟨g, 0, none⟩ = some u) (hr : ¬ row = some g) : w'.cell? ⟨g, 0, none⟩ = some u :=
  (World.cell?_of_block (a := ⟨g, 0, none⟩) (hg.block g (World.block_lt_of_cell? _ _ hc) (fun e => hr e.symm))).trans hc
/-- Where a slice's rest begins. -/
def dropA (a : Option Addr) (j c : Nat) : Option Addr := if c = j then a else Option.map (fun x => x.add j) a
theorem dropA_none {a : Option Addr} {j c n : Nat} (hk : SOk a n c) (h : dropA a j c = none) : n - j = 0 ∧ c - j = 0 := by
  have hle := hk.le
  unfold dropA at h
  cases a with
  | none => have := hk.nil rfl; omega
  | some x => split at h <;> cases h
theorem reads_takeN {w : World} {a : Option Addr} {l : List Nat} {j : Nat} (h : Reads w a l.length (nums l)) (hj : j ≤ l.length) : Reads w a j (nums (l.take j)) := by
  obtain ⟨h1, h2, h3⟩ := h
  have g : ∀ i, i < j → (nums (l.take j)).getD i 0 = (nums l).getD i 0 := fun i hi => by
    rw [nums_get (by rw [List.length_take]; omega), nums_get (by omega), List.getD_eq_getElem?_getD, List.getElem?_take_of_lt hi, List.getD_eq_getElem?_getD]
  refine ⟨by rw [nums_len, List.length_take]; omega, fun i hi => by rw [g i hi]; exact h2 i (by omega), ?_⟩
  rcases h3 with h3 | ⟨b, o, he, hc⟩
  · exact .inl (by omega)
  · exact .inr ⟨b, o, he, fun i hi => by rw [g i hi]; exact hc i (by omega)⟩
theorem reads_dropN {w : World} {a : Option Addr} {c : Nat} {l : List Nat} {j : Nat} (h : Reads w a l.length (nums l)) (hk : SOk a l.length c) (hj : j ≤ l.length) : Reads w (dropA a j c) (l.length - j) (nums (l.drop j)) := by
  obtain ⟨h1, h2, h3⟩ := h
  have g : ∀ i, i < l.length - j → (nums (l.drop j)).getD i 0 = (nums l).getD (j + i) 0 := fun i hi => by
    rw [nums_get (by rw [List.length_drop]; omega), nums_get (by omega), List.getD_eq_getElem?_getD, List.getElem?_drop, List.getD_eq_getElem?_getD]
  refine ⟨by rw [nums_len, List.length_drop], fun i hi => by rw [g i hi]; exact h2 _ (by omega), ?_⟩
  have := hk.le
  by_cases hz : l.length - j = 0
  · exact .inl hz
  · rcases h3 with h3 | ⟨b, o, rfl, hc⟩
    · omega
    · refine .inr ⟨b, o + j, ?_, fun i hi => ?_⟩
      · unfold dropA; rw [if_neg (by omega)]
        show some ((⟨b, o, none⟩ : Addr).add j) = _
        congr 1
        unfold Addr.add; split <;> simp_all
      · rw [g i hi, Nat.add_assoc]; exact hc _ (by omega)
theorem getD_memN {l : List Nat} {k : Nat} (h : k < l.length) : l.getD k 0 ∈ l := by
  rw [List.getD_eq_getElem?_getD, List.getElem?_eq_getElem h]; exact List.getElem_mem h
/-- One number of a row that reads as a list. -/
theorem reads_at {w : World} {a : Option Addr} {n : Nat} {l : List Nat} (h : Reads w a n (nums l)) {k : Nat} (hk : k < n) : ∃ b o, a = some ⟨b, o, none⟩ ∧ w.cell? ⟨b, o + k, none⟩ = some (.int .i64 ((l.getD k 0 : Nat) : Int)) ∧ b < w.heap.size := by
  have hl := h.1
  rw [nums_len] at hl
  rcases h.2.2 with h0 | ⟨b, o, rfl, hc⟩
  · omega
  · have := hc k hk
    rw [nums_get (by omega)] at this
    exact ⟨b, o, rfl, this, World.block_lt_of_cell? _ _ this⟩
theorem xreads_at {w : World} {a : Option Addr} {n : Nat} {L : List Bx} (h : XReads w a n L) {k : Nat} (hk : k < n) : ∃ b o x1 x2 x3 x4, a = some ⟨b, o, none⟩ ∧ L.getD k Bx0 = (x1, x2, x3, x4) ∧ w.cell? ⟨b, o + k * 4, none⟩ = some (.int .i64 x1) ∧ w.cell? ⟨b, o + k * 4 + 1, none⟩ = some (.int .i64 x2) ∧ w.cell? ⟨b, o + k * 4 + 2, none⟩ = some (.int .i64 x3) ∧ w.cell? ⟨b, o + k * 4 + 3, none⟩ = some (.int .i64 x4) ∧ b < w.heap.size := by
  rcases h.2 with h0 | ⟨b, o, rfl, hc⟩
  · omega
  · obtain ⟨p1, p2, p3, p4⟩ := hc k hk
    exact ⟨b, o, _, _, _, _, rfl, rfl, p1, p2, p3, p4, World.block_lt_of_cell? _ _ p1⟩

/-- Between two rounds: the first k places. -/
def AlAt (W : World) (n : Nat) (v x : Value) (wr : World) : Prop := ∃ k : Nat, x = .int .i64 (k : Int) ∧ k ≤ n ∧ wr.ownsRow W.heap.size 3 1 v k (ints (nums (List.range k))) ∧ Below W.heap.size W wr
end
end Go.Proofs.YtegliapkbapigaaGreat

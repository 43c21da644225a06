/- Slices of slices of bytes: what reads as lists of bytes, rows of the call's own. -/
import Derived.Test.YtfapldajodobhaaFrC
import Derived.Test.YtfapldajodobhaaOcwC
namespace Go.Proofs.Ytfapldajodobhaa
set_option linter.unusedVariables false
set_option linter.unusedSimpArgs false
open Go.RowKit

/-- Blocks of cells of a type, from a base on, lie as they lay. -/
def Keeps (base : Nat) (t : TypeId) (W W' : World) : Prop := ∀ g c, base ≤ g → W.heap[g]? = some (.cells c t (0, 0)) → W'.heap[g]? = some (.cells c t (0, 0))
theorem Keeps.trans {base : Nat} {t : TypeId} {A B C : World} (h : Keeps base t A B) (k : Keeps base t B C) : Keeps base t A C := fun g c hg hc => k g c hg (h g c hg hc)
theorem Keeps.base {base b2 : Nat} {t : TypeId} {A B : World} (h : Keeps base t A B) (hb : base ≤ b2) : Keeps b2 t A B := fun g c hg hc => h g c (by omega) hc
theorem heap_lt {W : World} {g : Nat} {o : Obj} (h : W.heap[g]? = some o) : g < W.heap.size := (Array.getElem?_eq_some_iff.1 h).1
theorem keeps_below {W W' : World} (h : Below W.heap.size W W') (base : Nat) (t : TypeId) : Keeps base t W W' := fun g c _ hc => (h.block g (heap_lt hc)).trans hc
theorem keeps_grown {W W' : World} {row : Option Nat} (hg : W.grownBy W' row) (base : Nat) (t : TypeId) (h : ∀ r c, row = some r → base ≤ r → W.heap[r]? = some (.cells c t (0, 0)) → False) : Keeps base t W W' := fun g c hb hc =>
  (hg.block g (heap_lt hc) (fun e => h g c e.symm hb hc)).trans hc
theorem keeps_set {W : World} {b : Nat} {v : Value} {base : Nat} (t : TypeId) (hb : b < base) : Keeps base t W (W.setCell ⟨b, 0, none⟩ v) := fun g c hg hc =>
  (Below.heap_setCell W _ v g (by show g ≠ b; omega)).trans hc

/-- A row of bytes of the call's own, all cells of it bytes. -/
def BFull (w : World) (base : Nat) (v : Value) (L : List UInt8) : Prop := BOwns w base v L ∧ AllBytes w v
theorem BFull.keeps {W W' : World} {base : Nat} {v : Value} {L : List UInt8} (h : BFull W base v L) (hk : Keeps base 5 W W') : BFull W' base v L := by
  obtain ⟨⟨h1, h⟩, h2⟩ := h
  rcases h with h | ⟨g, cap, cur, rfl, hg, hc, h4, h5, h6, h7⟩
  · obtain ⟨rfl, h0⟩ := h
    exact ⟨⟨h1, .inl ⟨rfl, h0⟩⟩, allbytes_nil _⟩
  · have hc' := hk g cur hg hc
    refine ⟨⟨h1, .inr ⟨g, cap, cur, rfl, hg, hc', h4, h5, h6, h7⟩⟩, ?_⟩
    intro g' n' cap' hv
    obtain ⟨cur2, hc2, hu⟩ := h2 g' n' cap' hv
    injection hv with e1 _ _
    injection e1 with e1
    injection e1 with e1 _ _
    subst e1
    rw [hc] at hc2
    injection hc2 with hc2
    injection hc2 with hc2 _ _
    subst hc2
    exact ⟨cur, hc', hu⟩
theorem BFull.base {w : World} {base base' : Nat} {v : Value} {L : List UInt8} (h : BFull w base v L) (hb : base' ≤ base) : BFull w base' v L := ⟨h.1.base hb, h.2⟩
theorem BFull.block {w : World} {base : Nat} {v : Value} {L : List UInt8} (h : BFull w base v L) : ∀ k, v.ownBlock = some k → base ≤ k ∧ k < w.heap.size ∧ ∃ c, w.heap[k]? = some (.cells c 5 (0, 0)) := by
  obtain ⟨⟨_, h⟩, _⟩ := h
  intro k hk
  rcases h with ⟨rfl, _⟩ | ⟨g, cap, cur, rfl, hg, hc, _⟩
  · simp [Value.ownBlock] at hk
  · simp [Value.ownBlock] at hk
    subst hk
    exact ⟨hg, heap_lt hc, cur, hc⟩

/-- A row of rows of the call's own. -/
structure LOwns (w : World) (base : Nat) (v : Value) (ps : List (Value × List UInt8)) : Prop where
  row : w.ownsRow base 22 1 v ps.length (ps.map (·.1))
  each : ∀ p ∈ ps, BFull w base p.1 p.2
  apart : ps.Pairwise fun p q => ∀ k, p.1.ownBlock = some k → q.1.ownBlock ≠ some k
theorem lowns_nil (w : World) (base : Nat) : LOwns w base (.slice none 0 0) [] := ⟨⟨rfl, .inl ⟨rfl, rfl⟩⟩, (fun p hp => by cases hp), List.Pairwise.nil⟩
theorem ownsRow_keeps {W W' : World} {base : Nat} {e : TypeId} {v : Value} {k : Nat} {xs : List Value} (h : W.ownsRow base e 1 v k xs) (hk : Keeps base e W W') : W'.ownsRow base e 1 v k xs := by
  obtain ⟨h1, h⟩ := h
  refine ⟨h1, ?_⟩
  rcases h with h | ⟨g, cap, cur, hv, hg, hc, h4, h5, h6, h7⟩
  · exact .inl h
  · exact .inr ⟨g, cap, cur, hv, hg, hk g cur hg hc, h4, h5, h6, h7⟩
theorem ownsRow_base {W : World} {base base' : Nat} {e : TypeId} {v : Value} {k : Nat} {xs : List Value} (h : W.ownsRow base e 1 v k xs) (hb : base' ≤ base) : W.ownsRow base' e 1 v k xs := by
  obtain ⟨h1, h⟩ := h
  refine ⟨h1, ?_⟩
  rcases h with h | ⟨g, cap, cur, hv, hg, hc, h4, h5, h6, h7⟩
  · exact .inl h
  · exact .inr ⟨g, cap, cur, hv, by omega, hc, h4, h5, h6, h7⟩
theorem ownsRow_block {W : World} {base : Nat} {e : TypeId} {v : Value} {k : Nat} {xs : List Value} (h : W.ownsRow base e 1 v k xs) : ∀ j, v.ownBlock = some j → base ≤ j ∧ ∃ c, W.heap[j]? = some (.cells c e (0, 0)) := by
  obtain ⟨_, h⟩ := h
  intro j hj
  rcases h with ⟨rfl, _⟩ | ⟨g, cap, cur, rfl, hg, hc, _⟩
  · simp [Value.ownBlock] at hj
  · simp [Value.ownBlock] at hj
    subst hj
    exact ⟨hg, cur, hc⟩
theorem LOwns.keeps {W W' : World} {base : Nat} {v : Value} {ps : List (Value × List UInt8)} (h : LOwns W base v ps) (h1 : Keeps base 22 W W') (h2 : Keeps base 5 W W') : LOwns W' base v ps :=
  ⟨ownsRow_keeps h.row h1, fun p hp => (h.each p hp).keeps h2, h.apart⟩
theorem LOwns.below {W W' : World} {base : Nat} {v : Value} {ps : List (Value × List UInt8)} (h : LOwns W base v ps) (hb : Below W.heap.size W W') : LOwns W' base v ps := h.keeps (keeps_below hb _ _) (keeps_below hb _ _)
theorem LOwns.base {w : World} {base base' : Nat} {v : Value} {ps : List (Value × List UInt8)} (h : LOwns w base v ps) (hb : base' ≤ base) : LOwns w base' v ps :=
  ⟨ownsRow_base h.row hb, fun p hp => (h.each p hp).base hb, h.apart⟩

/-- A slice of slices that reads as lists of bytes. -/
structure LIn (w : World) (a : Option Addr) (len : Nat) (Ls : List (List UInt8)) (cap : Nat) : Prop where
  len_eq : Ls.length = len
  none : a = none → len = 0 ∧ cap = 0
  room : len ≤ cap
  small : len ≤ 1099511627776
  cells : len = 0 ∨ ∃ b off, a = some ⟨b, off, Option.none⟩ ∧ ∀ i L, Ls[i]? = some L → ∃ a' n' c', w.cell? ⟨b, off + i, Option.none⟩ = some (.slice a' n' c') ∧ BIn w a' n' L c'
theorem LIn.below {w w' : World} {a : Option Addr} {len cap : Nat} {Ls : List (List UInt8)} (h : LIn w a len Ls cap) (hb : Below w.heap.size w w') : LIn w' a len Ls cap := by
  obtain ⟨h1, h2, h3, h4, h5⟩ := h
  refine ⟨h1, h2, h3, h4, ?_⟩
  rcases h5 with h5 | ⟨b, off, he, hc⟩
  · exact .inl h5
  · refine .inr ⟨b, off, he, fun i L hi => ?_⟩
    obtain ⟨a', n', c', e, hB⟩ := hc i L hi
    exact ⟨a', n', c', by rw [World.cell?_of_block (hb.block b (World.block_lt_of_cell? _ _ e))]; exact e, hB.below hb⟩
theorem lin_of_owns {w : World} {base : Nat} {v : Value} {ps : List (Value × List UInt8)} (h : LOwns w base v ps) (hl : ps.length ≤ 1099511627776) (hs : ∀ p ∈ ps, p.2.length ≤ 1099511627776) :
    ∃ a cap, v = .slice a ps.length cap ∧ LIn w a ps.length (ps.map (·.2)) cap := by
  obtain ⟨⟨h1, hr⟩, he, _⟩ := h
  rcases hr with ⟨rfl, h0⟩ | ⟨g, cap, cur, rfl, hg, hc, hnc, h5, h6, ht⟩
  · exact ⟨none, 0, by rw [h0], by simp, (fun _ => ⟨h0, rfl⟩), by omega, by omega, .inl h0⟩
  · refine ⟨_, cap, rfl, by simp, (fun h => by cases h), hnc, hl, .inr ⟨g, 0, rfl, fun i L hi => ?_⟩⟩
    rw [List.getElem?_map] at hi
    cases hp : ps[i]? with
    | none => rw [hp] at hi; cases hi
    | some p =>
      rw [hp] at hi
      simp at hi
      subst hi
      have hil := (List.getElem?_eq_some_iff.1 hp).1
      have hmem := List.mem_of_getElem? hp
      obtain ⟨a', c', e, hB⟩ := bin_of_owns (he p hmem).1 (hs p hmem)
      refine ⟨a', p.2.length, c', ?_, hB⟩
      rw [Nat.mul_one] at ht
      have h1 : (cur.toList.take ps.length)[i]? = some p.1 := by rw [ht]; simp [hp]
      rw [List.getElem?_take_of_lt hil] at h1
      simp [World.cell?, hc]
      rw [← e]
      simpa using h1

theorem info_sl : ∃ i, Try.prog.info? 22 = some i ∧ i.zero = some (.slice none 0 0) ∧ i.size = 1 ∧ i.bytes = 24 := by
  have h : (Try.prog.info? 22).map (fun i => (i.zero, i.size, i.bytes)) = some (some (.slice none 0 0), 1, 24) := by kernel_rfl
  cases hi : Try.prog.info? 22 with
  | none => rw [hi] at h; cases h
  | some i =>
    rw [hi] at h
    simp at h
    exact ⟨i, rfl, h.1, h.2.1, h.2.2⟩

/-- What an append of one row to a row of rows leaves. -/
theorem LOwns.snoc {W w4 : World} {base : Nat} {v v' : Value} {ps : List (Value × List UInt8)} {u : Value} {L : List UInt8} (h : LOwns W base v ps) (hu : BFull W base u L) (hlt : ∀ p ∈ ps, ∀ k, p.1.ownBlock = some k → u.ownBlock ≠ some k)
    (hrow : w4.ownsRow base 22 1 v' (ps.length + 1) (ps.map (·.1) ++ [u])) (hk : Keeps base 5 W w4) : LOwns w4 base v' (ps ++ [(u, L)]) := by
  refine ⟨by simpa using hrow, ?_, ?_⟩
  · intro p hp
    rcases List.mem_append.1 hp with hp | hp
    · exact (h.each p hp).keeps hk
    · rw [List.mem_singleton.1 hp]; exact hu.keeps hk
  · rw [List.pairwise_append]
    refine ⟨h.apart, List.pairwise_singleton _ _, ?_⟩
    intro p hp q hq
    rw [List.mem_singleton.1 hq]
    exact hlt p hp
end Go.Proofs.Ytfapldajodobhaa

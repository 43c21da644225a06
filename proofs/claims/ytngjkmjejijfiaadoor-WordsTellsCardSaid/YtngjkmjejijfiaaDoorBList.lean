/- Slices of bytes: what reads as bytes, a row of the call's own, append onto it. -/
import Derived.Test.YtngjkmjejijfiaaDoorPlus
import Derived.Test.YtngjkmjejijfiaaDoorByt
import Derived.Laws.AppendOwn
import Derived.Laws.AppendOwnNone
import Derived.Lib.AppendStr
import Derived.Maps.AppendAt
namespace Go.Proofs.YtngjkmjejijfiaaDoor
set_option linter.unusedVariables false
set_option linter.unusedSimpArgs false
open Go.RowKit

/-- A slice of bytes that reads as 'L'. -/
def BReads (w : World) (a : Option Addr) (len : Nat) (L : List UInt8) : Prop :=
  L.length = len ∧ (len = 0 ∨ ∃ b off, a = some ⟨b, off, none⟩ ∧ ∀ i, i < len → w.cell? ⟨b, off + i, none⟩ = some (.int .u8 (byteAt L i)))

theorem bcells_one (L : List UInt8) : ∀ u ∈ bcells L, u.oneCell' = true := by
  intro u hu
  obtain ⟨z, _, rfl⟩ := List.mem_map.1 hu
  rfl
theorem bcells_get (L : List UInt8) (i : Nat) (h : i < L.length) : (bcells L)[i]? = some (.int .u8 (byteAt L i)) := by
  simp [bcells, byteAt, List.getD_eq_getElem?_getD, h]
theorem bcells_app (xs ys : List UInt8) : bcells xs ++ bcells ys = bcells (xs ++ ys) := by simp [bcells]

theorem info_u8 : ∃ i, Tryd.prog.info? 5 = some i ∧ i.zero = some (.int .u8 0) ∧ i.size = 1 ∧ i.bytes = 1 := by
  have h : (Tryd.prog.info? 5).map (fun i => (i.zero, i.size, i.bytes)) = some (some (.int .u8 0), 1, 1) := by kernel_rfl
  cases hi : Tryd.prog.info? 5 with
  | none => rw [hi] at h; cases h
  | some i =>
    rw [hi] at h
    simp at h
    exact ⟨i, rfl, h.1, h.2.1, h.2.2⟩

/-- A row of bytes of the call's own. -/
def BOwns (w : World) (base : Nat) (v : Value) (L : List UInt8) : Prop := w.ownsRow base 5 1 v L.length (bcells L)

theorem breads_of_owns {w : World} {base : Nat} {v : Value} {L : List UInt8} (h : BOwns w base v L) :
    ∃ a cap, v = .slice a L.length cap ∧ BReads w a L.length L ∧ (a = none → L.length = 0 ∧ cap = 0) := by
  obtain ⟨_, h⟩ := h
  rcases h with ⟨h, h0⟩ | ⟨g, cap, cur, rfl, _, hc, hnc, _, hs, ht⟩
  · exact ⟨none, 0, by rw [h, h0], ⟨rfl, .inl h0⟩, fun _ => ⟨h0, rfl⟩⟩
  · refine ⟨_, cap, rfl, ⟨rfl, .inr ⟨g, 0, rfl, fun i hi => ?_⟩⟩, fun h => by cases h⟩
    rw [Nat.mul_one] at ht
    have h1 : (cur.toList.take L.length)[i]? = some (.int .u8 (byteAt L i)) := by rw [ht]; exact bcells_get L i hi
    rw [List.getElem?_take_of_lt hi] at h1
    simp [World.cell?, hc]
    simpa using h1

/-- What reads as bytes still does, where nothing below has turned. -/
theorem BReads.below {w w' : World} {a : Option Addr} {len : Nat} {L : List UInt8} (h : BReads w a len L) (hb : Below w.heap.size w w') : BReads w' a len L := by
  obtain ⟨h1, h3⟩ := h
  refine ⟨h1, ?_⟩
  rcases h3 with h3 | ⟨b, off, rfl, hc⟩
  · exact .inl h3
  · by_cases hl : len = 0
    · exact .inl hl
    refine .inr ⟨b, off, rfl, fun i hi => ?_⟩
    have hbs := World.block_lt_of_cell? _ _ (hc i hi)
    rw [World.cell?_of_block (hb.block b hbs)]
    exact hc i hi
theorem BOwns.below {w w' : World} {base : Nat} {v : Value} {L : List UInt8} (h : BOwns w base v L) (hb : Below w.heap.size w w') : BOwns w' base v L := by
  obtain ⟨h1, h⟩ := h
  refine ⟨h1, ?_⟩
  rcases h with h | ⟨g, cap, cur, hv, hg, hc, h4, h5, h6, h7⟩
  · exact .inl h
  · have hgs : g < w.heap.size := by
      by_cases hs : g < w.heap.size
      · exact hs
      · simp [Array.getElem?_eq_none (Nat.le_of_not_lt hs)] at hc
    exact .inr ⟨g, cap, cur, hv, hg, by rw [hb.block g hgs]; exact hc, h4, h5, h6, h7⟩
theorem BOwns.base {w : World} {base base' : Nat} {v : Value} {L : List UInt8} (h : BOwns w base v L) (hb : base' ≤ base) : BOwns w base' v L := by
  obtain ⟨h1, h⟩ := h
  refine ⟨h1, ?_⟩
  rcases h with h | ⟨g, cap, cur, hv, hg, h⟩
  · exact .inl h
  · exact .inr ⟨g, cap, cur, hv, by omega, h⟩

theorem BReads.cells {w : World} {a : Addr} {len : Nat} {L : List UInt8} (h : BReads w (some a) len L) : ∀ j u, (bcells L)[j]? = some u → w.cell? (a.add j) = some u := by
  obtain ⟨h1, h3⟩ := h
  intro j u hu
  have hj : j < L.length := by
    have := (List.getElem?_eq_some_iff.1 hu).1
    rwa [bcells_len] at this
  rw [bcells_get L j hj] at hu
  rcases h3 with h3 | ⟨b, off, he, hc⟩
  · omega
  · injection he with he
    subst he
    rw [← hu, ← hc j (by omega)]
    unfold Addr.add
    by_cases h0 : j = 0
    · subst h0; rfl
    · rw [if_neg h0]

theorem bowns_nil (w : World) (base : Nat) : BOwns w base (.slice none 0 0) [] := ⟨rfl, .inl ⟨rfl, rfl⟩⟩
theorem bowns_empty (w : World) : BOwns (w.alloc (.cells #[] 5)) w.heap.size (.slice (some ⟨w.heap.size, 0, none⟩) 0 0) [] :=
  ⟨rfl, .inr ⟨w.heap.size, 0, #[], rfl, Nat.le_refl _, by show (w.heap.push _)[w.heap.size]? = _; simp, Nat.le_refl _, Nat.zero_le _, rfl, rfl⟩⟩
theorem bowns_one (w : World) (z : UInt8) : BOwns (w.alloc (.cells #[.int .u8 (z.toNat : Int)] 5)) w.heap.size (.slice (some ⟨w.heap.size, 0, none⟩) 1 1) [z] :=
  ⟨rfl, .inr ⟨w.heap.size, 1, #[.int .u8 (z.toNat : Int)], rfl, Nat.le_refl _, by show (w.heap.push _)[w.heap.size]? = _; simp, Nat.le_refl _, by decide, rfl, rfl⟩⟩
theorem breads_one (w : World) (z : UInt8) : BReads (w.alloc (.cells #[.int .u8 (z.toNat : Int)] 5)) (some ⟨w.heap.size, 0, none⟩) 1 [z] := by
  obtain ⟨a, c, he, hr, _⟩ := breads_of_owns (bowns_one w z)
  injection he with e1 e2 e3
  subst e1
  exact hr

/-- 'append(row, xs...)', the row the call's own, xs a slice of bytes that reads as bytes. -/
theorem wpList_bapp {ops : Array Oper} {rest : List Oper} {o : Oper} {a : Act} {w : World} {Q : Exit → Act → World → Prop} (hgd : o.guard = none) (s x : Operand)
    (ho : o.op = .call { callee := .builtin .append, args := #[s, x], argTypes := #[32, 32] }) (base : Nat) (v : Value) (xs : List UInt8) (hs : a.eval s = v) (hown : BOwns w base v xs)
    (A : Option Addr) (len cap : Nat) (ys : List UInt8) (hx : a.eval x = .slice A len cap) (hn : A = none → len = 0 ∧ cap = 0) (hr : BReads w A len ys) (hm : xs.length + len ≤ 17592186044416) (hb : base ≤ w.heap.size)
    (h : ∀ v' w', BOwns w' base v' (xs ++ ys) → w.grownBy w' v.ownBlock → wpList Tryd.prog ops Q rest (a.put o.dst v') w') : wpList Tryd.prog ops Q (o :: rest) a w := by
  obtain ⟨i0, hi0, hz0, hz1, hz2⟩ := info_u8
  rcases A with _ | ad
  · obtain ⟨rfl, rfl⟩ := hn rfl
    obtain rfl : ys = [] := List.eq_nil_of_length_eq_zero hr.1
    refine wpList_append_own_none hgd s x _ ho base 5 i0 1 Tryd.underlying32 hi0 _ xs.length (bcells xs) hs hown hx ?_
    exact h _ _ (by rw [List.append_nil]; exact hown) (World.grownBy.refl w _)
  · refine wpList_append_own _ hgd s x _ ho base 5 i0 _ 1 1 Tryd.underlying32 hi0 hz0 hz1 hz2 rfl (by decide) _ xs.length (bcells xs) hs hown ad len cap (bcells ys) hx
      (by rw [bcells_len, hr.1, Nat.mul_one]) hr.cells (bcells_one ys) (by simp only [maxLen]; omega) (by omega) hb ?_
    intro v' w' hown' hg _
    rw [bcells_app] at hown'
    refine h _ _ ?_ hg
    unfold BOwns
    rw [List.length_append, hr.1]
    exact hown'

theorem BOwns.block {w : World} {base : Nat} {v : Value} {L : List UInt8} (h : BOwns w base v L) : ∀ k, v.ownBlock = some k → base ≤ k := by
  obtain ⟨_, h⟩ := h
  intro k hk
  rcases h with ⟨rfl, _⟩ | ⟨g, cap, cur, rfl, hg, _⟩
  · simp [Value.ownBlock] at hk
  · simp [Value.ownBlock] at hk; omega
end Go.Proofs.YtngjkmjejijfiaaDoor

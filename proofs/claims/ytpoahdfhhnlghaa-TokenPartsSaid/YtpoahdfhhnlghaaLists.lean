/- Slices of ints: what reads as a list, a row of the call's own, append onto it. -/
import Derived.Test.YtpoahdfhhnlghaaPlus
import Derived.Test.YtpoahdfhhnlghaaProg
import Derived.OwnWalk
import Derived.OpenShut
import Derived.Laws.AppendOwn
import Derived.Laws.AppendOwnNone
import Derived.Maps.AppendAt
namespace Go.Proofs.Ytpoahdfhhnlghaa
set_option linter.unusedVariables false
set_option linter.unusedSimpArgs false
open Go.RowKit

/-- A slice of ints that reads as 'zs'. -/
def Reads (w : World) (a : Option Addr) (len : Nat) (zs : List Int) : Prop :=
  zs.length = len ∧ (∀ i, i < len → -9223372036854775808 ≤ zs.getD i 0 ∧ zs.getD i 0 ≤ 9223372036854775807) ∧
  (len = 0 ∨ ∃ b off, a = some ⟨b, off, none⟩ ∧ ∀ i, i < len → w.cell? ⟨b, off + i, none⟩ = some (.int .i64 (zs.getD i 0)))

def ints (zs : List Int) : List Value := zs.map fun z => .int .i64 z
theorem ints_len (zs : List Int) : (ints zs).length = zs.length := by simp [ints]
theorem ints_one (zs : List Int) : ∀ u ∈ ints zs, u.oneCell' = true := by
  intro u hu
  obtain ⟨z, _, rfl⟩ := List.mem_map.1 hu
  rfl
theorem ints_get (zs : List Int) (i : Nat) (h : i < zs.length) : (ints zs)[i]? = some (.int .i64 (zs.getD i 0)) := by
  simp [ints, List.getD_eq_getElem?_getD, h]

theorem info_int : ∃ i, Try.prog.info? 3 = some i ∧ i.zero = some (.int .i64 0) ∧ i.size = 1 ∧ i.bytes = 8 := by
  have h : (Try.prog.info? 3).map (fun i => (i.zero, i.size, i.bytes)) = some (some (.int .i64 0), 1, 8) := by kernel_rfl
  cases hi : Try.prog.info? 3 with
  | none => rw [hi] at h; cases h
  | some i =>
    rw [hi] at h
    simp at h
    exact ⟨i, rfl, h.1, h.2.1, h.2.2⟩

/-- The ints of a list all fit. -/
def Fit64 (zs : List Int) (n : Nat) : Prop := ∀ i, i < n → -9223372036854775808 ≤ zs.getD i 0 ∧ zs.getD i 0 ≤ 9223372036854775807

theorem reads_of_owns {w : World} {base : Nat} {v : Value} {n : Nat} {zs : List Int} (h : w.ownsRow base 3 1 v n (ints zs)) (hb : Fit64 zs n) :
    ∃ a cap, v = .slice a n cap ∧ Reads w a n zs := by
  obtain ⟨hl, h⟩ := h
  rw [ints_len, Nat.mul_one] at hl
  rcases h with ⟨rfl, rfl⟩ | ⟨g, cap, cur, rfl, _, hc, hnc, _, hs, ht⟩
  · exact ⟨none, 0, rfl, hl, hb, .inl rfl⟩
  · refine ⟨_, cap, rfl, hl, hb, .inr ⟨g, 0, rfl, fun i hi => ?_⟩⟩
    rw [Nat.mul_one] at ht
    have h1 : (cur.toList.take n)[i]? = some (.int .i64 (zs.getD i 0)) := by rw [ht]; exact ints_get zs i (by omega)
    rw [List.getElem?_take_of_lt hi] at h1
    simp [World.cell?, hc]
    simpa using h1

/-- What reads as a list still does, where nothing below has turned. -/
theorem Reads.below {w w' : World} {a : Option Addr} {len : Nat} {zs : List Int} (h : Reads w a len zs) (hb : Below w.heap.size w w') : Reads w' a len zs := by
  obtain ⟨h1, h2, h3⟩ := h
  refine ⟨h1, h2, ?_⟩
  rcases h3 with h3 | ⟨b, off, rfl, hc⟩
  · exact .inl h3
  · by_cases hl : len = 0
    · exact .inl hl
    refine .inr ⟨b, off, rfl, fun i hi => ?_⟩
    have hbs := World.block_lt_of_cell? _ _ (hc i hi)
    rw [World.cell?_of_block (hb.block b hbs)]
    exact hc i hi

/-- The cells behind an address, as append asks for them. -/
theorem Reads.cells {w : World} {a : Addr} {len : Nat} {zs : List Int} (h : Reads w (some a) len zs) : ∀ j u, (ints zs)[j]? = some u → w.cell? (a.add j) = some u := by
  obtain ⟨h1, h2, h3⟩ := h
  intro j u hu
  have hj : j < zs.length := by
    have := (List.getElem?_eq_some_iff.1 hu).1
    rwa [ints_len] at this
  rw [ints_get zs j hj] at hu
  rcases h3 with h3 | ⟨b, off, he, hc⟩
  · omega
  · injection he with he
    subst he
    rw [← hu, ← hc j (by omega)]
    unfold Addr.add
    by_cases h0 : j = 0
    · subst h0; rfl
    · rw [if_neg h0]

/-- A slice that came in reads as the list of its elements. -/
theorem reads_arg {w : World} {x : Addr} {len cap : Nat} {zs : List Int} (hl : len ≤ cap) (hz : zs.length = cap) (hc : ∀ i, i < zs.length → w.cell? (x.add i) = some (.int .i64 (zs.getD i 0))) (hb : ∀ n ∈ zs, (Lit.int .i64 n).wf = true) :
    Reads w (some x) len (zs.take len) := by
  have hg : ∀ i, i < len → (zs.take len).getD i 0 = zs.getD i 0 := fun i hi => by simp [List.getD_eq_getElem?_getD, List.getElem?_take_of_lt hi]
  refine ⟨by simp; omega, fun i hi => ?_, ?_⟩
  · rw [hg i hi]
    have hi' : i < zs.length := by omega
    have := bounds_i64 (hb _ (List.getElem_mem hi'))
    simpa [List.getD_eq_getElem?_getD, hi'] using this
  · by_cases h0 : len = 0
    · exact .inl h0
    · obtain ⟨b, off, sp⟩ := x
      have h1 := hc 0 (by omega)
      have hsp : sp = none := by
        cases sp with
        | none => rfl
        | some s => unfold Addr.add World.cell? at h1; simp at h1; split at h1 <;> simp_all
      subst hsp
      refine .inr ⟨b, off, rfl, fun i hi => ?_⟩
      rw [hg i hi, ← hc i (by omega)]
      unfold Addr.add
      by_cases h2 : i = 0
      · subst h2; rfl
      · rw [if_neg h2]
theorem reads_nil (w : World) (a : Option Addr) : Reads w a 0 [] := ⟨rfl, fun i h => absurd h (by omega), .inl rfl⟩

/-- What a copy leaves: a slice that reads as the list, in a world that keeps what was there. -/
def Copied (w : World) (a : Option Addr) (len : Nat) (zs : List Int) (v : Value) (wx : World) : Prop :=
  ∃ a' cap', v = .slice a' len cap' ∧ wx.ownsRow w.heap.size 3 1 v len (ints zs) ∧ Reads wx a len zs ∧ Below w.heap.size w wx

/-- The empty row that '[]int{}' is. -/
theorem owns_empty (w : World) : (w.alloc (.cells #[] 3)).ownsRow w.heap.size 3 1 (.slice (some ⟨w.heap.size, 0, none⟩) 0 0) 0 (ints []) :=
  ⟨rfl, .inr ⟨w.heap.size, 0, #[], rfl, Nat.le_refl _, by show (w.heap.push _)[w.heap.size]? = _; simp, Nat.le_refl _, Nat.zero_le _, rfl, rfl⟩⟩

/-- 'append([]int{}, l...)': a copy. -/
theorem wpList_copy {ops : Array Oper} {rest : List Oper} {o : Oper} {a : Act} {w : World} {Q : Exit → Act → World → Prop} (hgd : o.guard = none) (s x : Operand)
    (ho : o.op = .call { callee := .builtin .append, args := #[s, x], argTypes := #[49, 49] }) (hs : a.eval s = .slice (some ⟨w.heap.size, 0, none⟩) 0 0)
    (A : Option Addr) (len cap : Nat) (zs : List Int) (hx : a.eval x = .slice A len cap) (hn : A = none → len = 0 ∧ cap = 0) (hr : Reads w A len zs) (hm : len ≤ 17592186044416)
    (h : ∀ v' w', Copied w A len zs v' w' → wpList Try.prog ops Q rest (a.put o.dst v') w') : wpList Try.prog ops Q (o :: rest) a (w.alloc (.cells #[] 3)) := by
  obtain ⟨i0, hi0, hz0, hz1, hz2⟩ := info_int
  have hb0 : Below w.heap.size w (w.alloc (.cells #[] 3)) := (Below.refl _ _).alloc (Nat.le_refl _) _
  have hr1 := hr.below hb0
  obtain ⟨hzl, hfit, _⟩ := hr
  rcases A with _ | ad
  · obtain ⟨rfl, rfl⟩ := hn rfl
    obtain rfl : zs = [] := List.eq_nil_of_length_eq_zero hzl
    refine wpList_append_own_none hgd s x _ ho w.heap.size 3 i0 1 Try.underlying49 hi0 _ 0 (ints []) hs (owns_empty w) hx ?_
    exact h _ _ ⟨_, 0, rfl, owns_empty w, reads_nil _ _, hb0⟩
  · refine wpList_append_own _ hgd s x _ ho w.heap.size 3 i0 _ 1 8 Try.underlying49 hi0 hz0 hz1 hz2 rfl (by decide) _ 0 (ints []) hs (owns_empty w) ad len cap (ints zs) hx
      (by rw [ints_len, hzl, Nat.mul_one]) hr1.cells (ints_one zs) (by simp only [maxLen]; omega) (by omega) (by simp) ?_
    intro v' w' hown hg _
    rw [Nat.zero_add] at hown
    obtain ⟨a', cap', rfl, hR⟩ := reads_of_owns (zs := zs) hown hfit
    have hb : Below w.heap.size w w' := hb0.grown hg (by simp) (by intro k hk; simp [Value.ownBlock] at hk; omega)
    refine h _ _ ⟨a', cap', rfl, hown, ?_, hb⟩
    have hr0 : Reads w (some ad) len zs := ⟨hzl, hfit, ‹_›⟩
    exact hr0.below hb

theorem ints_app (xs ys : List Int) : ints xs ++ ints ys = ints (xs ++ ys) := by simp [ints]

/-- 'append(row, xs...)', the row the call's own, xs a slice of ints that reads as a list. -/
theorem wpList_app {ops : Array Oper} {rest : List Oper} {o : Oper} {a : Act} {w : World} {Q : Exit → Act → World → Prop} (hgd : o.guard = none) (s x : Operand)
    (ho : o.op = .call { callee := .builtin .append, args := #[s, x], argTypes := #[49, 49] }) (base : Nat) (v : Value) (n : Nat) (xs : List Int) (hs : a.eval s = v) (hown : w.ownsRow base 3 1 v n (ints xs))
    (A : Option Addr) (len cap : Nat) (zs : List Int) (hx : a.eval x = .slice A len cap) (hn : A = none → len = 0 ∧ cap = 0) (hr : Reads w A len zs) (hm : n + len ≤ 17592186044416) (hb : base ≤ w.heap.size)
    (h : ∀ v' w', w'.ownsRow base 3 1 v' (n + len) (ints (xs ++ zs)) → w.grownBy w' v.ownBlock → wpList Try.prog ops Q rest (a.put o.dst v') w') : wpList Try.prog ops Q (o :: rest) a w := by
  obtain ⟨i0, hi0, hz0, hz1, hz2⟩ := info_int
  rcases A with _ | ad
  · obtain ⟨rfl, rfl⟩ := hn rfl
    obtain rfl : zs = [] := List.eq_nil_of_length_eq_zero hr.1
    refine wpList_append_own_none hgd s x _ ho base 3 i0 1 Try.underlying49 hi0 _ n (ints xs) hs hown hx ?_
    exact h _ _ (by rw [List.append_nil, Nat.add_zero]; exact hown) (World.grownBy.refl w _)
  · refine wpList_append_own _ hgd s x _ ho base 3 i0 _ 1 8 Try.underlying49 hi0 hz0 hz1 hz2 rfl (by decide) _ n (ints xs) hs hown ad len cap (ints zs) hx
      (by rw [ints_len, hr.1, Nat.mul_one]) hr.cells (ints_one zs) (by simp only [maxLen]; omega) (by omega) hb ?_
    intro v' w' hown' hg _
    rw [ints_app] at hown'
    exact h _ _ hown' hg

/-- A slice of one int, written out. -/
theorem owns_one (w : World) (z : Int) : (w.alloc (.cells #[.int .i64 z] 3)).ownsRow w.heap.size 3 1 (.slice (some ⟨w.heap.size, 0, none⟩) 1 1) 1 (ints [z]) :=
  ⟨rfl, .inr ⟨w.heap.size, 1, #[.int .i64 z], rfl, Nat.le_refl _, by show (w.heap.push _)[w.heap.size]? = _; simp, Nat.le_refl _, by decide, rfl, rfl⟩⟩
theorem reads_one (w : World) (z : Int) (h0 : -9223372036854775808 ≤ z) (h1 : z ≤ 9223372036854775807) : Reads (w.alloc (.cells #[.int .i64 z] 3)) (some ⟨w.heap.size, 0, none⟩) 1 [z] := by
  obtain ⟨a, c, he, hr⟩ := reads_of_owns (owns_one w z) (fun i hi => by
    obtain rfl : i = 0 := by omega
    exact ⟨h0, h1⟩)
  injection he with e1 e2 e3
  subst e1
  exact hr
end Go.Proofs.Ytpoahdfhhnlghaa

/- Slices of tokens: what reads as a list, a row of the call's own, append onto it. -/
import Derived.Test.YtpoahdfhhnlghaaTkC
import Derived.Laws.AppendOwn
import Derived.Laws.AppendOwnNone
import Derived.Maps.AppendAt
namespace Go.Proofs.Ytpoahdfhhnlghaa
set_option linter.unusedVariables false
set_option linter.unusedSimpArgs false
open Go.RowKit

def tkZ : Tk := (0, [])
def tcells : List Tk → List Value
  | [] => []
  | t :: K => .int .i64 t.1 :: .string ⟨t.2.toArray⟩ :: tcells K
theorem tcells_len : ∀ K : List Tk, (tcells K).length = K.length * 2
  | [] => rfl
  | p :: K => by simp [tcells, tcells_len K]; omega
theorem tcells_one : ∀ (K : List Tk) (u : Value), u ∈ tcells K → u.oneCell' = true
  | [], u, h => by cases h
  | p :: K, u, h => by
    unfold tcells at h
    rcases List.mem_cons.1 h with rfl | h
    · rfl
    · rcases List.mem_cons.1 h with rfl | h
      · rfl
      · exact tcells_one K u h
theorem tcells_at : ∀ (K : List Tk) (i : Nat), i < K.length → (tcells K)[i * 2]? = some (.int .i64 (K.getD i tkZ).1) ∧ (tcells K)[i * 2 + 1]? = some (.string ⟨(K.getD i tkZ).2.toArray⟩)
  | [], i, h => by cases h
  | p :: K, 0, h => by simp [tcells]
  | p :: K, i + 1, h => by
    have := tcells_at K i (by simpa using h)
    rw [show (i + 1) * 2 = i * 2 + 1 + 1 by omega]
    simpa [tcells] using this
theorem tcells_app : ∀ (K M : List Tk), tcells (K ++ M) = tcells K ++ tcells M
  | [], M => rfl
  | p :: K, M => by simp [tcells, tcells_app K M]
theorem info_tk : ∃ i, Try.prog.info? 31 = some i ∧ i.zero = some (.agg #[.int .i64 0, .string ⟨#[]⟩]) ∧ i.size = 2 ∧ i.bytes = 24 := by
  have h : (Try.prog.info? 31).map (fun i => (i.zero, i.size, i.bytes)) = some (some (.agg #[.int .i64 0, .string ⟨#[]⟩]), 2, 24) := by kernel_rfl
  cases hi : Try.prog.info? 31 with
  | none => rw [hi] at h; cases h
  | some i =>
    rw [hi] at h
    simp at h
    exact ⟨i, rfl, h.1, h.2.1, h.2.2⟩
/-- A slice of tokens that reads as a list. -/
def TReads (w : World) (a : Option Addr) (len : Nat) (K : List Tk) : Prop :=
  K.length = len ∧ (len = 0 ∨ ∃ b off, a = some ⟨b, off, none⟩ ∧ ∀ i, i < len → w.cell? ⟨b, off + i * 2, none⟩ = some (.int .i64 (K.getD i tkZ).1) ∧ w.cell? ⟨b, off + i * 2 + 1, none⟩ = some (.string ⟨(K.getD i tkZ).2.toArray⟩))
/-- A row of tokens of the call's own. -/
def TOwns (w : World) (base : Nat) (v : Value) (K : List Tk) : Prop := w.ownsRow base 31 2 v K.length (tcells K)
theorem treads_of_owns {w : World} {base : Nat} {v : Value} {K : List Tk} (h : TOwns w base v K) : ∃ a cap, v = .slice a K.length cap ∧ TReads w a K.length K ∧ (a = none → K.length = 0 ∧ cap = 0) := by
  obtain ⟨hl, h⟩ := h
  rcases h with ⟨rfl, h0⟩ | ⟨g, cap, cur, rfl, _, hc, hnc, _, hs, ht⟩
  · exact ⟨none, 0, by rw [h0], ⟨rfl, .inl h0⟩, fun _ => ⟨h0, rfl⟩⟩
  · refine ⟨_, cap, rfl, ⟨rfl, .inr ⟨g, 0, rfl, fun i hi => ?_⟩⟩, (fun h => nomatch h)⟩
    obtain ⟨h1, h2⟩ := tcells_at K i (by omega)
    rw [← ht] at h1 h2
    rw [List.getElem?_take_of_lt (by omega)] at h1 h2
    have e : ∀ k v, cur.toList[k]? = some v → w.cell? ⟨g, 0 + k, none⟩ = some v := by
      intro k v hk
      simp [World.cell?, hc]
      simpa using hk
    exact ⟨e _ _ h1, by rw [Nat.add_assoc]; exact e _ _ h2⟩
theorem TReads.below {w w' : World} {a : Option Addr} {len : Nat} {K : List Tk} (h : TReads w a len K) (hb : Below w.heap.size w w') : TReads w' a len K := by
  obtain ⟨h1, h3⟩ := h
  refine ⟨h1, ?_⟩
  rcases h3 with h3 | ⟨b, off, rfl, hc⟩
  · exact .inl h3
  · by_cases hl : len = 0
    · exact .inl hl
    refine .inr ⟨b, off, rfl, fun i hi => ?_⟩
    obtain ⟨c1, c2⟩ := hc i hi
    have hbs : b < w.heap.size := World.block_lt_of_cell? _ _ c1
    exact ⟨(World.cell?_of_block (hb.block b hbs)).trans c1, (World.cell?_of_block (hb.block b hbs)).trans c2⟩
theorem TReads.cells {w : World} {a : Addr} {len : Nat} {K : List Tk} (h : TReads w (some a) len K) : ∀ j u, (tcells K)[j]? = some u → w.cell? (a.add j) = some u := by
  obtain ⟨h1, h3⟩ := h
  intro j u hu
  have hj : j < K.length * 2 := by
    have := (List.getElem?_eq_some_iff.1 hu).1
    rwa [tcells_len] at this
  rcases h3 with h3 | ⟨b, off, he, hc⟩
  · omega
  · injection he with he
    subst he
    have ha : (⟨b, off, none⟩ : Addr).add j = ⟨b, off + j, none⟩ := by unfold Addr.add; split <;> simp_all
    rw [ha]
    obtain ⟨i, hi⟩ : ∃ i, j = i * 2 ∨ j = i * 2 + 1 := ⟨j / 2, by omega⟩
    rcases hi with rfl | rfl
    · obtain ⟨g1, _⟩ := hc i (by omega)
      rw [(tcells_at K i (by omega)).1] at hu
      rw [g1]; exact hu
    · obtain ⟨_, g2⟩ := hc i (by omega)
      rw [(tcells_at K i (by omega)).2] at hu
      rw [← Nat.add_assoc, g2]; exact hu
theorem TOwns.below {w w' : World} {base : Nat} {v : Value} {K : List Tk} (h : TOwns w base v K) (hb : Below w.heap.size w w') : TOwns w' base v K := by
  obtain ⟨h1, h⟩ := h
  refine ⟨h1, ?_⟩
  rcases h with h | ⟨g, cap, cur, hv, hg, hc, h4⟩
  · exact .inl h
  · exact .inr ⟨g, cap, cur, hv, hg, (hb.block g (Array.getElem?_eq_some_iff.1 hc).1).trans hc, h4⟩
theorem TOwns.base {w : World} {base base' : Nat} {v : Value} {K : List Tk} (h : TOwns w base v K) (hb : base' ≤ base) : TOwns w base' v K := by
  obtain ⟨h1, h⟩ := h
  refine ⟨h1, ?_⟩
  rcases h with h | ⟨g, cap, cur, hv, hg, h⟩
  · exact .inl h
  · exact .inr ⟨g, cap, cur, hv, by omega, h⟩
theorem TOwns.block {w : World} {base : Nat} {v : Value} {K : List Tk} (h : TOwns w base v K) : ∀ k, v.ownBlock = some k → base ≤ k := by
  obtain ⟨_, h⟩ := h
  intro k hk
  rcases h with ⟨rfl, _⟩ | ⟨g, cap, cur, rfl, hg, _⟩
  · simp [Value.ownBlock] at hk
  · simp [Value.ownBlock] at hk; omega
theorem towns_nil (w : World) (base : Nat) : TOwns w base (.slice none 0 0) [] := ⟨rfl, .inl ⟨rfl, rfl⟩⟩
theorem towns_empty (w : World) : TOwns (w.alloc (.cells #[] 31)) w.heap.size (.slice (some ⟨w.heap.size, 0, none⟩) 0 0) [] :=
  ⟨rfl, .inr ⟨w.heap.size, 0, #[], rfl, Nat.le_refl _, by show (w.heap.push _)[w.heap.size]? = _; simp, Nat.le_refl _, Nat.zero_le _, rfl, rfl⟩⟩
theorem towns_full (w : World) (K : List Tk) (hk : K.length ≤ 1000) : TOwns (w.alloc (.cells (tcells K).toArray 31)) w.heap.size (.slice (some ⟨w.heap.size, 0, none⟩) K.length K.length) K :=
  ⟨by rw [tcells_len], .inr ⟨w.heap.size, K.length, (tcells K).toArray, rfl, Nat.le_refl _, by show (w.heap.push _)[w.heap.size]? = _; simp, Nat.le_refl _, (by simp only [maxLen]; omega), by simp [tcells_len], by rw [← tcells_len K]; simp⟩⟩
theorem treads_full (w : World) (K : List Tk) (hk : K.length ≤ 1000) : TReads (w.alloc (.cells (tcells K).toArray 31)) (some ⟨w.heap.size, 0, none⟩) K.length K := by
  obtain ⟨a, cap, he, hr, _⟩ := treads_of_owns (towns_full w K hk)
  injection he with e1 e2 e3
  subst e1
  exact hr
theorem treads_one (w : World) (k : Int) (L : List UInt8) : TReads (w.alloc (.cells #[.int .i64 k, .string ⟨L.toArray⟩] 31)) (some ⟨w.heap.size, 0, none⟩) 1 [(k, L)] := treads_full w [(k, L)] (by simp)
theorem treads_at (w : World) (n : Nat) (hn : n = w.heap.size) (k : Int) (L : List UInt8) : TReads (w.alloc (.cells #[.int .i64 k, .string ⟨L.toArray⟩] 31)) (some ⟨n, 0, none⟩) 1 [(k, L)] := by subst hn; exact treads_one w k L
/-- 'append(row, xs...)', the row the call's own, xs a slice of tokens that reads as a list. -/
theorem wpList_tapp {ops : Array Oper} {rest : List Oper} {o : Oper} {a : Act} {w : World} {Q : Exit → Act → World → Prop} (hgd : o.guard = none) (s x : Operand)
    (ho : o.op = .call { callee := .builtin .append, args := #[s, x], argTypes := #[22, 22] }) (base : Nat) (v : Value) (K : List Tk) (hs : a.eval s = v) (hown : TOwns w base v K)
    (A : Option Addr) (len cap : Nat) (M : List Tk) (hx : a.eval x = .slice A len cap) (hn : A = none → len = 0 ∧ cap = 0) (hr : TReads w A len M) (hm : K.length + len ≤ 1000000) (hb : base ≤ w.heap.size)
    (h : ∀ v' w', TOwns w' base v' (K ++ M) → w.grownBy w' v.ownBlock → wpList Try.prog ops Q rest (a.put o.dst v') w') : wpList Try.prog ops Q (o :: rest) a w := by
  obtain ⟨i0, hi0, hz0, hz1, hz2⟩ := info_tk
  rcases A with _ | ad
  · obtain ⟨rfl, rfl⟩ := hn rfl
    obtain rfl : M = [] := List.eq_nil_of_length_eq_zero hr.1
    refine wpList_append_own_none hgd s x _ ho base 31 i0 2 Try.underlying22 hi0 _ K.length (tcells K) hs hown hx ?_
    exact h _ _ (by rw [List.append_nil]; exact hown) (World.grownBy.refl w _)
  · refine wpList_append_own _ hgd s x _ ho base 31 i0 _ 2 24 Try.underlying22 hi0 hz0 hz1 hz2 rfl (by decide) _ K.length (tcells K) hs hown ad len cap (tcells M) hx
      (by rw [tcells_len, hr.1]) hr.cells (tcells_one M) (by simp only [maxLen]; omega) (by omega) hb ?_
    intro v' w' hown' hg _
    rw [← tcells_app] at hown'
    refine h _ _ ?_ hg
    unfold TOwns
    rw [List.length_append, hr.1]
    exact hown'
end Go.Proofs.Ytpoahdfhhnlghaa

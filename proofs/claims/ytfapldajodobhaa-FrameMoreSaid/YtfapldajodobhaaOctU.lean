/- Contract of apportionref05's GetList. -/
import Derived.Test.YtfapldajodobhaaOctT
namespace Go.Proofs.Ytfapldajodobhaa
set_option linter.unusedVariables false
set_option linter.unusedSimpArgs false
open Go.RowKit

/-- A call tells a list in memory of its own, a place and a fault. -/
def ListRes (w : World) (r : List Int × Int × Int × Int) (e : Ending) (w' : World) : Prop :=
  ∃ v, e = .returned (.tuple #[v, .int .i64 r.2.1, .agg #[.int .i64 r.2.2.1, .int .i64 r.2.2.2]]) ∧ w'.ownsRow w.heap.size 3 1 v r.1.length (ints r.1) ∧ Junk w w'

theorem owns_nil (w : World) (base : Nat) : w.ownsRow base 3 1 (.slice none 0 0) 0 (ints []) := ⟨rfl, .inl ⟨rfl, rfl⟩⟩

theorem owns_below {w w' : World} {base n : Nat} {v : Value} {zs : List Int} (h : w.ownsRow base 3 1 v n (ints zs)) (hb : Below w.heap.size w w') : w'.ownsRow base 3 1 v n (ints zs) := by
  obtain ⟨h1, h⟩ := h
  refine ⟨h1, ?_⟩
  rcases h with h | ⟨g, cap, cur, hv, hg, hc, h4, h5, h6, h7⟩
  · exact .inl h
  · have hgs : g < w.heap.size := by
      by_cases hs : g < w.heap.size
      · exact hs
      · simp [Array.getElem?_eq_none (Nat.le_of_not_lt hs)] at hc
    exact .inr ⟨g, cap, cur, hv, hg, by rw [hb.block g hgs]; exact hc, h4, h5, h6, h7⟩
theorem owns_base {w : World} {base base' n : Nat} {v : Value} {zs : List Int} (h : w.ownsRow base 3 1 v n (ints zs)) (hb : base' ≤ base) : w.ownsRow base' 3 1 v n (ints zs) := by
  obtain ⟨h1, h⟩ := h
  refine ⟨h1, ?_⟩
  rcases h with h | ⟨g, cap, cur, hv, hg, h⟩
  · exact .inl h
  · exact .inr ⟨g, cap, cur, hv, by omega, h⟩
theorem owns_block {w : World} {base n : Nat} {v : Value} {zs : List Int} (h : w.ownsRow base 3 1 v n (ints zs)) : ∀ k, v.ownBlock = some k → base ≤ k := by
  obtain ⟨_, h⟩ := h
  intro k hk
  rcases h with ⟨rfl, _⟩ | ⟨g, cap, cur, rfl, hg, _⟩
  · simp [Value.ownBlock] at hk
  · simp [Value.ownBlock] at hk; omega
theorem reads_one_at (W : World) (z : Int) (h0 : -9223372036854775808 ≤ z) (h1 : z ≤ 9223372036854775807) (g : Nat) (hg : g = W.heap.size) : Reads (W.alloc (.cells #[.int .i64 z] 3)) (some ⟨g, 0, none⟩) 1 [z] := by
  subst hg; exact reads_one W z h0 h1

/-- GetList's loop: so many are read; the rest is what is told. -/
def LAt (w0 : World) (L : List UInt8) (N : Nat) (r : List Int × Int × Int × Int) (nx o i : Value) (wr : World) : Prop :=
  ∃ (k : Nat) (q : Int) (acc : List Int), nx = .int .i64 q ∧ i = .int .i64 (k : Int) ∧ k ≤ N ∧ acc.length = k ∧ (k : Int) ≤ q ∧ 0 ≤ q ∧ q ≤ L.length ∧ listS L (N - k) q acc = r ∧ wr.ownsRow w0.heap.size 3 1 o k (ints acc) ∧ Junk w0 wr

end Go.Proofs.Ytfapldajodobhaa

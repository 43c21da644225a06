/- The law OctetReader: a reader of any bytes answers any calls as the document says. -/
import Derived.Test.YtabjhmblfeoiaaaOcuO
import Derived.Test.YtabjhmblfeoiaaaOcuR
namespace Go.Proofs.Ytabjhmblfeoiaaa
set_option linter.unusedVariables false
set_option linter.unusedSimpArgs false
open Go.RowKit

/-- What a reader is asked, one by one. -/
structure ActsAt (w : World) (a : Option Addr) (len : Nat) (K0 K1 K2 : Nat → Int) : Prop where
  small : ∀ i, i < len → I64 (K0 i) ∧ I64 (K1 i) ∧ I64 (K2 i)
  cells : len = 0 ∨ ∃ b off, a = some ⟨b, off, none⟩ ∧ ∀ i, i < len → w.cell? ⟨b, off + i * 3, none⟩ = some (.int .i64 (K0 i)) ∧ w.cell? ⟨b, off + i * 3 + 1, none⟩ = some (.int .i64 (K1 i)) ∧ w.cell? ⟨b, off + i * 3 + 2, none⟩ = some (.int .i64 (K2 i))

/-- Both readers, where they stand. -/
structure Both (w2 : World) (a2 : Option Addr) (cap2 : Nat) (a : Option Addr) (cap len : Nat) (x y : Int × Int × Int) (W : World) : Prop where
  below : Below w2.heap.size w2 W
  size : w2.heap.size + 1 < W.heap.size
  one : W.rowAt w2.heap.size = some (ocells w2.heap.size a2 len cap2 x.1 x.2.1 x.2.2)
  two : W.rowAt (w2.heap.size + 1) = some (rcells a len cap y.1 y.2.1 y.2.2)
theorem Both.toBelow {w2 : World} {a2 a : Option Addr} {cap2 cap len : Nat} {x y : Int × Int × Int} {W : World} (h : Both w2 a2 cap2 a cap len x y W) : Below w2.heap.size w2 W := h.below
theorem Both.junk {w2 : World} {a2 a : Option Addr} {cap2 cap len : Nat} {x y : Int × Int × Int} {W W' : World} (h : Both w2 a2 cap2 a cap len x y W) (hj : Below W.heap.size W W') : Both w2 a2 cap2 a cap len x y W' :=
  ⟨h.below.trans (hj.mono h.below.size), Nat.lt_of_lt_of_le h.size hj.size, by rw [rowAt_of_block (hj.block _ (by have := h.size; omega))]; exact h.one, by rw [rowAt_of_block (hj.block _ h.size)]; exact h.two⟩
theorem Both.turn1 {w2 : World} {a2 a : Option Addr} {cap2 cap len : Nat} {x y x' : Int × Int × Int} {W W' : World} (h : Both w2 a2 cap2 a cap len x y W) (ht : Turned w2.heap.size (ocells w2.heap.size a2 len cap2 x'.1 x'.2.1 x'.2.2) W W') : Both w2 a2 cap2 a cap len x' y W' := by
  have hb := ht.below (by have := h.size; omega)
  refine ⟨h.below.trans hb, Nat.lt_of_lt_of_le h.size hb.size, ht.row h.one, ?_⟩
  obtain ⟨J, d, rfl⟩ := ht
  rw [rowAt_plus _ _ _ _ (by simpa using h.size), rowAt_setRow_other (by omega)]
  exact h.two
theorem Both.turn2 {w2 : World} {a2 a : Option Addr} {cap2 cap len : Nat} {x y y' : Int × Int × Int} {W W' : World} (h : Both w2 a2 cap2 a cap len x y W) (ht : Turned (w2.heap.size + 1) (rcells a len cap y'.1 y'.2.1 y'.2.2) W W') : Both w2 a2 cap2 a cap len x y' W' := by
  have hb := ht.below (by have := h.size; omega)
  refine ⟨h.below.trans (hb.mono (by omega)), Nat.lt_of_lt_of_le h.size hb.size, ?_, ht.row h.two⟩
  rw [rowAt_of_block (hb.block _ (by omega))]
  exact h.one

/-- What the readers stand at behind a call. -/
def nextN (g : Int × Int × Int × Int) (x : Int × Int × Int) : Int × Int × Int := (numR g x.1 x.2.1 x.2.2).2
def nextT (g : List UInt8 × Int × Int × Int) (x : Int × Int × Int) : Int × Int × Int := (txtR g x.1 x.2.1 x.2.2).2

/-- The places that a reader can stand at. -/
def PlaceOk (L : List UInt8) (x : Int × Int × Int) : Prop := 0 ≤ x.1 ∧ x.1 ≤ L.length
theorem get_place {L : List UInt8} {p : Int} (h : (getP L p).2.2.1 = 0) : 0 ≤ (getP L p).2.1 ∧ (getP L p).2.1 ≤ L.length := by
  generalize hg : getP L p = g at *
  obtain ⟨n, q, e, a⟩ := g
  obtain rfl : e = 0 := h
  obtain ⟨_, _, i, k, _, h2, h3, _⟩ := get_canon hg
  constructor <;> simp <;> omega
theorem place_chk {L : List UInt8} {chk : Int → Int} {x : Int × Int × Int} (h : PlaceOk L x) : PlaceOk L (nextN (chkP chk L x.1) x) := by
  unfold nextN numR
  by_cases c1 : x.2.1 ≠ 0
  · rw [if_pos c1]; exact h
  · rw [if_neg c1]
    by_cases c2 : (chkP chk L x.1).2.2.1 ≠ 0
    · rw [if_pos c2]; exact h
    · rw [if_neg c2]
      unfold chkP at c2 ⊢
      by_cases c3 : (getP L x.1).2.2.1 ≠ 0
      · rw [if_pos c3] at c2; exact absurd c3 c2
      · rw [if_neg c3] at c2 ⊢
        by_cases c4 : chk (getP L x.1).1 ≠ 0
        · rw [if_pos c4] at c2; exact absurd c4 c2
        · rw [if_neg c4]; exact get_place (Decidable.of_not_not c3)
theorem place_txt {L : List UInt8} {most : Int} {x : Int × Int × Int} (h : PlaceOk L x) : PlaceOk L (nextT (textP L x.1 most) x) := by
  unfold nextT txtR
  by_cases c1 : x.2.1 ≠ 0
  · rw [if_pos c1]; exact h
  · rw [if_neg c1]
    by_cases c2 : (textP L x.1 most).2.2.1 ≠ 0
    · rw [if_pos c2]; exact h
    · rw [if_neg c2]
      generalize hg : textP L x.1 most = g at *
      obtain ⟨t, q, e, f⟩ := g
      obtain rfl : e = 0 := Decidable.of_not_not c2
      obtain ⟨_, _, i, k, _, h2, h3, _⟩ := text_canon hg
      constructor <;> simp <;> omega
end Go.Proofs.Ytabjhmblfeoiaaa

/- Contracts of apportionref05's length, GetText. -/
import Derived.Test.YtfapldajodobhaaOctG
import Derived.Test.YtfapldajodobhaaOctH
import Derived.Laws.BytesArg
import Derived.Laws.IdiomStrings
namespace Go.Proofs.Ytfapldajodobhaa
set_option linter.unusedVariables false
set_option linter.unusedSimpArgs false
open Go.RowKit

/-- Bytes that a slice in memory reads as, and no more room than fits. -/
structure BIn (w : World) (a : Option Addr) (len : Nat) (L : List UInt8) (cap : Nat) : Prop where
  reads : BReads w a len L
  none : a = none → len = 0 ∧ cap = 0
  small : len ≤ 1099511627776
  room : len ≤ cap
theorem BIn.below {w w' : World} {a : Option Addr} {len cap : Nat} {L : List UInt8} (h : BIn w a len L cap) (hb : Below w.heap.size w w') : BIn w' a len L cap := ⟨h.reads.below hb, h.none, h.small, h.room⟩

/-- What the length of what follows is, where there is no fault. -/
theorem len_fits {L : List UInt8} {p most : Int} (h : (lenP L p most).2.2.1 = 0) : 0 ≤ (lenP L p most).1 ∧ (lenP L p most).1 ≤ most ∧ 0 ≤ (lenP L p most).2.1 ∧ (lenP L p most).2.1 ≤ L.length := by
  generalize hg : lenP L p most = g at *
  obtain ⟨n, q, e, a⟩ := g
  simp only at h
  subst h
  obtain ⟨_, h0, h1, i, k, rfl, rfl, h3, _⟩ := len_canon hg
  exact ⟨h0, h1, by simp; omega, by simp; omega⟩

/-- A part of bytes as a text. -/
theorem conv_part {w : World} {a : Option Addr} {len : Nat} {L : List UInt8} (h : BReads w a len L) (i n cap : Nat) (hi : i + n ≤ len) (hn : 0 < n) (b off : Nat) (ha : a = some ⟨b, off, none⟩) :
    (convert 22 9 (.slice (some ⟨b, off + i, none⟩) n cap)).run Try.prog w = .ok (.string ⟨((L.drop i).take n).toArray⟩) w := by
  obtain ⟨hL, h3⟩ := h
  have hl : ((L.drop i).take n).length = n := by simp; omega
  have := run_convert_bytes_back (P := Try.prog) w 22 9 5 ⟨b, off + i, none⟩ cap ((L.drop i).take n) Try.underlying22 Try.underlying5 Try.underlying9 (fun j hj => by
    have e : (⟨b, off + i, none⟩ : Addr).add j = ⟨b, off + i + j, none⟩ := by unfold Addr.add; split <;> simp_all
    rw [e]
    rcases h3 with h3 | ⟨b', off', he, hc⟩
    · omega
    · rw [ha] at he
      injection he with he; injection he with he1 he2 he3
      subst he1; subst he2
      have hj' : j < n := by omega
      have := hc (i + j) (by omega)
      rw [show off + i + j = off + (i + j) by omega, this]
      congr 2
      unfold byteAt
      have hij : i + j < L.length := by omega
      simp [List.getD_eq_getElem?_getD, List.getElem?_take_of_lt hj', List.getElem?_drop, hij])
  rw [hl] at this
  exact this
end Go.Proofs.Ytfapldajodobhaa

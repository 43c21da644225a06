/- Slices of bytes that come in as arguments. -/
import Derived.Test.YtfapldajodobhaaOctK
namespace Go.Proofs.Ytfapldajodobhaa
set_option linter.unusedVariables false
set_option linter.unusedSimpArgs false
open Go.RowKit

/-- A slice of bytes that came in. -/
structure BArg (w : World) (a : Option Addr) (len cap : Nat) (L : List UInt8) : Prop where
  reads : BReads w a len L
  none : a = none → len = 0 ∧ cap = 0
  room : len ≤ cap
theorem BArg.bin {w : World} {a : Option Addr} {len cap : Nat} {L : List UInt8} (h : BArg w a len cap L) (hs : len ≤ 1099511627776) : BIn w a len L cap := ⟨h.reads, h.none, hs, h.room⟩

theorem wf_u8 {n : Int} (h : (Lit.int .u8 n).wf = true) : 0 ≤ n ∧ n ≤ 255 := by
  have e1 : IntKind.u8.min = 0 := by decide
  have e2 : IntKind.u8.max = 255 := by decide
  simp [Lit.wf] at h
  omega

theorem barg {w : World} {x : Addr} {len cap : Nat} {zs : List Int} (hl : len ≤ cap) (hz : zs.length = cap) (hc : ∀ i, i < zs.length → w.cell? (x.add i) = some (.int .u8 (zs.getD i 0))) (hb : ∀ n ∈ zs, (Lit.int .u8 n).wf = true) :
    BArg w (some x) len cap ((zs.take len).map fun n => UInt8.ofNat n.toNat) := by
  refine ⟨⟨by simp; omega, ?_⟩, fun h => by (cases h), hl⟩
  by_cases h0 : len = 0
  · exact .inl h0
  · obtain ⟨b, off, sp⟩ := x
    have h1 := hc 0 (by omega)
    have hsp : sp = none := by
      cases sp with
      | none => rfl
      | some s => unfold Addr.add World.cell? at h1; simp at h1; split at h1 <;> simp_all
    subst hsp
    refine .inr ⟨b, off, rfl, fun i hi => ?_⟩
    have hi' : i < zs.length := by omega
    have hbd := wf_u8 (hb _ (List.getElem_mem hi'))
    have e : (⟨b, off, none⟩ : Addr).add i = ⟨b, off + i, none⟩ := by unfold Addr.add; split <;> simp_all
    rw [← e, hc i hi']
    congr 2
    unfold byteAt
    have : (List.map (fun n : Int => UInt8.ofNat n.toNat) (List.take len zs)).getD i 0 = UInt8.ofNat (zs[i]).toNat := by
      simp [List.getD_eq_getElem?_getD, List.getElem?_take_of_lt hi, hi']
    rw [this, byte_of (by omega)]
    simp [List.getD_eq_getElem?_getD, hi']
    omega
theorem barg_nil (w : World) : BArg w none 0 0 [] := ⟨⟨rfl, .inl rfl⟩, fun _ => ⟨rfl, rfl⟩, Nat.le_refl _⟩

end Go.Proofs.Ytfapldajodobhaa

/- Slices of slices of bytes that come in as arguments. -/
import Derived.Test.YtfapldajodobhaaFrV
import Derived.Deep.Slices
import Derived.ChangeSlices
namespace Go.Proofs.Ytfapldajodobhaa
set_option linter.unusedVariables false
set_option linter.unusedSimpArgs false
open Go.RowKit Go.ChangeShapes Go.WideShapes Go.ChangeAt

section
variable {H : Type} {enc : TypeId × Value → H} {w : World} {base : Nat} {held : Bool}

theorem lists_open {fuel : Nat} {cs : List Value} {x : DataW H × List MemPlace} (h : DataW.trod enc Try.prog w base (fun _ => true) held fuel 33 cs = some x) :
    cs = [.slice none 0 0] ∨ ∃ (a : Addr) (len cap : Nat) (K : Nat → Option Addr × Nat × Nat × List UInt8), cs = [.slice (some a) len cap] ∧ len ≤ cap ∧
      ∀ i, i < len → w.cell? (a.add i) = some (.slice (K i).1 (K i).2.1 (K i).2.2.1) ∧ BArg w (K i).1 (K i).2.1 (K i).2.2.1 (K i).2.2.2 := by
  rcases Deep.open_slice Try.underlying33 h with ⟨h0, _⟩ | ⟨a, len, cap, m, n, D, Pl, rfl, hb, hl, hm, hmm, rfl, hx⟩
  · exact .inl h0
  right
  have hlm : len ≤ m := by rw [hmm]; split <;> omega
  have each : ∀ i, i < len → ∃ q : Option Addr × Nat × Nat × List UInt8, w.cell? (a.add i) = some (.slice q.1 q.2.1 q.2.2.1) ∧ BArg w q.1 q.2.1 q.2.2.1 q.2.2.2 := by
    intro i hi
    obtain ⟨cs', h1, h2⟩ := hx i (by omega)
    have ce : Try.prog.cellsOf 22 = 1 := by kernel_rfl
    rw [ce] at h1
    obtain ⟨_, hlen, hcell⟩ := World.cells?_some h1
    match cs', hlen with
    | [v0], _ =>
      have e0 := hcell 0 (by omega)
      rw [Deep.add_add] at e0
      simp at e0
      rcases open_ints Try.underlying22 Try.underlying5 (by kernel_rfl) h2 with ⟨hcs, _⟩ | ⟨x, l, c, zs, hcs, _, hl, hm, hz, _, hcell2, hwz⟩
      · simp at hcs
        subst hcs
        exact ⟨(none, 0, 0, []), e0, barg_nil _⟩
      · simp at hcs
        subst hcs
        exact ⟨(some x, l, c, _), e0, barg hl (by simpa using hz) hcell2 hwz⟩
  obtain ⟨K, hK⟩ := Deep.choose_lt each
  exact ⟨a, len, cap, K, rfl, hl, hK⟩
end

theorem larg_nil (w : World) : LArg w none 0 0 [] := ⟨rfl, fun _ => ⟨rfl, rfl⟩, Nat.le_refl _, .inl rfl⟩
theorem larg_at {w : World} {a : Addr} {len cap : Nat} {K : Nat → Option Addr × Nat × Nat × List UInt8} (hl : len ≤ cap)
    (h : ∀ i, i < len → w.cell? (a.add i) = some (.slice (K i).1 (K i).2.1 (K i).2.2.1) ∧ BArg w (K i).1 (K i).2.1 (K i).2.2.1 (K i).2.2.2) : LArg w (some a) len cap ((List.range len).map fun i => (K i).2.2.2) := by
  refine ⟨by simp, (fun h => by cases h), hl, ?_⟩
  by_cases hz : len = 0
  · exact .inl hz
  · obtain ⟨b, off, sp⟩ := a
    have h1 := (h 0 (by omega)).1
    have hsp : sp = none := by
      cases sp with
      | none => rfl
      | some s => unfold Addr.add World.cell? at h1; simp at h1; split at h1 <;> simp_all
    subst hsp
    have ha : ∀ j, (⟨b, off, none⟩ : Addr).add j = ⟨b, off + j, none⟩ := fun j => by unfold Addr.add; split <;> simp_all
    refine .inr ⟨b, off, rfl, fun i L hi => ?_⟩
    have hil := (List.getElem?_eq_some_iff.1 hi).1
    simp at hil
    have := h i hil
    rw [ha] at this
    rw [List.getElem?_map, List.getElem?_range hil] at hi
    simp at hi
    subst hi
    exact ⟨_, _, _, this.1, this.2⟩
end Go.Proofs.Ytfapldajodobhaa

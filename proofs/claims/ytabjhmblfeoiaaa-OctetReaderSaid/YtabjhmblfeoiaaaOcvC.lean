/- The law OctetReader: the slice of calls that comes in. -/
import Derived.Test.YtabjhmblfeoiaaaOcvB
import Derived.Deep.Slices
import Derived.ChangeSame
namespace Go.Proofs.Ytabjhmblfeoiaaa
set_option linter.unusedVariables false
set_option linter.unusedSimpArgs false
open Go.RowKit

section
variable {H : Type} {enc : TypeId × Value → H} {w : World} {base : Nat} {spare : Nat → Bool} {held : Bool}

theorem acts_open {fuel : Nat} {cs : List Value} {x : DataW H × List MemPlace} (h : DataW.trod enc Try.prog w base spare held fuel 44 cs = some x) :
    cs = [.slice none 0 0] ∨ ∃ (a : Addr) (len cap : Nat) (K : Nat → Int × Int × Int), cs = [.slice (some a) len cap] ∧ len ≤ cap ∧
      ∀ i, i < len → (w.cell? (a.add (i * 3)) = some (.int .i64 (K i).1) ∧ w.cell? (a.add (i * 3 + 1)) = some (.int .i64 (K i).2.1) ∧ w.cell? (a.add (i * 3 + 2)) = some (.int .i64 (K i).2.2)) ∧
        (Lit.int .i64 (K i).1).wf = true ∧ (Lit.int .i64 (K i).2.1).wf = true ∧ (Lit.int .i64 (K i).2.2).wf = true := by
  rcases Deep.open_slice Try.underlying44 h with ⟨h0, _⟩ | ⟨a, len, cap, m, n, D, Pl, rfl, hb, hl, hm, hmm, rfl, hx⟩
  · exact .inl h0
  right
  have hlm : len ≤ m := by rw [hmm]; split <;> omega
  have each : ∀ i, i < len → ∃ q : Int × Int × Int, (w.cell? (a.add (i * 3)) = some (.int .i64 q.1) ∧ w.cell? (a.add (i * 3 + 1)) = some (.int .i64 q.2.1) ∧ w.cell? (a.add (i * 3 + 2)) = some (.int .i64 q.2.2)) ∧
      (Lit.int .i64 q.1).wf = true ∧ (Lit.int .i64 q.2.1).wf = true ∧ (Lit.int .i64 q.2.2).wf = true := by
    intro i hi
    obtain ⟨cs', h1, h2⟩ := hx i (by omega)
    have ce : Try.prog.cellsOf 51 = 3 := by kernel_rfl
    have ci : Try.prog.cellsOf 3 = 1 := by kernel_rfl
    rw [ce] at h1
    obtain ⟨_, hlen, hcell⟩ := World.cells?_some h1
    obtain ⟨xs, k, hk, hxy, _, hxl, hf⟩ := DataW.trod_struct Try.underlying51 h2
    match xs, hxl, cs', hlen with
    | [y0, y1, y2], _, [v0, v1, v2], _ =>
      have g0 := hf 0 _ rfl
      have g1 := hf 1 _ rfl
      have g2 := hf 2 _ rfl
      simp [ci] at g0 g1 g2
      have e0 := hcell 0 (by omega)
      have e1 := hcell 1 (by omega)
      have e2 := hcell 2 (by omega)
      rw [Deep.add_add] at e0 e1 e2
      obtain ⟨n0, c0, _, w0⟩ := DataW.trod_int Try.underlying3 g0
      obtain ⟨n1, c1, _, w1⟩ := DataW.trod_int Try.underlying3 g1
      obtain ⟨n2, c2, _, w2⟩ := DataW.trod_int Try.underlying3 g2
      simp at c0 c1 c2
      subst c0; subst c1; subst c2
      exact ⟨(n0, n1, n2), ⟨by simpa using e0, by simpa using e1, by simpa using e2⟩, w0, w1, w2⟩
  obtain ⟨K, hK⟩ := Deep.choose_lt each
  exact ⟨a, len, cap, K, rfl, hl, hK⟩
end

theorem acts_at {w : World} {a : Addr} {len : Nat} {K : Nat → Int × Int × Int}
    (h : ∀ i, i < len → (w.cell? (a.add (i * 3)) = some (.int .i64 (K i).1) ∧ w.cell? (a.add (i * 3 + 1)) = some (.int .i64 (K i).2.1) ∧ w.cell? (a.add (i * 3 + 2)) = some (.int .i64 (K i).2.2)) ∧
        (Lit.int .i64 (K i).1).wf = true ∧ (Lit.int .i64 (K i).2.1).wf = true ∧ (Lit.int .i64 (K i).2.2).wf = true) : ActsAt w (some a) len (fun i => (K i).1) (fun i => (K i).2.1) (fun i => (K i).2.2) := by
  refine ⟨fun i hi => ?_, ?_⟩
  · obtain ⟨_, h0, h1, h2⟩ := h i hi
    exact ⟨bounds_i64 h0, bounds_i64 h1, bounds_i64 h2⟩
  · by_cases hz : len = 0
    · exact .inl hz
    · obtain ⟨b, off, sp⟩ := a
      have h1 := (h 0 (by omega)).1.1
      have hsp : sp = none := by
        cases sp with
        | none => rfl
        | some s => unfold Addr.add World.cell? at h1; simp at h1; split at h1 <;> simp_all
      subst hsp
      have ha : ∀ j, (⟨b, off, none⟩ : Addr).add j = ⟨b, off + j, none⟩ := fun j => by unfold Addr.add; split <;> simp_all
      refine .inr ⟨b, off, rfl, fun i hi => ?_⟩
      have := (h i hi).1
      rw [ha, ha, ha] at this
      exact this
theorem acts_none (w : World) : ActsAt w none 0 (fun _ => 0) (fun _ => 0) (fun _ => 0) := ⟨fun i h => by omega, .inl rfl⟩
end Go.Proofs.Ytabjhmblfeoiaaa

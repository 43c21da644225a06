/- Slices of points that come in as arguments, with their coordinates' bounds. -/
import Derived.Test.YtnpkhhchbahcpaaPtArg
import Derived.Test.YtnpkhhchbahcpaaRgLaw
namespace Go.Proofs.Ytnpkhhchbahcpaa
set_option linter.unusedVariables false
set_option linter.unusedSimpArgs false
open Go.RowKit Go.ChangeShapes Go.WideShapes Go.ChangeAt Go.Joins

/-- Numbers of 64 bits. -/
def In64 (K : List Pt) : Prop := ∀ q ∈ K, (-9223372036854775808 ≤ q.1 ∧ q.1 ≤ 9223372036854775807) ∧ (-9223372036854775808 ≤ q.2 ∧ q.2 ≤ 9223372036854775807)
section
variable {H : Type} {enc : TypeId × Value → H} {w : World} {base : Nat} {spare : Nat → Bool} {held : Bool}
theorem open_pt4 {fuel : Nat} {c0 c1 : Value} {x : DataW H × List MemPlace} (h : DataW.trod enc Try.prog w base spare held fuel 31 [c0, c1] = some x) : ∃ u v, c0 = .int .i64 u ∧ c1 = .int .i64 v ∧ (-9223372036854775808 ≤ u ∧ u ≤ 9223372036854775807) ∧ (-9223372036854775808 ≤ v ∧ v ≤ 9223372036854775807) := by
  obtain ⟨y0, y1, n, _, _, g0, g1⟩ := trod_struct2 Try.underlying31 h
  simp [in_cells] at g0 g1
  obtain ⟨u, e0, _, k0⟩ := DataW.trod_int Try.underlying3 g0
  obtain ⟨v, e1, _, k1⟩ := DataW.trod_int Try.underlying3 g1
  simp at e0 e1
  exact ⟨u, v, e0, e1, bounds_i64 k0, bounds_i64 k1⟩
theorem points_open_b {fuel : Nat} {cs : List Value} {x : DataW H × List MemPlace} (h : DataW.trod enc Try.prog w base spare held fuel 23 cs = some x) :
    ∃ a n c K, cs = [.slice a n c] ∧ PRC w a n c K ∧ In64 K ∧ n ≤ 9223372036854775807 ∧ (a = none → n = 0 ∧ c = 0) := by
  rcases Deep.open_slice Try.underlying23 h with ⟨rfl, _⟩ | ⟨a, len, cap, m, n, D, Pl, rfl, hb, hl, hm, hmm, rfl, hx⟩
  · exact ⟨none, 0, 0, [], rfl, ⟨points_none w, ⟨Nat.le_refl _, fun _ => rfl⟩⟩, (by intro q hq; cases hq), by decide, fun _ => ⟨rfl, rfl⟩⟩
  · have hlm : len ≤ m := by rw [hmm]; split <;> omega
    have each : ∀ i, i < len → ∃ q : Int × Int, (w.cell? (a.add (i * 2)) = some (.int .i64 q.1) ∧ w.cell? (a.add (i * 2 + 1)) = some (.int .i64 q.2)) ∧ (-9223372036854775808 ≤ q.1 ∧ q.1 ≤ 9223372036854775807) ∧ (-9223372036854775808 ≤ q.2 ∧ q.2 ≤ 9223372036854775807) := by
      intro i hi
      obtain ⟨cs', h1, h2⟩ := hx i (by omega)
      rw [pt_cells] at h1
      obtain ⟨_, hlen, hcell⟩ := World.cells?_some h1
      match cs', hlen with
      | [v0, v1], _ =>
        obtain ⟨u, v, rfl, rfl, k0, k1⟩ := open_pt4 h2
        have e0 := hcell 0 (by omega)
        have e1 := hcell 1 (by omega)
        rw [Deep.add_add] at e0 e1
        exact ⟨(u, v), ⟨by simpa using e0, by simpa using e1⟩, k0, k1⟩
    obtain ⟨K, hK⟩ := Deep.choose_lt each
    refine ⟨some a, len, cap, (List.range len).map K, rfl, ⟨points_at fun i hi => (hK i hi).1, ⟨hl, fun e => by cases e⟩⟩, ?_, Nat.le_trans hl (Nat.le_trans hm (by decide)), fun e => by cases e⟩
    intro q hq
    obtain ⟨i, hi, rfl⟩ := List.mem_map.1 hq
    exact (hK i (List.mem_range.1 hi)).2
end
end Go.Proofs.Ytnpkhhchbahcpaa

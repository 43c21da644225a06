/- Points, boxes and slices of points that come in as arguments. -/
import Derived.Test.YthphdiigjimchaaGreatPtOne
import Derived.Deep.Slices
import Derived.ChangeSame
import Derived.ChangeSlices
import Derived.Lib.SmallJoins
import Derived.ProofKit
import Derived.OpenShut
namespace Go.Proofs.YthphdiigjimchaaGreat
set_option linter.unusedVariables false
set_option linter.unusedSimpArgs false
open Go.RowKit Go.ChangeShapes Go.WideShapes Go.ChangeAt Go.Joins
theorem pt_cells : Tryz.prog.cellsOf 42 = 2 := by kernel_rfl
theorem in_cells : Tryz.prog.cellsOf 3 = 1 := by kernel_rfl
section
variable {H : Type} {enc : TypeId × Value → H} {w : World} {base : Nat} {spare : Nat → Bool} {held : Bool}
theorem open_pt2 {fuel : Nat} {c0 c1 : Value} {x : DataW H × List MemPlace} (h : DataW.trod enc Tryz.prog w base spare held fuel 42 [c0, c1] = some x) : ∃ u v, c0 = .int .i64 u ∧ c1 = .int .i64 v := by
  obtain ⟨y0, y1, n, _, _, g0, g1⟩ := trod_struct2 Tryz.underlying42 h
  simp [in_cells] at g0 g1
  obtain ⟨u, e0, _, _⟩ := DataW.trod_int Tryz.underlying3 g0
  obtain ⟨v, e1, _, _⟩ := DataW.trod_int Tryz.underlying3 g1
  simp at e0 e1
  exact ⟨u, v, e0, e1⟩
set_option maxRecDepth 100000 in
theorem open_pt {r : Reach} {b0 : Nat} {v : Value} {d : DataW H} {p : List MemPlace} (hv : Value.okWide Tryz.prog w r b0 42 v) (h : DataW.Trod enc Tryz.prog w base spare held 42 v d p) : ∃ x y, v = pt x y := by
  obtain ⟨cs, rfl, hsz⟩ := okWide_struct Tryz.underlying42 hv
  obtain ⟨c0, c1, rfl⟩ := array2 (hsz.trans pt_cells)
  obtain ⟨fuel, hf⟩ := h
  obtain ⟨x, y, rfl, rfl⟩ := open_pt2 (by simpa [Value.cells] using hf)
  exact ⟨x, y, rfl⟩
theorem points_open {fuel : Nat} {cs : List Value} {x : DataW H × List MemPlace} (h : DataW.trod enc Tryz.prog w base spare held fuel 23 cs = some x) :
    cs = [.slice none 0 0] ∨ ∃ (a : Addr) (len cap : Nat) (K : Nat → Int × Int), cs = [.slice (some a) len cap] ∧ len ≤ cap ∧ cap ≤ maxLen ∧
      ∀ i, i < len → w.cell? (a.add (i * 2)) = some (.int .i64 (K i).1) ∧ w.cell? (a.add (i * 2 + 1)) = some (.int .i64 (K i).2) := by
  rcases Deep.open_slice Tryz.underlying23 h with ⟨h0, _⟩ | ⟨a, len, cap, m, n, D, Pl, rfl, hb, hl, hm, hmm, rfl, hx⟩
  · exact .inl h0
  right
  have hlm : len ≤ m := by rw [hmm]; split <;> omega
  have each : ∀ i, i < len → ∃ q : Int × Int, w.cell? (a.add (i * 2)) = some (.int .i64 q.1) ∧ w.cell? (a.add (i * 2 + 1)) = some (.int .i64 q.2) := by
    intro i hi
    obtain ⟨cs', h1, h2⟩ := hx i (by omega)
    rw [pt_cells] at h1
    obtain ⟨_, hlen, hcell⟩ := World.cells?_some h1
    match cs', hlen with
    | [v0, v1], _ =>
      obtain ⟨u, v, rfl, rfl⟩ := open_pt2 h2
      have e0 := hcell 0 (by omega)
      have e1 := hcell 1 (by omega)
      rw [Deep.add_add] at e0 e1
      exact ⟨(u, v), by simpa using e0, by simpa using e1⟩
  obtain ⟨K, hK⟩ := Deep.choose_lt each
  exact ⟨a, len, cap, K, rfl, hl, hm, hK⟩
end
theorem points_at {w : World} {a : Addr} {len : Nat} {K : Nat → Int × Int} (h : ∀ i, i < len → w.cell? (a.add (i * 2)) = some (.int .i64 (K i).1) ∧ w.cell? (a.add (i * 2 + 1)) = some (.int .i64 (K i).2)) :
    PReads w (some a) len ((List.range len).map K) := by
  refine ⟨by simp, ?_⟩
  by_cases hz : len = 0
  · exact .inl hz
  · obtain ⟨b, off, sp⟩ := a
    have h1 := (h 0 (by omega)).1
    have hsp : sp = none := by
      cases sp with
      | none => rfl
      | some s => unfold Addr.add World.cell? at h1; simp at h1; split at h1 <;> simp_all
    subst hsp
    have ha : ∀ j, (⟨b, off, none⟩ : Addr).add j = ⟨b, off + j, none⟩ := fun j => by unfold Addr.add; split <;> simp_all
    refine .inr ⟨b, off, rfl, fun i hi => ?_⟩
    have := h i hi
    rw [ha, ha] at this
    have e : ((List.range len).map K).getD i (0, 0) = K i := by
      rw [List.getD_eq_getElem?_getD, List.getElem?_map, List.getElem?_range hi]; rfl
    rw [e]
    exact this
theorem points_none (w : World) : PReads w none 0 [] := ⟨rfl, .inl rfl⟩
end Go.Proofs.YthphdiigjimchaaGreat

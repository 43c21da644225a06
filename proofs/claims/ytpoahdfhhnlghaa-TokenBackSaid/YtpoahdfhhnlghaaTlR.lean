/- Slices of tokens and of bools that come in as arguments. -/
import Derived.Test.YtpoahdfhhnlghaaTlO
import Derived.Deep.Slices
import Derived.ChangeSame
import Derived.ChangeSlices
import Derived.Lib.SmallJoins
import Derived.ProofKit
import Derived.OpenShut
namespace Go.Proofs.Ytpoahdfhhnlghaa
set_option linter.unusedVariables false
set_option linter.unusedSimpArgs false
open Go.RowKit Go.ChangeShapes Go.WideShapes Go.ChangeAt Go.Joins

theorem tk_cells : Try.prog.cellsOf 31 = 2 := by kernel_rfl
theorem ti_cells : Try.prog.cellsOf 3 = 1 := by kernel_rfl
theorem ts_cells : Try.prog.cellsOf 9 = 1 := by kernel_rfl
theorem tb_cells : Try.prog.cellsOf 4 = 1 := by kernel_rfl
section
variable {H : Type} {enc : TypeId × Value → H} {w : World} {base : Nat} {spare : Nat → Bool} {held : Bool}
theorem open_tk2 {fuel : Nat} {c0 c1 : Value} {x : DataW H × List MemPlace} (h : DataW.trod enc Try.prog w base spare held fuel 31 [c0, c1] = some x) : ∃ (k : Int) (L : List UInt8), c0 = .int .i64 k ∧ c1 = .string ⟨L.toArray⟩ := by
  obtain ⟨y0, y1, n, _, _, g0, g1⟩ := trod_struct2 Try.underlying31 h
  simp [ti_cells, ts_cells] at g0 g1
  obtain ⟨u, e0, _, _⟩ := DataW.trod_int Try.underlying3 g0
  obtain ⟨v, e1, _, _⟩ := DataW.trod_string Try.underlying9 g1
  simp at e0 e1
  obtain ⟨L, rfl⟩ := text_of v
  exact ⟨u, L, e0, e1⟩
theorem tokens_open {fuel : Nat} {cs : List Value} {x : DataW H × List MemPlace} (h : DataW.trod enc Try.prog w base spare held fuel 22 cs = some x) :
    ∃ (a : Option Addr) (len cap : Nat) (K : List Tk), cs = [.slice a len cap] ∧ TArg w a len cap K ∧ len ≤ maxLen := by
  rcases Deep.open_slice Try.underlying22 h with ⟨h0, _⟩ | ⟨a, len, cap, m, n, D, Pl, rfl, hb, hl, hm, hmm, rfl, hx⟩
  · exact ⟨none, 0, 0, [], h0, ⟨⟨rfl, .inl rfl⟩, fun _ => ⟨rfl, rfl⟩⟩, Nat.zero_le _⟩
  · have hlm : len ≤ m := by rw [hmm]; split <;> omega
    have each : ∀ i, i < len → ∃ q : Tk, w.cell? (a.add (i * 2)) = some (.int .i64 q.1) ∧ w.cell? (a.add (i * 2 + 1)) = some (.string ⟨q.2.toArray⟩) := by
      intro i hi
      obtain ⟨cs', h1, h2⟩ := hx i (by omega)
      rw [tk_cells] at h1
      obtain ⟨_, hlen, hcell⟩ := World.cells?_some h1
      match cs', hlen with
      | [v0, v1], _ =>
        obtain ⟨u, v, rfl, rfl⟩ := open_tk2 h2
        have e0 := hcell 0 (by omega)
        have e1 := hcell 1 (by omega)
        rw [Deep.add_add] at e0 e1
        exact ⟨(u, v), by simpa using e0, by simpa using e1⟩
    obtain ⟨K, hK⟩ := Deep.choose_lt each
    refine ⟨some a, len, cap, (List.range len).map K, rfl, ⟨⟨by simp, ?_⟩, fun h => nomatch h⟩, Nat.le_trans hl hm⟩
    by_cases hz : len = 0
    · exact .inl hz
    · obtain ⟨b, off, sp⟩ := a
      have h1 := (hK 0 (by omega)).1
      have hsp : sp = none := by
        cases sp with
        | none => rfl
        | some s => unfold Addr.add World.cell? at h1; simp at h1; split at h1 <;> simp_all
      subst hsp
      have ha : ∀ j, (⟨b, off, none⟩ : Addr).add j = ⟨b, off + j, none⟩ := fun j => by unfold Addr.add; split <;> simp_all
      refine .inr ⟨b, off, rfl, fun i hi => ?_⟩
      have := hK i hi
      rw [ha, ha] at this
      have e : ((List.range len).map K).getD i tkZ = K i := by
        rw [List.getD_eq_getElem?_getD, List.getElem?_map, List.getElem?_range hi]; rfl
      rw [e]
      exact this
theorem bools_open {fuel : Nat} {cs : List Value} {x : DataW H × List MemPlace} (h : DataW.trod enc Try.prog w base spare held fuel 41 cs = some x) :
    ∃ (a : Option Addr) (len cap : Nat) (f : Nat → Bool), cs = [.slice a len cap] ∧ OArg w a len cap f ∧ len ≤ maxLen := by
  rcases Deep.open_slice1 Try.underlying41 tb_cells h with ⟨h0, _⟩ | ⟨a, len, cap, m, n, V, D, Pl, rfl, hb, hl, hm, hmm, rfl, hx⟩
  · exact ⟨none, 0, 0, fun _ => false, h0, ⟨.inl rfl⟩, Nat.zero_le _⟩
  · have hlm : len ≤ m := by rw [hmm]; split <;> omega
    have each : ∀ i, i < len → ∃ q : Bool, w.cell? (a.add i) = some (.bool q) := by
      intro i hi
      obtain ⟨h1, h2⟩ := hx i (by omega)
      obtain ⟨b, e, _⟩ := DataW.trod_bool Try.underlying4 h2
      injection e with e
      exact ⟨b, by rw [h1, e]⟩
    obtain ⟨f, hf⟩ := Deep.choose_lt each
    refine ⟨some a, len, cap, f, rfl, ⟨?_⟩, Nat.le_trans hl hm⟩
    by_cases hz : len = 0
    · exact .inl hz
    · obtain ⟨b, off, sp⟩ := a
      have h1 := hf 0 (by omega)
      have hsp : sp = none := by
        cases sp with
        | none => rfl
        | some s => unfold Addr.add World.cell? at h1; simp at h1; split at h1 <;> simp_all
      subst hsp
      have ha : ∀ j, (⟨b, off, none⟩ : Addr).add j = ⟨b, off + j, none⟩ := fun j => by unfold Addr.add; split <;> simp_all
      refine .inr ⟨b, off, rfl, fun i hi => ?_⟩
      rw [← ha]; exact hf i hi
end
theorem l_tokenLooseA (w : World) (s : List UInt8) (hs : s.length ≤ 9223372036854775807) (a : Option Addr) (n cap : Nat) (t : Nat → Bool) (ho : OArg w a n cap t) (hn : n ≤ maxLen) : Calls Try.prog 7 #[.string ⟨s.toArray⟩, .slice a n cap] w fun e w' => e = .returned (.bool true) ∧ Junk w w' := l_tokenLoose s w hs a n cap t ho hn
end Go.Proofs.Ytpoahdfhhnlghaa

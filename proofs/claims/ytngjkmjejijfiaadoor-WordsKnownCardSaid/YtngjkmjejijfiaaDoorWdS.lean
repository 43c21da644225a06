/- Package words: what is laid; the library's parts that it calls. -/
import Derived.Test.YtngjkmjejijfiaaDoorWdU
import Derived.Test.YtngjkmjejijfiaaDoorShelf
import Derived.Lib.CountLaws
import Derived.Maps.OwnOps
import Derived.Lib.LaidTab
namespace Go.Proofs.YtngjkmjejijfiaaDoor
set_option linter.unusedVariables false
set_option linter.unusedSimpArgs false
open Go.RowKit Go.Maps

/-- What is laid: the library's table of white space; its MaxLen is some number. -/
def LdW (w : World) : Prop := Lib.TabIs Tryd.prog w "strings.asciiSpace" .u8 Lib.asciiSpaceTab ∧ ∃ m, w.cell? ⟨2, 0, none⟩ = some (.int .i64 m)
theorem LdW.below {w w' : World} (h : LdW w) (hb : Below w.heap.size w w') : LdW w' := by
  refine ⟨?_, ?_⟩
  · have h := h.1
    unfold Lib.TabIs World.var? at *
    cases hg : Tryd.prog.globalNamed "strings.asciiSpace" with
    | none => rw [hg] at h; cases h
    | some g =>
      rw [hg] at h
      simp only [Option.bind_some] at h ⊢
      have hgs : g < w.heap.size := by
        by_cases hs : g < w.heap.size
        · exact hs
        · simp [Array.getElem?_eq_none (Nat.le_of_not_lt hs)] at h
      rw [hb.block g hgs]
      exact h
  · obtain ⟨m, hm⟩ := h.2
    exact ⟨m, (World.cell?_of_block (hb.block _ (World.block_lt_of_cell? _ _ hm))).trans hm⟩
theorem s_Fields (kd : Int) (W : World) (ht : LdW W) : Calls Tryd.prog 21 #[sV (txT kd)] W fun e w' =>
    e = .returned (.slice (some ⟨W.heap.size, 0, none⟩) (Lib.fields (txT kd)).length (Lib.fields (txT kd)).length) ∧ w' = W.alloc (.cells (scells (Lib.fields (txT kd))).toArray 9) := by
  obtain ⟨ha, hl, _⟩ := text_ascii kd
  generalize txT kd = X at *
  refine (Tryd.strings_Fields ⟨X.toArray⟩ W (by show X.toArray.size < _; rw [List.size_toArray]; omega) (fun j b hb => ?_) ht.1).mono ?_
  · have hm : b ∈ X := List.mem_of_getElem? (by simpa using hb)
    simpa using List.all_eq_true.1 ha b hm
  · rintro e w' ⟨rfl, rfl⟩
    exact ⟨rfl, rfl⟩
theorem s_Cut (x : Tx) (hx : x.length ≤ 100) (W : World) (ht : LdW W) : Calls Tryd.prog 23 #[sV x, .string ⟨#[61]⟩] W fun e w' =>
    (∃ b, e = .returned (.tuple #[sV (Lib.cut x [61]).1, sV (Lib.cut x [61]).2.1, .bool b])) ∧ Junk W w' := by
  obtain ⟨m, hm⟩ := ht.2
  refine (Tryd.strings_Cut ⟨x.toArray⟩ ⟨#[61]⟩ m W (by show x.toArray.size < _; rw [List.size_toArray]; omega) hm).mono ?_
  rintro e w' ⟨rfl, n, rfl⟩
  exact ⟨⟨_, rfl⟩, junk_drewN _ _⟩
theorem s_RepAll (x : Tx) (hx : x.length ≤ 100) (W : World) (ht : LdW W) : Calls Tryd.prog 24 #[sV x, .string ⟨#[95]⟩, .string ⟨#[32]⟩] W fun e w' =>
    e = .returned (sV (Lib.replaceAll x [95] [32])) ∧ Junk W w' := by
  obtain ⟨m, hm⟩ := ht.2
  have hc : Lib.countB ⟨x.toArray⟩ ⟨#[95]⟩ ≤ 101 := by
    have := Lib.count_le x [95]
    show Lib.count x [95] ≤ 101
    omega
  refine (Tryd.strings_ReplaceAll ⟨x.toArray⟩ ⟨#[95]⟩ ⟨#[32]⟩ m W (by show x.toArray.size < _; rw [List.size_toArray]; omega) hm (by decide) ?_).mono ?_
  · show x.toArray.size + Lib.countB ⟨x.toArray⟩ ⟨#[95]⟩ * 1 ≤ _
    rw [List.size_toArray]
    omega
  · rintro e w' ⟨rfl, hb⟩
    exact ⟨rfl, junk_of_below hb⟩
end Go.Proofs.YtngjkmjejijfiaaDoor

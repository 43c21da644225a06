/- The table of the months' lengths, read in a later world. -/
import Derived.Test.YtlbbampmonkleaaDoorRow
import Derived.Test.YtlbbampmonkleaaDoorProg
import Derived.OwnWalk
import Derived.OpenShut
import Derived.Lib.LaidTab
import Derived.Deep.DeepCutAuto
namespace Go.Proofs.YtlbbampmonkleaaDoor
set_option linter.unusedVariables false
set_option linter.unusedSimpArgs false
open Go.RowKit

def lensL : List Int := [0, 31, 28, 31, 30, 31, 30, 31, 31, 30, 31, 30, 31]
/-- civil's lengths of months. -/
def CTab (w : World) : Prop := Lib.TabIs Tryd.prog w "apportion/civil.lengths" .i64 lensL

theorem CTab.below {w w' : World} (h : CTab w) (hb : Below w.heap.size w w') : CTab w' := by
  unfold CTab Lib.TabIs World.var? at *
  cases hg : Tryd.prog.globalNamed "apportion/civil.lengths" with
  | none => rw [hg] at h; cases h
  | some g =>
    rw [hg] at h
    simp only [Option.bind_some] at h ⊢
    have hgs : g < w.heap.size := by
      by_cases hs : g < w.heap.size
      · exact hs
      · simp [Array.getElem?_eq_none (Nat.le_of_not_lt hs)] at h
    rw [hb.block g hgs]
    exact h
theorem CTab.junk {w w' : World} (h : CTab w) (hj : Junk w w') : CTab w' := h.below hj.below
theorem CTab.plus {w : World} (h : CTab w) (J : Array Obj) (d : Nat) : CTab (w.plus J d) := h.junk ⟨J, d, rfl⟩
theorem CTab.alloc {w : World} (h : CTab w) (o : Obj) : CTab (w.alloc o) := h.below ((Below.refl _ _).alloc (Nat.le_refl _) _)
theorem CTab.drew {w : World} (h : CTab w) : CTab w.drew := h.below ((Below.refl _ _).drew)

theorem CTab.cell {w : World} (h : CTab w) (k : Nat) (hk : k < 13) : w.cell? ⟨0, k, none⟩ = some (.int .i64 (lensL.getD k 0)) := by
  unfold CTab Lib.TabIs World.var? at h
  rw [show Tryd.prog.globalNamed "apportion/civil.lengths" = some 0 by kernel_rfl] at h
  simp only [Option.bind_some] at h
  cases hb : w.heap[0]? with
  | none => rw [hb] at h; cases h
  | some o =>
    rw [hb] at h
    cases o with
    | cells c t f =>
      simp at h
      subst h
      simp [World.cell?, hb]
      have : lensL.length = 13 := rfl
      simp [List.getD_eq_getElem?_getD, this, hk]
    | _ => simp at h
end Go.Proofs.YtlbbampmonkleaaDoor

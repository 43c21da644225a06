/- A package's table of numbers, read in a later world; decimal digits. -/
import Derived.Test.YtlbbampmonkleaaDoorRow
import Derived.Test.YtlbbampmonkleaaDoorProg
import Derived.OwnWalk
import Derived.OpenShut
import Derived.Deep.DeepCutAuto
import Derived.Test.YtlbbampmonkleaaDoorShelf
import Derived.Lib.LaidTab
namespace Go.Proofs.YtlbbampmonkleaaDoor
set_option linter.unusedVariables false
set_option linter.unusedSimpArgs false
open Go.RowKit

/-- strconv's powers of ten. -/
def Tab (w : World) : Prop := Lib.TabIs Tryd.prog w "internal/strconv.uint64pow10" .u64 Lib.pow10Tab

theorem Tab.below {w w' : World} (h : Tab w) (hb : Below w.heap.size w w') : Tab w' := by
  unfold Tab Lib.TabIs World.var? at *
  cases hg : Tryd.prog.globalNamed "internal/strconv.uint64pow10" with
  | none => rw [hg] at h; cases h
  | some g =>
    rw [hg] at h
    simp only [Option.bind_some] at h ⊢
    have hgs : g < w.heap.size := by
      by_cases hs : g < w.heap.size
      · exact hs
      · simp [Array.getElem?_eq_none (Nat.le_of_not_lt hs)] at h
    rw [hb.block g hgs]
    exact h
theorem Tab.junk {w w' : World} (h : Tab w) (hj : Junk w w') : Tab w' := h.below hj.below
theorem Tab.plus {w : World} (h : Tab w) (J : Array Obj) (d : Nat) : Tab (w.plus J d) := h.junk ⟨J, d, rfl⟩

theorem s_Itoa (n : Int) (h0 : -9223372036854775808 ≤ n) (h1 : n ≤ 9223372036854775807) (w : World) (ht : Tab w) :
    Calls Tryd.prog 54 #[.int .i64 n] w fun e w' => e = .returned (.string ⟨(Lib.itoa n).toArray⟩) ∧ Junk w w' := by
  refine (Tryd.strconv_Itoa n h0 h1 w ht).mono ?_
  rintro e w' ⟨rfl, k, os, rfl⟩
  exact ⟨rfl, os, _, rfl⟩

theorem dec_lt10 (c : Nat) (h : c < 10) : Lib.decDigits c = [UInt8.ofNat (48 + c)] := by
  rw [Lib.decDigits]; simp [h]
theorem dec_lt100 (c : Nat) (h0 : 10 ≤ c) (h : c < 100) : Lib.decDigits c = [UInt8.ofNat (48 + c / 10), UInt8.ofNat (48 + c % 10)] := by
  rw [Lib.decDigits, dif_neg (by omega), dec_lt10 _ (by omega)]; rfl
theorem itoa_nat (n : Nat) : Lib.itoa (n : Int) = Lib.decDigits n := by
  unfold Lib.itoa; rw [if_neg (by omega)]; simp
end Go.Proofs.YtlbbampmonkleaaDoor

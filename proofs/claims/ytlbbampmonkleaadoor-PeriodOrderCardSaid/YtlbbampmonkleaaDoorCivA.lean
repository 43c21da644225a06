/- Contracts of leap years' functions, of civil and of apportionref03. -/
import Derived.Test.YtlbbampmonkleaaDoorCal
import Derived.Test.YtlbbampmonkleaaDoorCTab
namespace Go.Proofs.YtlbbampmonkleaaDoor
set_option linter.unusedVariables false
set_option linter.unusedSimpArgs false
open Go.RowKit

theorem n_isLeap (y : Int) (y0 : 1 ≤ y) (y1 : y ≤ 99999) (w : World) : Calls Tryd.prog 46 #[.int .i64 y] w fun e w' => e = .returned (.bool (leapB y)) ∧ w = w' := by
  unfold leapB
  by_cases c1 : y % 4 = 0
  · rw [decide_eq_true c1]
    have e1 : (y % 4 == 0) = true := by rw [c1]; rfl
    by_cases c2 : y % 100 = 0
    · rw [decide_eq_false (show ¬ y % 100 ≠ 0 from fun h => h c2)]
      have e2 : (y % 100 != 0) = false := by rw [c2]; rfl
      by_cases c3 : y % 400 = 0
      · rw [decide_eq_true c3]
        have e3 : (y % 400 == 0) = true := by rw [c3]; rfl
        clear c1 c2 c3
        go_enter Tryd.func46, Tryd.ntmps46
        go_wp2
        go_ret
        exact ⟨by first | rfl | (simp [*]; done), rfl⟩
      · rw [decide_eq_false c3]
        have e3 : (y % 400 == 0) = false := beq_eq_false_iff_ne.2 c3
        clear c1 c2 c3
        go_enter Tryd.func46, Tryd.ntmps46
        go_wp2
        go_ret
        exact ⟨by first | rfl | (simp [*]; done), rfl⟩
    · rw [decide_eq_true (show y % 100 ≠ 0 from c2), Bool.true_or]
      have e2 : (y % 100 != 0) = true := bne_iff_ne.2 c2
      clear c1 c2
      go_enter Tryd.func46, Tryd.ntmps46
      go_wp2
      go_ret
      exact ⟨by first | rfl | (simp [*]; done), rfl⟩
  · rw [decide_eq_false c1, Bool.false_and]
    have e1 : (y % 4 == 0) = false := beq_eq_false_iff_ne.2 c1
    have e3 : (y % 400 == 0) = false := beq_eq_false_iff_ne.2 (by omega)
    clear c1
    go_enter Tryd.func46, Tryd.ntmps46
    go_wp2
    go_ret
    exact ⟨by first | rfl | (simp [*]; done), rfl⟩

theorem r_leap (y : Int) (y0 : 1 ≤ y) (y1 : y ≤ 99999) (w : World) : Calls Tryd.prog 43 #[.int .i64 y] w fun e w' => e = .returned (.bool (leapB y)) ∧ w = w' := by
  unfold leapB
  by_cases c1 : y % 4 = 0
  · rw [decide_eq_true c1]
    have e1 : (y % 4 == 0) = true := by rw [c1]; rfl
    by_cases c2 : y % 100 = 0
    · rw [decide_eq_false (show ¬ y % 100 ≠ 0 from fun h => h c2)]
      have e2 : (y % 100 != 0) = false := by rw [c2]; rfl
      by_cases c3 : y % 400 = 0
      · rw [decide_eq_true c3]
        have e3 : (y % 400 == 0) = true := by rw [c3]; rfl
        clear c1 c2 c3
        go_enter Tryd.func43, Tryd.ntmps43
        go_wp2
        go_ret
        exact ⟨by first | rfl | (simp [*]; done), rfl⟩
      · rw [decide_eq_false c3]
        have e3 : (y % 400 == 0) = false := beq_eq_false_iff_ne.2 c3
        clear c1 c2 c3
        go_enter Tryd.func43, Tryd.ntmps43
        go_wp2
        go_ret
        exact ⟨by first | rfl | (simp [*]; done), rfl⟩
    · rw [decide_eq_true (show y % 100 ≠ 0 from c2), Bool.true_or]
      have e2 : (y % 100 != 0) = true := bne_iff_ne.2 c2
      clear c1 c2
      go_enter Tryd.func43, Tryd.ntmps43
      go_wp2
      go_ret
      exact ⟨by first | rfl | (simp [*]; done), rfl⟩
  · rw [decide_eq_false c1, Bool.false_and]
    have e1 : (y % 4 == 0) = false := beq_eq_false_iff_ne.2 c1
    have e3 : (y % 400 == 0) = false := beq_eq_false_iff_ne.2 (by omega)
    clear c1
    go_enter Tryd.func43, Tryd.ntmps43
    go_wp2
    go_ret
    exact ⟨by first | rfl | (simp [*]; done), rfl⟩
end Go.Proofs.YtlbbampmonkleaaDoor

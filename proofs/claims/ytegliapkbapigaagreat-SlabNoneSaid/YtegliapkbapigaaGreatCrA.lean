/- Whether there may be a segment: contracts of apportionref08.may, apportionlaw08's at and may. -/
import Derived.Test.YtegliapkbapigaaGreatCrMath
import Derived.Test.YtegliapkbapigaaGreatPtJ
import Derived.Test.YtegliapkbapigaaGreatKitTwo
import Derived.Test.YtegliapkbapigaaGreatKitOne
namespace Go.Proofs.YtegliapkbapigaaGreat
set_option linter.unusedVariables false
set_option linter.unusedSimpArgs false
open Go.RowKit

/-- A slice that reads as a list of points. -/
def PRes (w : World) (v : Value) (K : List (Int × Int)) : Prop := ∃ a n cap, v = .slice a n cap ∧ PReads w a n K ∧ K.length ≤ 4
theorem may_is (ax ay bx by_ : Int) : mayQ (ax, ay) (bx, by_) = (okP ax ay && okP bx by_ && !(ax == bx && ay == by_)) := by
  unfold mayQ
  congr 1
  rw [Bool.eq_iff_iff]
  simp
set_option maxRecDepth 100000 in
set_option maxHeartbeats 1000000 in
theorem r_crMay (ax ay bx by_ : Int) (w : World) : Calls Tryz.prog 80 #[pt ax ay, pt bx by_] w fun e w' => e = .returned (.bool (mayQ (ax, ay) (bx, by_))) ∧ Junk w w' := by
  have H1 := Lib.hid (fun w' => r_ptValid ax ay w')
  have H2 := Lib.hid (fun w' => r_ptValid bx by_ w')
  rw [may_is]
  generalize okP ax ay = v1 at *
  generalize okP bx by_ = v2 at *
  unfold pt at *
  cases v1 with
  | false =>
    simp only [Bool.false_and]
    go_enter Tryz.func80, Tryz.ntmps80
    go_wp2_with (go_at_call 54; (first | (with_reducible refine (H1.out _).mono ?_) | (with_reducible refine (H2.out _).mono ?_)); rintro e w1 ⟨rfl, J1, d1, rfl⟩)
    go_ret
    exact ⟨rfl, junk_of_below (by (repeat' (first | (with_reducible exact Below.refl _ _) | (with_reducible assumption) | (with_reducible refine Below.alloc ?_ ?_ _) | (with_reducible refine Below.drew ?_) | (with_reducible refine below_drewN ?_ _) | (with_reducible refine below_plus ?_ ?_ _ _) | (with_reducible refine Below.setCell ?_ ?_ _) | (with_reducible refine Below.setRow ?_ ?_ _) | go_size)))⟩
  | true =>
    cases v2 with
    | false =>
      simp only [Bool.false_and, Bool.true_and]
      go_enter Tryz.func80, Tryz.ntmps80
      go_wp2_with (go_at_call 54; (first | (with_reducible refine (H1.out _).mono ?_) | (with_reducible refine (H2.out _).mono ?_)); rintro e w1 ⟨rfl, J1, d1, rfl⟩)
      go_ret
      exact ⟨rfl, junk_of_below (by (repeat' (first | (with_reducible exact Below.refl _ _) | (with_reducible assumption) | (with_reducible refine Below.alloc ?_ ?_ _) | (with_reducible refine Below.drew ?_) | (with_reducible refine below_drewN ?_ _) | (with_reducible refine below_plus ?_ ?_ _ _) | (with_reducible refine Below.setCell ?_ ?_ _) | (with_reducible refine Below.setRow ?_ ?_ _) | go_size)))⟩
    | true =>
      simp only [Bool.true_and]
      by_cases hx : ax = bx
      · subst hx
        by_cases hy : ay = by_
        · subst hy
          rw [show (!(ax == ax && ay == ay)) = false by simp]
          go_enter Tryz.func80, Tryz.ntmps80
          go_wp2_with (go_at_call 54; (first | (with_reducible refine (H1.out _).mono ?_) | (with_reducible refine (H2.out _).mono ?_)); rintro e w1 ⟨rfl, J1, d1, rfl⟩)
          go_ret
          exact ⟨rfl, junk_of_below (by (repeat' (first | (with_reducible exact Below.refl _ _) | (with_reducible assumption) | (with_reducible refine Below.alloc ?_ ?_ _) | (with_reducible refine Below.drew ?_) | (with_reducible refine below_drewN ?_ _) | (with_reducible refine below_plus ?_ ?_ _ _) | (with_reducible refine Below.setCell ?_ ?_ _) | (with_reducible refine Below.setRow ?_ ?_ _) | go_size)))⟩
        · have e2 : (ay == by_) = false := by rw [beq_eq_false_iff_ne]; exact hy
          rw [show (!(ax == ax && ay == by_)) = true by simp [hy]]
          clear hy
          go_enter Tryz.func80, Tryz.ntmps80
          go_wp2_with (go_at_call 54; (first | (with_reducible refine (H1.out _).mono ?_) | (with_reducible refine (H2.out _).mono ?_)); rintro e w1 ⟨rfl, J1, d1, rfl⟩)
          go_ret
          exact ⟨rfl, junk_of_below (by (repeat' (first | (with_reducible exact Below.refl _ _) | (with_reducible assumption) | (with_reducible refine Below.alloc ?_ ?_ _) | (with_reducible refine Below.drew ?_) | (with_reducible refine below_drewN ?_ _) | (with_reducible refine below_plus ?_ ?_ _ _) | (with_reducible refine Below.setCell ?_ ?_ _) | (with_reducible refine Below.setRow ?_ ?_ _) | go_size)))⟩
      · have e2 : (ax == bx) = false := by rw [beq_eq_false_iff_ne]; exact hx
        rw [show (!(ax == bx && ay == by_)) = true by simp [hx]]
        clear hx
        go_enter Tryz.func80, Tryz.ntmps80
        go_wp2_with (go_at_call 54; (first | (with_reducible refine (H1.out _).mono ?_) | (with_reducible refine (H2.out _).mono ?_)); rintro e w1 ⟨rfl, J1, d1, rfl⟩)
        go_ret
        exact ⟨rfl, junk_of_below (by (repeat' (first | (with_reducible exact Below.refl _ _) | (with_reducible assumption) | (with_reducible refine Below.alloc ?_ ?_ _) | (with_reducible refine Below.drew ?_) | (with_reducible refine below_drewN ?_ _) | (with_reducible refine below_plus ?_ ?_ _ _) | (with_reducible refine Below.setCell ?_ ?_ _) | (with_reducible refine Below.setRow ?_ ?_ _) | go_size)))⟩
end Go.Proofs.YtegliapkbapigaaGreat

/- Whether there may be a segment: contracts of apportionref08.may, apportionlaw08's at and may. -/
import Derived.Test.YthphdiigjimchaaGreatCrMath
import Derived.Test.YthphdiigjimchaaGreatPtJ
import Derived.Test.YthphdiigjimchaaGreatKitTwo
import Derived.Test.YthphdiigjimchaaGreatKitOne
namespace Go.Proofs.YthphdiigjimchaaGreat
set_option linter.unusedVariables false
set_option linter.unusedSimpArgs false
open Go.RowKit
def PRes (w : World) (v : Value) (K : List (Int × Int)) : Prop := ∃ a n cap, v = .slice a n cap ∧ PReads w a n K ∧ K.length ≤ 4
theorem may_is (ax ay bx by_ : Int) : mayQ (ax, ay) (bx, by_) = (okP ax ay && okP bx by_ && !(ax == bx && ay == by_)) := by
  unfold mayQ
  congr 1
  rw [Bool.eq_iff_iff]
  simp
set_option maxRecDepth 100000 in
set_option maxHeartbeats 1000000 in
theorem r_crMay (ax ay bx by_ : Int) (w : World) : Calls Tryz.prog 111 #[pt ax ay, pt bx by_] w fun e w' => e = .returned (.bool (mayQ (ax, ay) (bx, by_))) ∧ Junk w w' := by
  have H1 := Lib.hid (fun w' => r_ptValid ax ay w')
  have H2 := Lib.hid (fun w' => r_ptValid bx by_ w')
  rw [may_is]
  generalize okP ax ay = v1 at *
  generalize okP bx by_ = v2 at *
  unfold pt at *
  cases v1 with
  | false =>
    simp only [Bool.false_and]
    go_enter Tryz.func111, Tryz.ntmps111
    go_wp2_with (go_at_call 82; (first | (with_reducible refine (H1.out _).mono ?_) | (with_reducible refine (H2.out _).mono ?_)); rintro e w1 ⟨rfl, J1, d1, rfl⟩)
    go_ret
    exact ⟨rfl, junk_of_below (by (repeat' first | with_reducible (first | apply Below.refl | assumption | apply bw_a | apply bw_d | apply bw_n | apply bw_p | apply bw_c | apply bw_r) | go_size))⟩
  | true =>
    cases v2 with
    | false =>
      simp only [Bool.false_and, Bool.true_and]
      go_enter Tryz.func111, Tryz.ntmps111
      go_wp2_with (go_at_call 82; (first | (with_reducible refine (H1.out _).mono ?_) | (with_reducible refine (H2.out _).mono ?_)); rintro e w1 ⟨rfl, J1, d1, rfl⟩)
      go_ret
      exact ⟨rfl, junk_of_below (by (repeat' first | with_reducible (first | apply Below.refl | assumption | apply bw_a | apply bw_d | apply bw_n | apply bw_p | apply bw_c | apply bw_r) | go_size))⟩
    | true =>
      simp only [Bool.true_and]
      by_cases hx : ax = bx
      · subst hx
        by_cases hy : ay = by_
        · subst hy
          rw [show (!(ax == ax && ay == ay)) = false by simp]
          go_enter Tryz.func111, Tryz.ntmps111
          go_wp2_with (go_at_call 82; (first | (with_reducible refine (H1.out _).mono ?_) | (with_reducible refine (H2.out _).mono ?_)); rintro e w1 ⟨rfl, J1, d1, rfl⟩)
          go_ret
          exact ⟨rfl, junk_of_below (by (repeat' first | with_reducible (first | apply Below.refl | assumption | apply bw_a | apply bw_d | apply bw_n | apply bw_p | apply bw_c | apply bw_r) | go_size))⟩
        · have e2 : (ay == by_) = false := by rw [beq_eq_false_iff_ne]; exact hy
          rw [show (!(ax == ax && ay == by_)) = true by simp [hy]]
          clear hy
          go_enter Tryz.func111, Tryz.ntmps111
          go_wp2_with (go_at_call 82; (first | (with_reducible refine (H1.out _).mono ?_) | (with_reducible refine (H2.out _).mono ?_)); rintro e w1 ⟨rfl, J1, d1, rfl⟩)
          go_ret
          exact ⟨rfl, junk_of_below (by (repeat' first | with_reducible (first | apply Below.refl | assumption | apply bw_a | apply bw_d | apply bw_n | apply bw_p | apply bw_c | apply bw_r) | go_size))⟩
      · have e2 : (ax == bx) = false := by rw [beq_eq_false_iff_ne]; exact hx
        rw [show (!(ax == bx && ay == by_)) = true by simp [hx]]
        clear hx
        go_enter Tryz.func111, Tryz.ntmps111
        go_wp2_with (go_at_call 82; (first | (with_reducible refine (H1.out _).mono ?_) | (with_reducible refine (H2.out _).mono ?_)); rintro e w1 ⟨rfl, J1, d1, rfl⟩)
        go_ret
        exact ⟨rfl, junk_of_below (by (repeat' first | with_reducible (first | apply Below.refl | assumption | apply bw_a | apply bw_d | apply bw_n | apply bw_p | apply bw_c | apply bw_r) | go_size))⟩
end Go.Proofs.YthphdiigjimchaaGreat

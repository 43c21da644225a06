/- Package inside: Counts. -/
import Derived.Test.YthjjhfopmianoaaRgLaw
import Derived.Test.YthjjhfopmianoaaRgChk
import Derived.Test.YthjjhfopmianoaaInN
namespace Go.Proofs.Ythjjhfopmianoaa
set_option linter.unusedVariables false
set_option linter.unusedSimpArgs false
open Go.RowKit Go.Shelf

set_option maxRecDepth 100000 in
set_option maxHeartbeats 4000000 in
theorem c_inCounts (px py ax ay bx by_ : Int) (w : World) : Calls Try.prog 10 #[pt px py, pt ax ay, pt bx by_] w fun e w' => e = .returned (.bool (countC (px, py) (ax, ay) (bx, by_))) ∧ Junk w w' := by
  unfold countC upC turnC
  simp only
  by_cases h0 : by_ < ay
  · rw [if_pos h0]
    have HT := Lib.hid (fun w' => n_ptTurn bx by_ ax ay px py w')
    generalize turnF bx by_ ax ay px py = t at *
    unfold pt at *
    by_cases h1 : by_ ≤ py
    · by_cases h2 : py < ay
      · rw [decide_eq_true h1, decide_eq_true h2, Bool.true_and, Bool.true_and]
        by_cases h3 : t = 1
        · subst h3
          go_enter Try.func10, Try.ntmps10
          go_wp2_with fail
          go_region
          all_goals (go_wp2_with fail)
          all_goals go_region
          all_goals (go_wp2_with (go_at_call 26; (with_reducible refine (HT.out _).mono ?_); rintro e w1 ⟨rfl, J1, d1, rfl⟩))
          all_goals go_ret
          all_goals exact ⟨rfl, junk_of_below (by (repeat' (first | (with_reducible exact Below.refl _ _) | (with_reducible assumption) | (with_reducible refine Below.alloc ?_ ?_ _) | (with_reducible refine Below.drew ?_) | (with_reducible refine below_drewN ?_ _) | (with_reducible refine below_plus ?_ ?_ _ _) | (with_reducible refine Below.setCell ?_ ?_ _) | (with_reducible refine Below.setRow ?_ ?_ _) | go_size)))⟩
        · have e3 : (t == 1) = false := by rw [beq_eq_false_iff_ne]; exact h3
          rw [decide_eq_false h3]
          clear h3
          go_enter Try.func10, Try.ntmps10
          go_wp2_with fail
          go_region
          all_goals (go_wp2_with fail)
          all_goals go_region
          all_goals (go_wp2_with (go_at_call 26; (with_reducible refine (HT.out _).mono ?_); rintro e w1 ⟨rfl, J1, d1, rfl⟩))
          all_goals go_ret
          all_goals exact ⟨rfl, junk_of_below (by (repeat' (first | (with_reducible exact Below.refl _ _) | (with_reducible assumption) | (with_reducible refine Below.alloc ?_ ?_ _) | (with_reducible refine Below.drew ?_) | (with_reducible refine below_drewN ?_ _) | (with_reducible refine below_plus ?_ ?_ _ _) | (with_reducible refine Below.setCell ?_ ?_ _) | (with_reducible refine Below.setRow ?_ ?_ _) | go_size)))⟩
      · rw [decide_eq_false h2, Bool.and_false, Bool.false_and]
        go_enter Try.func10, Try.ntmps10
        go_wp2_with fail
        go_region
        all_goals (go_wp2_with fail)
        all_goals go_region
        all_goals (go_wp2_with fail)
        all_goals go_ret
        all_goals exact ⟨rfl, junk_of_below (by (repeat' (first | (with_reducible exact Below.refl _ _) | (with_reducible assumption) | (with_reducible refine Below.alloc ?_ ?_ _) | (with_reducible refine Below.drew ?_) | (with_reducible refine below_drewN ?_ _) | (with_reducible refine below_plus ?_ ?_ _ _) | (with_reducible refine Below.setCell ?_ ?_ _) | (with_reducible refine Below.setRow ?_ ?_ _) | go_size)))⟩
    · rw [decide_eq_false h1, Bool.false_and, Bool.false_and]
      go_enter Try.func10, Try.ntmps10
      go_wp2_with fail
      go_region
      all_goals (go_wp2_with fail)
      all_goals go_region
      all_goals (go_wp2_with fail)
      all_goals go_ret
      all_goals exact ⟨rfl, junk_of_below (by (repeat' (first | (with_reducible exact Below.refl _ _) | (with_reducible assumption) | (with_reducible refine Below.alloc ?_ ?_ _) | (with_reducible refine Below.drew ?_) | (with_reducible refine below_drewN ?_ _) | (with_reducible refine below_plus ?_ ?_ _ _) | (with_reducible refine Below.setCell ?_ ?_ _) | (with_reducible refine Below.setRow ?_ ?_ _) | go_size)))⟩
  · rw [if_neg h0]
    have HT := Lib.hid (fun w' => n_ptTurn ax ay bx by_ px py w')
    generalize turnF ax ay bx by_ px py = t at *
    unfold pt at *
    by_cases h1 : ay ≤ py
    · by_cases h2 : py < by_
      · rw [decide_eq_true h1, decide_eq_true h2, Bool.true_and, Bool.true_and]
        by_cases h3 : t = 1
        · subst h3
          go_enter Try.func10, Try.ntmps10
          go_wp2_with fail
          go_region
          all_goals (go_wp2_with (go_at_call 26; (with_reducible refine (HT.out _).mono ?_); rintro e w1 ⟨rfl, J1, d1, rfl⟩))
          all_goals go_ret
          all_goals exact ⟨rfl, junk_of_below (by (repeat' (first | (with_reducible exact Below.refl _ _) | (with_reducible assumption) | (with_reducible refine Below.alloc ?_ ?_ _) | (with_reducible refine Below.drew ?_) | (with_reducible refine below_drewN ?_ _) | (with_reducible refine below_plus ?_ ?_ _ _) | (with_reducible refine Below.setCell ?_ ?_ _) | (with_reducible refine Below.setRow ?_ ?_ _) | go_size)))⟩
        · have e3 : (t == 1) = false := by rw [beq_eq_false_iff_ne]; exact h3
          rw [decide_eq_false h3]
          clear h3
          go_enter Try.func10, Try.ntmps10
          go_wp2_with fail
          go_region
          all_goals (go_wp2_with (go_at_call 26; (with_reducible refine (HT.out _).mono ?_); rintro e w1 ⟨rfl, J1, d1, rfl⟩))
          all_goals go_ret
          all_goals exact ⟨rfl, junk_of_below (by (repeat' (first | (with_reducible exact Below.refl _ _) | (with_reducible assumption) | (with_reducible refine Below.alloc ?_ ?_ _) | (with_reducible refine Below.drew ?_) | (with_reducible refine below_drewN ?_ _) | (with_reducible refine below_plus ?_ ?_ _ _) | (with_reducible refine Below.setCell ?_ ?_ _) | (with_reducible refine Below.setRow ?_ ?_ _) | go_size)))⟩
      · rw [decide_eq_false h2, Bool.and_false, Bool.false_and]
        go_enter Try.func10, Try.ntmps10
        go_wp2_with fail
        go_region
        all_goals (go_wp2_with fail)
        all_goals go_ret
        all_goals exact ⟨rfl, junk_of_below (by (repeat' (first | (with_reducible exact Below.refl _ _) | (with_reducible assumption) | (with_reducible refine Below.alloc ?_ ?_ _) | (with_reducible refine Below.drew ?_) | (with_reducible refine below_drewN ?_ _) | (with_reducible refine below_plus ?_ ?_ _ _) | (with_reducible refine Below.setCell ?_ ?_ _) | (with_reducible refine Below.setRow ?_ ?_ _) | go_size)))⟩
    · rw [decide_eq_false h1, Bool.false_and, Bool.false_and]
      go_enter Try.func10, Try.ntmps10
      go_wp2_with fail
      go_region
      all_goals (go_wp2_with fail)
      all_goals go_ret
      all_goals exact ⟨rfl, junk_of_below (by (repeat' (first | (with_reducible exact Below.refl _ _) | (with_reducible assumption) | (with_reducible refine Below.alloc ?_ ?_ _) | (with_reducible refine Below.drew ?_) | (with_reducible refine below_drewN ?_ _) | (with_reducible refine below_plus ?_ ?_ _ _) | (with_reducible refine Below.setCell ?_ ?_ _) | (with_reducible refine Below.setRow ?_ ?_ _) | go_size)))⟩
end Go.Proofs.Ythjjhfopmianoaa

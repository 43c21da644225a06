/- Contracts of package point: On, Move. -/
import Derived.Test.YtegliapkbapigaaGreatPtH
namespace Go.Proofs.YtegliapkbapigaaGreat
set_option linter.unusedVariables false
set_option linter.unusedSimpArgs false
open Go.RowKit

set_option maxRecDepth 100000 in
set_option maxHeartbeats 2000000 in
theorem n_ptOn (px py ax ay bx by_ : Int) (w : World) : Calls Tryz.prog 151 #[pt px py, pt ax ay, pt bx by_] w fun e w' => e = .returned (.bool (onB px py ax ay bx by_)) ∧ Junk w w' := by
  rw [onB_eq]
  have HA := Lib.hid (fun W b h0 h1 h2 h3 h4 h5 => n_ptAll3 W b px py ax ay bx by_ h0 h1 h2 h3 h4 h5)
  have HT := Lib.hid (fun w' => n_ptTurn ax ay bx by_ px py w')
  have HB1 := Lib.hid (fun w' => n_ptBetween px ax bx w')
  have HB2 := Lib.hid (fun w' => n_ptBetween py ay by_ w')
  unfold pt at *
  generalize (okP px py && okP ax ay && okP bx by_) = P1 at *
  generalize decide (btw px ax bx) = P4 at *
  generalize decide (btw py ay by_) = P5 at *
  generalize turnF ax ay bx by_ px py = T at *
  cases P1 with
  | false =>
    go_enter Tryz.func151, Tryz.ntmps151
    go_wp2_with fail
    refine (HA.out _ _ ?_ ?_ ?_ ?_ ?_ ?_).mono ?_
    iterate 6 (simp [go_sem])
    rintro e w1 ⟨rfl, J1, d1, rfl⟩
    go_wp2_with (first | (go_at_call 40; refine (HT.out _).mono ?_; clear HT; rintro e w1 ⟨rfl, J4, d4, rfl⟩) | (go_at_call 153; refine (HB1.out _).mono ?_; clear HB1; rintro e w1 ⟨rfl, rfl⟩) | (go_at_call 153; refine (HB2.out _).mono ?_; clear HB2; rintro e w1 ⟨rfl, rfl⟩))
    go_ret
    exact ⟨retB (by simp), junk_of_below (by (repeat' (first | (with_reducible exact Below.refl _ _) | (with_reducible assumption) | (with_reducible refine Below.alloc ?_ ?_ _) | (with_reducible refine Below.drew ?_) | (with_reducible refine below_drewN ?_ _) | (with_reducible refine below_plus ?_ ?_ _ _) | (with_reducible refine Below.setCell ?_ ?_ _) | (with_reducible refine Below.setRow ?_ ?_ _) | go_size)))⟩
  | true =>
    by_cases hT : T = 0
    case neg =>
      have hT2 : (T == 0) = false := by rw [beq_eq_false_iff_ne]; exact hT
      go_enter Tryz.func151, Tryz.ntmps151
      go_wp2_with fail
      refine (HA.out _ _ ?_ ?_ ?_ ?_ ?_ ?_).mono ?_
      iterate 6 (simp [go_sem])
      rintro e w1 ⟨rfl, J1, d1, rfl⟩
      go_wp2_with (first | (go_at_call 40; refine (HT.out _).mono ?_; clear HT; rintro e w1 ⟨rfl, J4, d4, rfl⟩) | (go_at_call 153; refine (HB1.out _).mono ?_; clear HB1; rintro e w1 ⟨rfl, rfl⟩) | (go_at_call 153; refine (HB2.out _).mono ?_; clear HB2; rintro e w1 ⟨rfl, rfl⟩))
      go_ret
      exact ⟨retB (by simp [hT]), junk_of_below (by (repeat' (first | (with_reducible exact Below.refl _ _) | (with_reducible assumption) | (with_reducible refine Below.alloc ?_ ?_ _) | (with_reducible refine Below.drew ?_) | (with_reducible refine below_drewN ?_ _) | (with_reducible refine below_plus ?_ ?_ _ _) | (with_reducible refine Below.setCell ?_ ?_ _) | (with_reducible refine Below.setRow ?_ ?_ _) | go_size)))⟩
    subst hT
    cases P4 with
    | false =>
      go_enter Tryz.func151, Tryz.ntmps151
      go_wp2_with fail
      refine (HA.out _ _ ?_ ?_ ?_ ?_ ?_ ?_).mono ?_
      iterate 6 (simp [go_sem])
      rintro e w1 ⟨rfl, J1, d1, rfl⟩
      go_wp2_with (first | (go_at_call 40; refine (HT.out _).mono ?_; clear HT; rintro e w1 ⟨rfl, J4, d4, rfl⟩) | (go_at_call 153; refine (HB1.out _).mono ?_; clear HB1; rintro e w1 ⟨rfl, rfl⟩) | (go_at_call 153; refine (HB2.out _).mono ?_; clear HB2; rintro e w1 ⟨rfl, rfl⟩))
      go_ret
      exact ⟨retB (by simp), junk_of_below (by (repeat' (first | (with_reducible exact Below.refl _ _) | (with_reducible assumption) | (with_reducible refine Below.alloc ?_ ?_ _) | (with_reducible refine Below.drew ?_) | (with_reducible refine below_drewN ?_ _) | (with_reducible refine below_plus ?_ ?_ _ _) | (with_reducible refine Below.setCell ?_ ?_ _) | (with_reducible refine Below.setRow ?_ ?_ _) | go_size)))⟩
    | true =>
      go_enter Tryz.func151, Tryz.ntmps151
      go_wp2_with fail
      refine (HA.out _ _ ?_ ?_ ?_ ?_ ?_ ?_).mono ?_
      iterate 6 (simp [go_sem])
      rintro e w1 ⟨rfl, J1, d1, rfl⟩
      go_wp2_with (first | (go_at_call 40; refine (HT.out _).mono ?_; clear HT; rintro e w1 ⟨rfl, J4, d4, rfl⟩) | (go_at_call 153; refine (HB1.out _).mono ?_; clear HB1; rintro e w1 ⟨rfl, rfl⟩) | (go_at_call 153; refine (HB2.out _).mono ?_; clear HB2; rintro e w1 ⟨rfl, rfl⟩))
      go_ret
      exact ⟨retB (by simp), junk_of_below (by (repeat' (first | (with_reducible exact Below.refl _ _) | (with_reducible assumption) | (with_reducible refine Below.alloc ?_ ?_ _) | (with_reducible refine Below.drew ?_) | (with_reducible refine below_drewN ?_ _) | (with_reducible refine below_plus ?_ ?_ _ _) | (with_reducible refine Below.setCell ?_ ?_ _) | (with_reducible refine Below.setRow ?_ ?_ _) | go_size)))⟩

end Go.Proofs.YtegliapkbapigaaGreat

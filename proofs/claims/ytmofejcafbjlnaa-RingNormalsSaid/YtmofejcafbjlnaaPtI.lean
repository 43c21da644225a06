/- Contracts of package point: On, Move. -/
import Derived.Test.YtmofejcafbjlnaaPtH
namespace Go.Proofs.Ytmofejcafbjlnaa
set_option linter.unusedVariables false
set_option linter.unusedSimpArgs false
open Go.RowKit

set_option maxRecDepth 100000 in
set_option maxHeartbeats 2000000 in
theorem n_ptOn (px py ax ay bx by_ : Int) (w : World) : Calls Try.prog 96 #[pt px py, pt ax ay, pt bx by_] w fun e w' => e = .returned (.bool (onB px py ax ay bx by_)) ∧ Junk w w' := by
  rw [onB_eq]
  have HA := Lib.hid (fun W b h0 h1 h2 h3 h4 h5 => n_ptAll3 W b px py ax ay bx by_ h0 h1 h2 h3 h4 h5)
  have HT := Lib.hid (fun w' => n_ptTurn ax ay bx by_ px py w')
  have HB1 := Lib.hid (fun w' => n_ptBetween px ax bx w')
  have HB2 := Lib.hid (fun w' => n_ptBetween py ay by_ w')
  unfold pt at *
  generalize (okP px py && okP ax ay && okP bx by_) = P1 at *
  generalize decide (btw px ax bx) = P4 at *
  generalize decide (btw py ay by_) = P5 at *
  generalize turnF ax ay bx by_ px py = T at *
  cases P1 with
  | false =>
    go_enter Try.func96, Try.ntmps96
    go_wp2_with fail
    refine (HA.out _ _ ?_ ?_ ?_ ?_ ?_ ?_).mono ?_
    iterate 6 (simp [go_sem])
    rintro e w1 ⟨rfl, J1, d1, rfl⟩
    go_wp2_with (first | (go_at_call 46; refine (HT.out _).mono ?_; clear HT; rintro e w1 ⟨rfl, J4, d4, rfl⟩) | (go_at_call 104; refine (HB1.out _).mono ?_; clear HB1; rintro e w1 ⟨rfl, rfl⟩) | (go_at_call 104; refine (HB2.out _).mono ?_; clear HB2; rintro e w1 ⟨rfl, rfl⟩))
    go_ret
    exact ⟨retB (by simp), junk_of_below (by (repeat' (first | (with_reducible exact Below.refl _ _) | (with_reducible assumption) | (with_reducible refine Below.alloc ?_ ?_ _) | (with_reducible refine Below.drew ?_) | (with_reducible refine below_drewN ?_ _) | (with_reducible refine below_plus ?_ ?_ _ _) | (with_reducible refine Below.setCell ?_ ?_ _) | (with_reducible refine Below.setRow ?_ ?_ _) | go_size)))⟩
  | true =>
    by_cases hT : T = 0
    case neg =>
      have hT2 : (T == 0) = false := by rw [beq_eq_false_iff_ne]; exact hT
      go_enter Try.func96, Try.ntmps96
      go_wp2_with fail
      refine (HA.out _ _ ?_ ?_ ?_ ?_ ?_ ?_).mono ?_
      iterate 6 (simp [go_sem])
      rintro e w1 ⟨rfl, J1, d1, rfl⟩
      go_wp2_with (first | (go_at_call 46; refine (HT.out _).mono ?_; clear HT; rintro e w1 ⟨rfl, J4, d4, rfl⟩) | (go_at_call 104; refine (HB1.out _).mono ?_; clear HB1; rintro e w1 ⟨rfl, rfl⟩) | (go_at_call 104; refine (HB2.out _).mono ?_; clear HB2; rintro e w1 ⟨rfl, rfl⟩))
      go_ret
      exact ⟨retB (by simp [hT]), junk_of_below (by (repeat' (first | (with_reducible exact Below.refl _ _) | (with_reducible assumption) | (with_reducible refine Below.alloc ?_ ?_ _) | (with_reducible refine Below.drew ?_) | (with_reducible refine below_drewN ?_ _) | (with_reducible refine below_plus ?_ ?_ _ _) | (with_reducible refine Below.setCell ?_ ?_ _) | (with_reducible refine Below.setRow ?_ ?_ _) | go_size)))⟩
    subst hT
    cases P4 with
    | false =>
      go_enter Try.func96, Try.ntmps96
      go_wp2_with fail
      refine (HA.out _ _ ?_ ?_ ?_ ?_ ?_ ?_).mono ?_
      iterate 6 (simp [go_sem])
      rintro e w1 ⟨rfl, J1, d1, rfl⟩
      go_wp2_with (first | (go_at_call 46; refine (HT.out _).mono ?_; clear HT; rintro e w1 ⟨rfl, J4, d4, rfl⟩) | (go_at_call 104; refine (HB1.out _).mono ?_; clear HB1; rintro e w1 ⟨rfl, rfl⟩) | (go_at_call 104; refine (HB2.out _).mono ?_; clear HB2; rintro e w1 ⟨rfl, rfl⟩))
      go_ret
      exact ⟨retB (by simp), junk_of_below (by (repeat' (first | (with_reducible exact Below.refl _ _) | (with_reducible assumption) | (with_reducible refine Below.alloc ?_ ?_ _) | (with_reducible refine Below.drew ?_) | (with_reducible refine below_drewN ?_ _) | (with_reducible refine below_plus ?_ ?_ _ _) | (with_reducible refine Below.setCell ?_ ?_ _) | (with_reducible refine Below.setRow ?_ ?_ _) | go_size)))⟩
    | true =>
      go_enter Try.func96, Try.ntmps96
      go_wp2_with fail
      refine (HA.out _ _ ?_ ?_ ?_ ?_ ?_ ?_).mono ?_
      iterate 6 (simp [go_sem])
      rintro e w1 ⟨rfl, J1, d1, rfl⟩
      go_wp2_with (first | (go_at_call 46; refine (HT.out _).mono ?_; clear HT; rintro e w1 ⟨rfl, J4, d4, rfl⟩) | (go_at_call 104; refine (HB1.out _).mono ?_; clear HB1; rintro e w1 ⟨rfl, rfl⟩) | (go_at_call 104; refine (HB2.out _).mono ?_; clear HB2; rintro e w1 ⟨rfl, rfl⟩))
      go_ret
      exact ⟨retB (by simp), junk_of_below (by (repeat' (first | (with_reducible exact Below.refl _ _) | (with_reducible assumption) | (with_reducible refine Below.alloc ?_ ?_ _) | (with_reducible refine Below.drew ?_) | (with_reducible refine below_drewN ?_ _) | (with_reducible refine below_plus ?_ ?_ _ _) | (with_reducible refine Below.setCell ?_ ?_ _) | (with_reducible refine Below.setRow ?_ ?_ _) | go_size)))⟩

set_option maxRecDepth 100000 in
set_option maxHeartbeats 1000000 in
theorem n_ptMove (x y u v : Int) (w : World) : Calls Try.prog 30 #[pt x y, pt u v] w fun e w' => e = .returned (.tuple #[pt (moveX x y u v) (moveY x y u v), .int .i64 (moveE x y u v)]) ∧ Junk w w' := by
  have HA := Lib.hid (fun W b h0 h1 h2 h3 => n_ptAll2 W b x y u v h0 h1 h2 h3)
  have H3 := Lib.hid (fun w' => n_ptValid (x + u) (y + v) w')
  unfold moveX moveY moveE
  cases h1 : okP x y && okP u v with
  | false =>
    rw [h1] at HA
    simp only [Bool.false_eq_true, if_false, show ¬ (2 : Int) = 0 by decide]
    unfold pt at *
    clear h1
    go_enter Try.func30, Try.ntmps30
    go_wp2_with fail
    refine (HA.out _ _ ?_ ?_ ?_ ?_).mono ?_
    iterate 4 (simp [go_sem])
    rintro e w1 ⟨rfl, J1, d1, rfl⟩
    go_wp2
    refine bodyPost_ret (results_pt rfl _ _ (w.heap.size + 1 + 1) #[.int .i64 0, .int .i64 0] rfl (by simp [go_sem]) rfl) rfl ⟨rfl, junk_of_below (by (repeat' (first | (with_reducible exact Below.refl _ _) | (with_reducible assumption) | (with_reducible refine Below.alloc ?_ ?_ _) | (with_reducible refine Below.drew ?_) | (with_reducible refine below_drewN ?_ _) | (with_reducible refine below_plus ?_ ?_ _ _) | (with_reducible refine Below.setCell ?_ ?_ _) | (with_reducible refine Below.setRow ?_ ?_ _) | go_size)))⟩
  | true =>
    rw [h1] at HA
    rw [Bool.and_eq_true] at h1
    obtain ⟨h1, h2⟩ := h1
    obtain ⟨⟨a1, a2⟩, a3, a4⟩ := okP_iff.1 h1
    obtain ⟨⟨b1, b2⟩, b3, b4⟩ := okP_iff.1 h2
    have c1 : IntKind.i64.wrap (x + u) = x + u := by simp [IntKind.wrap, IntKind.signed, IntKind.bits]; omega
    have c2 : IntKind.i64.wrap (y + v) = y + v := by simp [IntKind.wrap, IntKind.signed, IntKind.bits]; omega
    cases h3 : okP (x + u) (y + v) with
    | false =>
      rw [h3] at H3
      simp only [if_true, Bool.false_eq_true, if_false, show ¬ (5 : Int) = 0 by decide]
      unfold pt at *
      clear h1 h2 h3
      go_enter Try.func30, Try.ntmps30
      go_wp2_with fail
      refine (HA.out _ _ ?_ ?_ ?_ ?_).mono ?_
      iterate 4 (simp [go_sem])
      rintro e w1 ⟨rfl, J1, d1, rfl⟩
      go_wp2_with (go_at_call 55; refine (H3.out _).mono ?_; rintro e w1 ⟨rfl, J3, d3, rfl⟩)
      refine bodyPost_ret (results_pt rfl _ _ (w.heap.size + 1 + 1) #[.int .i64 0, .int .i64 0] rfl (by simp [go_sem]) rfl) rfl ⟨rfl, junk_of_below (by (repeat' (first | (with_reducible exact Below.refl _ _) | (with_reducible assumption) | (with_reducible refine Below.alloc ?_ ?_ _) | (with_reducible refine Below.drew ?_) | (with_reducible refine below_drewN ?_ _) | (with_reducible refine below_plus ?_ ?_ _ _) | (with_reducible refine Below.setCell ?_ ?_ _) | (with_reducible refine Below.setRow ?_ ?_ _) | go_size)))⟩
    | true =>
      rw [h3] at H3
      simp only [if_true]
      unfold pt at *
      clear h1 h2 h3
      go_enter Try.func30, Try.ntmps30
      go_wp2_with fail
      refine (HA.out _ _ ?_ ?_ ?_ ?_).mono ?_
      iterate 4 (simp [go_sem])
      rintro e w1 ⟨rfl, J1, d1, rfl⟩
      go_wp2_with (go_at_call 55; refine (H3.out _).mono ?_; rintro e w1 ⟨rfl, J3, d3, rfl⟩)
      refine bodyPost_ret (results_pt rfl _ _ (w.heap.size + 1 + 1) #[.int .i64 (x + u), .int .i64 (y + v)] rfl (by simp [go_sem]) rfl) rfl ⟨rfl, junk_of_below (by (repeat' (first | (with_reducible exact Below.refl _ _) | (with_reducible assumption) | (with_reducible refine Below.alloc ?_ ?_ _) | (with_reducible refine Below.drew ?_) | (with_reducible refine below_drewN ?_ _) | (with_reducible refine below_plus ?_ ?_ _ _) | (with_reducible refine Below.setCell ?_ ?_ _) | (with_reducible refine Below.setRow ?_ ?_ _) | go_size)))⟩
end Go.Proofs.Ytmofejcafbjlnaa

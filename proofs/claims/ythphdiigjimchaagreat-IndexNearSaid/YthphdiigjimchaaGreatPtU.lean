/- Contracts of apportionref07: Turn, On. -/
import Derived.Test.YthphdiigjimchaaGreatPtOne
import Derived.Test.YthphdiigjimchaaGreatNumRest
namespace Go.Proofs.YthphdiigjimchaaGreat
set_option linter.unusedVariables false
set_option linter.unusedSimpArgs false
open Go.RowKit
def turnF (ax ay bx by_ cx cy : Int) : Int := if okP ax ay && okP bx by_ && okP cx cy then sgn (detP ax ay bx by_ cx cy) else 0
def onB (px py ax ay bx by_ : Int) : Bool := okP px py && okP ax ay && okP bx by_ && decide (onF px py ax ay bx by_)
set_option maxRecDepth 100000 in
set_option maxHeartbeats 1000000 in
theorem r_ptTurn (ax ay bx by_ cx cy : Int) (w : World) : Calls Tryz.prog 109 #[pt ax ay, pt bx by_, pt cx cy] w fun e w' => e = .returned (.int .i64 (turnF ax ay bx by_ cx cy)) ∧ Junk w w' := by
  unfold turnF
  have H1 := Lib.hid (fun w' => r_ptValid ax ay w')
  have H2 := Lib.hid (fun w' => r_ptValid bx by_ w')
  have H3 := Lib.hid (fun w' => r_ptValid cx cy w')
  cases h1 : okP ax ay with
  | false =>
    rw [h1] at H1
    simp only [Bool.false_and, Bool.false_eq_true, if_false]
    unfold pt at *
    clear h1
    go_enter Tryz.func109, Tryz.ntmps109
    go_wp2_with (go_at_call 82; refine (H1.out _).mono ?_; clear H1; rintro e w1 ⟨rfl, J1, d1, rfl⟩)
    go_ret
    exact ⟨rfl, junk_of_below (by (repeat' first | with_reducible (first | apply Below.refl | assumption | apply bw_a | apply bw_d | apply bw_n | apply bw_p | apply bw_c | apply bw_r) | go_size))⟩
  | true =>
    rw [h1] at H1
    cases h2 : okP bx by_ with
    | false =>
      rw [h2] at H2
      simp only [Bool.true_and, Bool.false_and, Bool.false_eq_true, if_false]
      unfold pt at *
      clear h1 h2
      go_enter Tryz.func109, Tryz.ntmps109
      go_wp2_with (first | (go_at_call 82; refine (H1.out _).mono ?_; clear H1; rintro e w1 ⟨rfl, J1, d1, rfl⟩) | (go_at_call 82; refine (H2.out _).mono ?_; clear H2; rintro e w1 ⟨rfl, J2, d2, rfl⟩))
      go_ret
      exact ⟨rfl, junk_of_below (by (repeat' first | with_reducible (first | apply Below.refl | assumption | apply bw_a | apply bw_d | apply bw_n | apply bw_p | apply bw_c | apply bw_r) | go_size))⟩
    | true =>
      rw [h2] at H2
      cases h3 : okP cx cy with
      | false =>
        rw [h3] at H3
        simp only [Bool.true_and, Bool.false_eq_true, if_false]
        unfold pt at *
        clear h1 h2 h3
        go_enter Tryz.func109, Tryz.ntmps109
        go_wp2_with (first | (go_at_call 82; refine (H1.out _).mono ?_; clear H1; rintro e w1 ⟨rfl, J1, d1, rfl⟩) | (go_at_call 82; refine (H2.out _).mono ?_; clear H2; rintro e w1 ⟨rfl, J2, d2, rfl⟩) | (go_at_call 82; refine (H3.out _).mono ?_; clear H3; rintro e w1 ⟨rfl, J3, d3, rfl⟩))
        go_ret
        exact ⟨rfl, junk_of_below (by (repeat' first | with_reducible (first | apply Below.refl | assumption | apply bw_a | apply bw_d | apply bw_n | apply bw_p | apply bw_c | apply bw_r) | go_size))⟩
      | true =>
        rw [h3] at H3
        simp only [Bool.and_self, if_true]
        obtain ⟨⟨a1, a2⟩, a3, a4⟩ := okP_iff.1 h1
        obtain ⟨⟨b1, b2⟩, b3, b4⟩ := okP_iff.1 h2
        obtain ⟨⟨c1, c2⟩, c3, c4⟩ := okP_iff.1 h3
        have e1 : IntKind.i64.wrap (bx - ax) = bx - ax := by simp [IntKind.wrap, IntKind.signed, IntKind.bits]; omega
        have e2 : IntKind.i64.wrap (cy - ay) = cy - ay := by simp [IntKind.wrap, IntKind.signed, IntKind.bits]; omega
        have e3 : IntKind.i64.wrap (by_ - ay) = by_ - ay := by simp [IntKind.wrap, IntKind.signed, IntKind.bits]; omega
        have e4 : IntKind.i64.wrap (cx - ax) = cx - ax := by simp [IntKind.wrap, IntKind.signed, IntKind.bits]; omega
        have HS := Lib.hid (fun w' => r_Sign (bx - ax) (cy - ay) (by_ - ay) (cx - ax) (by omega) (by omega) (by omega) (by omega) (by omega) (by omega) (by omega) (by omega) w')
        have HD := Lib.hid (show sgn ((bx - ax) * (cy - ay) - (by_ - ay) * (cx - ax)) = sgn (detP ax ay bx by_ cx cy) from rfl)
        rw [HD.out] at HS
        unfold pt at *
        clear h1 h2 h3 HD
        go_enter Tryz.func109, Tryz.ntmps109
        go_wp2_with (first | (go_at_call 82; refine (H1.out _).mono ?_; clear H1; rintro e w1 ⟨rfl, J1, d1, rfl⟩) | (go_at_call 82; refine (H2.out _).mono ?_; clear H2; rintro e w1 ⟨rfl, J2, d2, rfl⟩) | (go_at_call 82; refine (H3.out _).mono ?_; clear H3; rintro e w1 ⟨rfl, J3, d3, rfl⟩) | (go_at_call 146; refine (HS.out _).mono ?_; rintro e w1 ⟨rfl, J4, d4, rfl⟩))
        go_ret
        exact ⟨rfl, junk_of_below (by (repeat' first | with_reducible (first | apply Below.refl | assumption | apply bw_a | apply bw_d | apply bw_n | apply bw_p | apply bw_c | apply bw_r) | go_size))⟩
theorem onB_eq (px py ax ay bx by_ : Int) : onB px py ax ay bx by_ = (okP px py && okP ax ay && okP bx by_ && (turnF ax ay bx by_ px py == 0) && decide (btw px ax bx) && decide (btw py ay by_)) := by
  unfold onB turnF
  cases okP px py <;> cases okP ax ay <;> cases okP bx by_ <;> try rfl
  simp only [Bool.and_self, Bool.true_and, if_true]
  have h := sgn_cases (detP ax ay bx by_ px py)
  rw [Bool.eq_iff_iff, decide_eq_true_iff, Bool.and_eq_true, Bool.and_eq_true, beq_iff_eq, decide_eq_true_iff, decide_eq_true_iff]
  unfold onF
  constructor
  · rintro ⟨a, b, c⟩
    exact ⟨⟨by omega, b⟩, c⟩
  · rintro ⟨⟨a, b⟩, c⟩
    exact ⟨by omega, b, c⟩
set_option maxRecDepth 100000 in
set_option maxHeartbeats 2000000 in
theorem r_ptOn (px py ax ay bx by_ : Int) (w : World) : Calls Tryz.prog 110 #[pt px py, pt ax ay, pt bx by_] w fun e w' => e = .returned (.bool (onB px py ax ay bx by_)) ∧ Junk w w' := by
  rw [onB_eq]
  have H1 := Lib.hid (fun w' => r_ptValid px py w')
  have H2 := Lib.hid (fun w' => r_ptValid ax ay w')
  have H3 := Lib.hid (fun w' => r_ptValid bx by_ w')
  have HT := Lib.hid (fun w' => r_ptTurn ax ay bx by_ px py w')
  have HB1 := Lib.hid (fun w' => r_ptBetween px ax bx w')
  have HB2 := Lib.hid (fun w' => r_ptBetween py ay by_ w')
  unfold pt at *
  generalize okP px py = P1 at *
  generalize okP ax ay = P2 at *
  generalize okP bx by_ = P3 at *
  generalize decide (btw px ax bx) = P4 at *
  generalize decide (btw py ay by_) = P5 at *
  generalize turnF ax ay bx by_ px py = T at *
  cases P1 with
  | false =>
    go_enter Tryz.func110, Tryz.ntmps110
    go_wp2_with (first | (go_at_call 82; refine (H1.out _).mono ?_; clear H1; rintro e w1 ⟨rfl, J1, d1, rfl⟩) | (go_at_call 82; refine (H2.out _).mono ?_; clear H2; rintro e w1 ⟨rfl, J2, d2, rfl⟩) | (go_at_call 82; refine (H3.out _).mono ?_; clear H3; rintro e w1 ⟨rfl, J3, d3, rfl⟩) | (go_at_call 109; refine (HT.out _).mono ?_; clear HT; rintro e w1 ⟨rfl, J4, d4, rfl⟩) | (go_at_call 147; refine (HB1.out _).mono ?_; clear HB1; rintro e w1 ⟨rfl, rfl⟩) | (go_at_call 147; refine (HB2.out _).mono ?_; clear HB2; rintro e w1 ⟨rfl, rfl⟩))
    go_ret
    exact ⟨retB (by simp), junk_of_below (by (repeat' first | with_reducible (first | apply Below.refl | assumption | apply bw_a | apply bw_d | apply bw_n | apply bw_p | apply bw_c | apply bw_r) | go_size))⟩
  | true =>
    cases P2 with
    | false =>
      go_enter Tryz.func110, Tryz.ntmps110
      go_wp2_with (first | (go_at_call 82; refine (H1.out _).mono ?_; clear H1; rintro e w1 ⟨rfl, J1, d1, rfl⟩) | (go_at_call 82; refine (H2.out _).mono ?_; clear H2; rintro e w1 ⟨rfl, J2, d2, rfl⟩) | (go_at_call 82; refine (H3.out _).mono ?_; clear H3; rintro e w1 ⟨rfl, J3, d3, rfl⟩) | (go_at_call 109; refine (HT.out _).mono ?_; clear HT; rintro e w1 ⟨rfl, J4, d4, rfl⟩) | (go_at_call 147; refine (HB1.out _).mono ?_; clear HB1; rintro e w1 ⟨rfl, rfl⟩) | (go_at_call 147; refine (HB2.out _).mono ?_; clear HB2; rintro e w1 ⟨rfl, rfl⟩))
      go_ret
      exact ⟨retB (by simp), junk_of_below (by (repeat' first | with_reducible (first | apply Below.refl | assumption | apply bw_a | apply bw_d | apply bw_n | apply bw_p | apply bw_c | apply bw_r) | go_size))⟩
    | true =>
      cases P3 with
      | false =>
        go_enter Tryz.func110, Tryz.ntmps110
        go_wp2_with (first | (go_at_call 82; refine (H1.out _).mono ?_; clear H1; rintro e w1 ⟨rfl, J1, d1, rfl⟩) | (go_at_call 82; refine (H2.out _).mono ?_; clear H2; rintro e w1 ⟨rfl, J2, d2, rfl⟩) | (go_at_call 82; refine (H3.out _).mono ?_; clear H3; rintro e w1 ⟨rfl, J3, d3, rfl⟩) | (go_at_call 109; refine (HT.out _).mono ?_; clear HT; rintro e w1 ⟨rfl, J4, d4, rfl⟩) | (go_at_call 147; refine (HB1.out _).mono ?_; clear HB1; rintro e w1 ⟨rfl, rfl⟩) | (go_at_call 147; refine (HB2.out _).mono ?_; clear HB2; rintro e w1 ⟨rfl, rfl⟩))
        go_ret
        exact ⟨retB (by simp), junk_of_below (by (repeat' first | with_reducible (first | apply Below.refl | assumption | apply bw_a | apply bw_d | apply bw_n | apply bw_p | apply bw_c | apply bw_r) | go_size))⟩
      | true =>
        by_cases hT : T = 0
        case neg =>
          have hT2 : (T == 0) = false := by rw [beq_eq_false_iff_ne]; exact hT
          go_enter Tryz.func110, Tryz.ntmps110
          go_wp2_with (first | (go_at_call 82; refine (H1.out _).mono ?_; clear H1; rintro e w1 ⟨rfl, J1, d1, rfl⟩) | (go_at_call 82; refine (H2.out _).mono ?_; clear H2; rintro e w1 ⟨rfl, J2, d2, rfl⟩) | (go_at_call 82; refine (H3.out _).mono ?_; clear H3; rintro e w1 ⟨rfl, J3, d3, rfl⟩) | (go_at_call 109; refine (HT.out _).mono ?_; clear HT; rintro e w1 ⟨rfl, J4, d4, rfl⟩) | (go_at_call 147; refine (HB1.out _).mono ?_; clear HB1; rintro e w1 ⟨rfl, rfl⟩) | (go_at_call 147; refine (HB2.out _).mono ?_; clear HB2; rintro e w1 ⟨rfl, rfl⟩))
          go_ret
          exact ⟨retB (by simp [hT]), junk_of_below (by (repeat' first | with_reducible (first | apply Below.refl | assumption | apply bw_a | apply bw_d | apply bw_n | apply bw_p | apply bw_c | apply bw_r) | go_size))⟩
        subst hT
        cases P4 with
        | false =>
          go_enter Tryz.func110, Tryz.ntmps110
          go_wp2_with (first | (go_at_call 82; refine (H1.out _).mono ?_; clear H1; rintro e w1 ⟨rfl, J1, d1, rfl⟩) | (go_at_call 82; refine (H2.out _).mono ?_; clear H2; rintro e w1 ⟨rfl, J2, d2, rfl⟩) | (go_at_call 82; refine (H3.out _).mono ?_; clear H3; rintro e w1 ⟨rfl, J3, d3, rfl⟩) | (go_at_call 109; refine (HT.out _).mono ?_; clear HT; rintro e w1 ⟨rfl, J4, d4, rfl⟩) | (go_at_call 147; refine (HB1.out _).mono ?_; clear HB1; rintro e w1 ⟨rfl, rfl⟩) | (go_at_call 147; refine (HB2.out _).mono ?_; clear HB2; rintro e w1 ⟨rfl, rfl⟩))
          go_ret
          exact ⟨retB (by simp), junk_of_below (by (repeat' first | with_reducible (first | apply Below.refl | assumption | apply bw_a | apply bw_d | apply bw_n | apply bw_p | apply bw_c | apply bw_r) | go_size))⟩
        | true =>
          go_enter Tryz.func110, Tryz.ntmps110
          go_wp2_with (first | (go_at_call 82; refine (H1.out _).mono ?_; clear H1; rintro e w1 ⟨rfl, J1, d1, rfl⟩) | (go_at_call 82; refine (H2.out _).mono ?_; clear H2; rintro e w1 ⟨rfl, J2, d2, rfl⟩) | (go_at_call 82; refine (H3.out _).mono ?_; clear H3; rintro e w1 ⟨rfl, J3, d3, rfl⟩) | (go_at_call 109; refine (HT.out _).mono ?_; clear HT; rintro e w1 ⟨rfl, J4, d4, rfl⟩) | (go_at_call 147; refine (HB1.out _).mono ?_; clear HB1; rintro e w1 ⟨rfl, rfl⟩) | (go_at_call 147; refine (HB2.out _).mono ?_; clear HB2; rintro e w1 ⟨rfl, rfl⟩))
          go_ret
          exact ⟨retB (by simp), junk_of_below (by (repeat' first | with_reducible (first | apply Below.refl | assumption | apply bw_a | apply bw_d | apply bw_n | apply bw_p | apply bw_c | apply bw_r) | go_size))⟩
end Go.Proofs.YthphdiigjimchaaGreat

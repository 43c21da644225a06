/- Contract of point.Compare. Contracts of package point: Turn, On. Contracts of package point: On, Move. -/
import Derived.Test.YthphdiigjimchaaGreatPtOne
import Derived.Test.YthphdiigjimchaaGreatWideB
import Derived.Test.YthphdiigjimchaaGreatKitOne
import Derived.Test.YthphdiigjimchaaGreatKitTwo
import Derived.Test.YthphdiigjimchaaGreatPtU
namespace Go.Proofs.YthphdiigjimchaaGreat
section
set_option linter.unusedVariables false
set_option linter.unusedSimpArgs false
open Go.RowKit
theorem cmpF_sgn (ax ay bx by_ : Int) : (if sgn (ay - by_) = 0 then sgn (ax - bx) else sgn (ay - by_)) = cmpF ax ay bx by_ := by
  have h1 := sgn_cases (ay - by_)
  have h2 := sgn_cases (ax - bx)
  unfold cmpF
  rcases h1 with ⟨h1, e1⟩ | ⟨h1, e1⟩ | ⟨h1, e1⟩ <;> rcases h2 with ⟨h2, e2⟩ | ⟨h2, e2⟩ | ⟨h2, e2⟩ <;> rw [e1, e2] <;> repeat' split <;> first | rfl | omega
set_option maxRecDepth 100000 in
set_option maxHeartbeats 1000000 in
theorem n_ptCompare (ax ay bx by_ : Int) (w : World) : Calls Tryz.prog 152 #[pt ax ay, pt bx by_] w fun e w' => e = .returned (.int .i64 (cmpF ax ay bx by_)) ∧ Junk w w' := by
  rw [← cmpF_sgn]
  have H1 := Lib.hid (fun w' => w_cmp ay by_ w')
  have H2 := Lib.hid (fun w' => w_cmp ax bx w')
  generalize sgn (ay - by_) = p at *
  generalize sgn (ax - bx) = q at *
  obtain ⟨r, hr⟩ : ∃ r, (if p = 0 then q else p) = r := ⟨_, rfl⟩
  rw [hr]
  have HO := Lib.hid (show ∀ (b : Nat) (w' : World), w'.cell? ⟨b, 0, none⟩ = some (.int .i64 p) → w'.cell? ⟨b, 1, none⟩ = some (.int .i64 q) → Calls Tryz.prog 105 #[.slice (some ⟨b, 0, none⟩) 2 2] w' fun e w'' => e = .returned (.int .i64 r) ∧ w' = w'' from by
    intro b w' h0 h1
    rw [← hr]
    exact w_or2 p q b w' h0 h1)
  clear hr
  unfold pt
  go_enter Tryz.func152, Tryz.ntmps152
  go_upto_region 1 with fail
  refine region_quiet_tail (C := Cls ((w.alloc (.cells #[.int .i64 ax, .int .i64 ay] 42)).alloc (.cells #[.int .i64 bx, .int .i64 by_] 42))) 10 (by kernel_rfl) (by kernel_rfl) ⟨#[], _, (plus_nil _).symm⟩ ?_
  simp only [List.take_succ_cons, List.take_zero, List.drop_succ_cons, List.drop_zero]
  iterate 5 (refine wpQuiet_step (fun K hK => ?_); go_simp; first | (refine hK _ ?_; clear hK K) | (apply Exists.intro; refine ⟨?_, hK _ ?_⟩; (rintro w3_ ⟨J3_, d3_, rfl⟩; first | (with_reducible exact rfl) | (go_simp; with_reducible exact rfl) | (go_simp; refine (H1.out _).mono ?_; rintro e_ w_ ⟨rfl, rfl⟩; exact ⟨rfl, _, _, rfl⟩)); clear hK K))
  iterate 5 (refine wpQuiet_step (fun K hK => ?_); go_simp; first | (refine hK _ ?_; clear hK K) | (apply Exists.intro; refine ⟨?_, hK _ ?_⟩; (rintro w3_ ⟨J3_, d3_, rfl⟩; first | (with_reducible exact rfl) | (go_simp; with_reducible exact rfl) | (go_simp; refine (H2.out _).mono ?_; rintro e_ w_ ⟨rfl, rfl⟩; exact ⟨rfl, _, _, rfl⟩)); clear hK K))
  refine wpQuiet_nil ?_
  rintro w3 ⟨J3, d3, rfl⟩
  go_wp2_with fail
  refine (HO.out _ _ ?_ ?_).mono ?_
  · simp [go_sem]
  · simp [go_sem]
  rintro e w1 ⟨rfl, rfl⟩
  go_wp2
  go_ret
  exact ⟨rfl, junk_of_below (by (repeat' first | with_reducible (first | apply Below.refl | assumption | apply bw_a | apply bw_d | apply bw_n | apply bw_p | apply bw_c | apply bw_r) | go_size))⟩
end

section
set_option linter.unusedVariables false
set_option linter.unusedSimpArgs false
open Go.RowKit
theorem n_ptAll3 (W : World) (b : Nat) (ax ay bx by_ cx cy : Int) (h0 : W.cell? ⟨b, 0, none⟩ = some (.int .i64 ax)) (h1 : W.cell? ⟨b, 1, none⟩ = some (.int .i64 ay)) (h2 : W.cell? ⟨b, 2, none⟩ = some (.int .i64 bx))
    (h3 : W.cell? ⟨b, 3, none⟩ = some (.int .i64 by_)) (h4 : W.cell? ⟨b, 4, none⟩ = some (.int .i64 cx)) (h5 : W.cell? ⟨b, 5, none⟩ = some (.int .i64 cy)) :
    Calls Tryz.prog 67 #[.slice (some ⟨b, 0, none⟩) 3 3] W fun e w' => e = .returned (.bool (okP ax ay && okP bx by_ && okP cx cy)) ∧ Junk W w' := by
  have h := n_ptAll W (some ⟨b, 0, none⟩) 3 3 [(ax, ay), (bx, by_), (cx, cy)] ⟨rfl, .inr ⟨b, 0, rfl, fun i hi => by
    match i, hi with
    | 0, _ => exact ⟨h0, h1⟩
    | 1, _ => exact ⟨h2, h3⟩
    | 2, _ => exact ⟨h4, h5⟩⟩⟩ (by decide)
  refine h.mono fun e w' ⟨e1, e2⟩ => ⟨?_, e2⟩
  rw [e1]
  simp [allOk, Bool.and_assoc]
set_option maxRecDepth 100000 in
set_option maxHeartbeats 1000000 in
theorem n_ptTurn (ax ay bx by_ cx cy : Int) (w : World) : Calls Tryz.prog 97 #[pt ax ay, pt bx by_, pt cx cy] w fun e w' => e = .returned (.int .i64 (turnF ax ay bx by_ cx cy)) ∧ Junk w w' := by
  unfold turnF
  have HA := Lib.hid (fun W b h0 h1 h2 h3 h4 h5 => n_ptAll3 W b ax ay bx by_ cx cy h0 h1 h2 h3 h4 h5)
  cases hv : okP ax ay && okP bx by_ && okP cx cy with
  | false =>
    rw [hv] at HA
    simp only [Bool.false_eq_true, if_false]
    unfold pt
    clear hv
    go_enter Tryz.func97, Tryz.ntmps97
    go_wp2_with fail
    refine (HA.out _ _ ?_ ?_ ?_ ?_ ?_ ?_).mono ?_
    iterate 6 (simp [go_sem])
    rintro e w1 ⟨rfl, J1, d1, rfl⟩
    go_wp2
    go_ret
    exact ⟨rfl, junk_of_below (by (repeat' first | with_reducible (first | apply Below.refl | assumption | apply bw_a | apply bw_d | apply bw_n | apply bw_p | apply bw_c | apply bw_r) | go_size))⟩
  | true =>
    rw [hv] at HA
    simp only [if_true]
    rw [Bool.and_eq_true, Bool.and_eq_true] at hv
    obtain ⟨⟨v1, v2⟩, v3⟩ := hv
    obtain ⟨⟨a1, a2⟩, a3, a4⟩ := okP_iff.1 v1
    obtain ⟨⟨b1, b2⟩, b3, b4⟩ := okP_iff.1 v2
    obtain ⟨⟨c1, c2⟩, c3, c4⟩ := okP_iff.1 v3
    have e1 : IntKind.i64.wrap (bx - ax) = bx - ax := by simp [IntKind.wrap, IntKind.signed, IntKind.bits]; omega
    have e2 : IntKind.i64.wrap (cy - ay) = cy - ay := by simp [IntKind.wrap, IntKind.signed, IntKind.bits]; omega
    have e3 : IntKind.i64.wrap (by_ - ay) = by_ - ay := by simp [IntKind.wrap, IntKind.signed, IntKind.bits]; omega
    have e4 : IntKind.i64.wrap (cx - ax) = cx - ax := by simp [IntKind.wrap, IntKind.signed, IntKind.bits]; omega
    have HS := Lib.hid (show ∀ w', Calls Tryz.prog 123 #[.int .i64 (bx - ax), .int .i64 (cy - ay), .int .i64 (by_ - ay), .int .i64 (cx - ax)] w' fun e w'' => e = .returned (.int .i64 (sgn (detP ax ay bx by_ cx cy))) ∧ Junk w' w'' from
      fun w' => (w_Sign (bx - ax) (cy - ay) (by_ - ay) (cx - ax) (by omega) (by omega) (by omega) (by omega) (by omega) (by omega) (by omega) (by omega) w').mono fun e w'' ⟨h1, h2⟩ => ⟨h1, junk_of_below h2⟩)
    clear v1 v2 v3
    unfold pt
    go_enter Tryz.func97, Tryz.ntmps97
    go_wp2_with fail
    refine (HA.out _ _ ?_ ?_ ?_ ?_ ?_ ?_).mono ?_
    iterate 6 (simp [go_sem])
    rintro e w1 ⟨rfl, J1, d1, rfl⟩
    go_wp2_with (go_at_call 123; refine (HS.out _).mono ?_; rintro e w1 ⟨rfl, J4, d4, rfl⟩)
    go_ret
    exact ⟨rfl, junk_of_below (by (repeat' first | with_reducible (first | apply Below.refl | assumption | apply bw_a | apply bw_d | apply bw_n | apply bw_p | apply bw_c | apply bw_r) | go_size))⟩
end

section
set_option linter.unusedVariables false
set_option linter.unusedSimpArgs false
open Go.RowKit
set_option maxRecDepth 100000 in
set_option maxHeartbeats 2000000 in
theorem n_ptOn (px py ax ay bx by_ : Int) (w : World) : Calls Tryz.prog 215 #[pt px py, pt ax ay, pt bx by_] w fun e w' => e = .returned (.bool (onB px py ax ay bx by_)) ∧ Junk w w' := by
  rw [onB_eq]
  have HA := Lib.hid (fun W b h0 h1 h2 h3 h4 h5 => n_ptAll3 W b px py ax ay bx by_ h0 h1 h2 h3 h4 h5)
  have HT := Lib.hid (fun w' => n_ptTurn ax ay bx by_ px py w')
  have HB1 := Lib.hid (fun w' => n_ptBetween px ax bx w')
  have HB2 := Lib.hid (fun w' => n_ptBetween py ay by_ w')
  unfold pt at *
  generalize (okP px py && okP ax ay && okP bx by_) = P1 at *
  generalize decide (btw px ax bx) = P4 at *
  generalize decide (btw py ay by_) = P5 at *
  generalize turnF ax ay bx by_ px py = T at *
  cases P1 with
  | false =>
    go_enter Tryz.func215, Tryz.ntmps215
    go_wp2_with fail
    refine (HA.out _ _ ?_ ?_ ?_ ?_ ?_ ?_).mono ?_
    iterate 6 (simp [go_sem])
    rintro e w1 ⟨rfl, J1, d1, rfl⟩
    go_wp2_with (first | (go_at_call 97; refine (HT.out _).mono ?_; clear HT; rintro e w1 ⟨rfl, J4, d4, rfl⟩) | (go_at_call 217; refine (HB1.out _).mono ?_; clear HB1; rintro e w1 ⟨rfl, rfl⟩) | (go_at_call 217; refine (HB2.out _).mono ?_; clear HB2; rintro e w1 ⟨rfl, rfl⟩))
    go_ret
    exact ⟨retB (by simp), junk_of_below (by (repeat' first | with_reducible (first | apply Below.refl | assumption | apply bw_a | apply bw_d | apply bw_n | apply bw_p | apply bw_c | apply bw_r) | go_size))⟩
  | true =>
    by_cases hT : T = 0
    case neg =>
      have hT2 : (T == 0) = false := by rw [beq_eq_false_iff_ne]; exact hT
      go_enter Tryz.func215, Tryz.ntmps215
      go_wp2_with fail
      refine (HA.out _ _ ?_ ?_ ?_ ?_ ?_ ?_).mono ?_
      iterate 6 (simp [go_sem])
      rintro e w1 ⟨rfl, J1, d1, rfl⟩
      go_wp2_with (first | (go_at_call 97; refine (HT.out _).mono ?_; clear HT; rintro e w1 ⟨rfl, J4, d4, rfl⟩) | (go_at_call 217; refine (HB1.out _).mono ?_; clear HB1; rintro e w1 ⟨rfl, rfl⟩) | (go_at_call 217; refine (HB2.out _).mono ?_; clear HB2; rintro e w1 ⟨rfl, rfl⟩))
      go_ret
      exact ⟨retB (by simp [hT]), junk_of_below (by (repeat' first | with_reducible (first | apply Below.refl | assumption | apply bw_a | apply bw_d | apply bw_n | apply bw_p | apply bw_c | apply bw_r) | go_size))⟩
    subst hT
    cases P4 with
    | false =>
      go_enter Tryz.func215, Tryz.ntmps215
      go_wp2_with fail
      refine (HA.out _ _ ?_ ?_ ?_ ?_ ?_ ?_).mono ?_
      iterate 6 (simp [go_sem])
      rintro e w1 ⟨rfl, J1, d1, rfl⟩
      go_wp2_with (first | (go_at_call 97; refine (HT.out _).mono ?_; clear HT; rintro e w1 ⟨rfl, J4, d4, rfl⟩) | (go_at_call 217; refine (HB1.out _).mono ?_; clear HB1; rintro e w1 ⟨rfl, rfl⟩) | (go_at_call 217; refine (HB2.out _).mono ?_; clear HB2; rintro e w1 ⟨rfl, rfl⟩))
      go_ret
      exact ⟨retB (by simp), junk_of_below (by (repeat' first | with_reducible (first | apply Below.refl | assumption | apply bw_a | apply bw_d | apply bw_n | apply bw_p | apply bw_c | apply bw_r) | go_size))⟩
    | true =>
      go_enter Tryz.func215, Tryz.ntmps215
      go_wp2_with fail
      refine (HA.out _ _ ?_ ?_ ?_ ?_ ?_ ?_).mono ?_
      iterate 6 (simp [go_sem])
      rintro e w1 ⟨rfl, J1, d1, rfl⟩
      go_wp2_with (first | (go_at_call 97; refine (HT.out _).mono ?_; clear HT; rintro e w1 ⟨rfl, J4, d4, rfl⟩) | (go_at_call 217; refine (HB1.out _).mono ?_; clear HB1; rintro e w1 ⟨rfl, rfl⟩) | (go_at_call 217; refine (HB2.out _).mono ?_; clear HB2; rintro e w1 ⟨rfl, rfl⟩))
      go_ret
      exact ⟨retB (by simp), junk_of_below (by (repeat' first | with_reducible (first | apply Below.refl | assumption | apply bw_a | apply bw_d | apply bw_n | apply bw_p | apply bw_c | apply bw_r) | go_size))⟩
end
end Go.Proofs.YthphdiigjimchaaGreat

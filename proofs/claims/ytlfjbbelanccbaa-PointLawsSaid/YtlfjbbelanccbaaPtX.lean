/- The law PointLaws: the walk. -/
import Derived.Test.YtlfjbbelanccbaaPtW
namespace Go.Proofs.Ytlfjbbelanccbaa
set_option linter.unusedVariables false
set_option linter.unusedSimpArgs false
open Go.RowKit

set_option maxRecDepth 100000 in
set_option maxHeartbeats 4000000 in
theorem laws_not (w : World) (ax ay bx by_ cx cy ux uy : Int) (h : (okP ax ay && okP bx by_ && okP cx cy) = false) :
    Calls Try.prog 5 #[pt ax ay, pt bx by_, pt cx cy, pt ux uy] w fun e w' => e = .returned (.bool true) ∧ Junk w w' := by
  have H9 := Lib.hid l_ptAwake
  have HV1 := Lib.hid (fun w' => n_ptValid ax ay w')
  have HV2 := Lib.hid (fun w' => n_ptValid bx by_ w')
  have HV3 := Lib.hid (fun w' => n_ptValid cx cy w')
  generalize okP ax ay = v1 at *
  generalize okP bx by_ = v2 at *
  generalize okP cx cy = v3 at *
  unfold pt at *
  cases v1 with
  | false =>
    clear h
    go_enter Try.func5, Try.ntmps5
    go_wp2_with (first | (go_at_call 21; refine (H9.out _).mono ?_; rintro e w1 ⟨rfl, J0, dJ0, rfl⟩) | (go_at_call 13; (first | (with_reducible refine (HV1.out _).mono ?_) | (with_reducible refine (HV2.out _).mono ?_) | (with_reducible refine (HV3.out _).mono ?_)); rintro e w1 ⟨rfl, J1, dJ1, rfl⟩))
    go_ret
    exact ⟨rfl, junk_of_below (by (repeat' (first | (with_reducible exact Below.refl _ _) | (with_reducible assumption) | (with_reducible refine Below.alloc ?_ ?_ _) | (with_reducible refine Below.drew ?_) | (with_reducible refine below_drewN ?_ _) | (with_reducible refine below_plus ?_ ?_ _ _) | (with_reducible refine Below.setCell ?_ ?_ _) | (with_reducible refine Below.setRow ?_ ?_ _) | go_size)))⟩
  | true =>
    cases v2 with
    | false =>
      clear h
      go_enter Try.func5, Try.ntmps5
      go_wp2_with (first | (go_at_call 21; refine (H9.out _).mono ?_; rintro e w1 ⟨rfl, J0, dJ0, rfl⟩) | (go_at_call 13; (first | (with_reducible refine (HV1.out _).mono ?_) | (with_reducible refine (HV2.out _).mono ?_) | (with_reducible refine (HV3.out _).mono ?_)); rintro e w1 ⟨rfl, J1, dJ1, rfl⟩))
      go_ret
      exact ⟨rfl, junk_of_below (by (repeat' (first | (with_reducible exact Below.refl _ _) | (with_reducible assumption) | (with_reducible refine Below.alloc ?_ ?_ _) | (with_reducible refine Below.drew ?_) | (with_reducible refine below_drewN ?_ _) | (with_reducible refine below_plus ?_ ?_ _ _) | (with_reducible refine Below.setCell ?_ ?_ _) | (with_reducible refine Below.setRow ?_ ?_ _) | go_size)))⟩
    | true =>
      cases v3 with
      | true => cases h
      | false =>
        clear h
        go_enter Try.func5, Try.ntmps5
        go_wp2_with (first | (go_at_call 21; refine (H9.out _).mono ?_; rintro e w1 ⟨rfl, J0, dJ0, rfl⟩) | (go_at_call 13; (first | (with_reducible refine (HV1.out _).mono ?_) | (with_reducible refine (HV2.out _).mono ?_) | (with_reducible refine (HV3.out _).mono ?_)); rintro e w1 ⟨rfl, J1, dJ1, rfl⟩))
        go_ret
        exact ⟨rfl, junk_of_below (by (repeat' (first | (with_reducible exact Below.refl _ _) | (with_reducible assumption) | (with_reducible refine Below.alloc ?_ ?_ _) | (with_reducible refine Below.drew ?_) | (with_reducible refine below_drewN ?_ _) | (with_reducible refine below_plus ?_ ?_ _ _) | (with_reducible refine Below.setCell ?_ ?_ _) | (with_reducible refine Below.setRow ?_ ?_ _) | go_size)))⟩

set_option maxRecDepth 100000 in
set_option maxHeartbeats 16000000 in
theorem l_pointLaws (w : World) (ax ay bx by_ cx cy ux uy : Int) :
    Calls Try.prog 5 #[pt ax ay, pt bx by_, pt cx cy, pt ux uy] w fun e w' => e = .returned (.bool true) ∧ Junk w w' := by
  cases hall : okP ax ay && okP bx by_ && okP cx cy with
  | false => exact laws_not w ax ay bx by_ cx cy ux uy hall
  | true =>
    rw [Bool.and_eq_true, Bool.and_eq_true] at hall
    obtain ⟨⟨va, vb⟩, vc⟩ := hall
    have H9 := Lib.hid l_ptAwake
    have HV1 := Lib.hid (fun w' => n_ptValid ax ay w')
    have HV2 := Lib.hid (fun w' => n_ptValid bx by_ w')
    have HV3 := Lib.hid (fun w' => n_ptValid cx cy w')
    rw [va] at HV1
    rw [vb] at HV2
    rw [vc] at HV3
    have HA := on_all va vb vc
    have HB := tn_bd va vb vc
    have HT0 := Lib.hid (fun w' => n_ptTurn ax ay bx by_ cx cy w')
    have HT1 := Lib.hid (fun w' => n_ptTurn bx by_ cx cy ax ay w')
    have HT2 := Lib.hid (fun w' => n_ptTurn cx cy ax ay bx by_ w')
    have HT3 := Lib.hid (fun w' => n_ptTurn bx by_ ax ay cx cy w')
    have HT4 := Lib.hid (fun w' => n_ptTurn ax ay cx cy bx by_ w')
    have HT5 := Lib.hid (fun w' => n_ptTurn ax ay ax ay cx cy w')
    have HT6 := Lib.hid (fun w' => n_ptTurn ax ay bx by_ ax ay w')
    have HT7 := Lib.hid (fun w' => n_ptTurn (-ax) ay (-bx) by_ (-cx) cy w')
    have HT8 := Lib.hid (fun w' => n_ptTurn ay ax by_ bx cy cx w')
    rw [tn_1 va vb vc] at HT1
    rw [tn_2 va vb vc] at HT2
    rw [tn_3 va vb vc] at HT3
    rw [tn_4 va vb vc] at HT4
    rw [tn_5 va vc] at HT5
    rw [tn_6 va vb] at HT6
    rw [tn_7 va vb vc] at HT7
    rw [tn_8 va vb vc] at HT8
    have HM1 := Lib.hid (fun w' => n_ptMove ax ay ux uy w')
    have HM2 := Lib.hid (fun w' => n_ptMove bx by_ ux uy w')
    have HM3 := Lib.hid (fun w' => n_ptMove cx cy ux uy w')
    have HMV := fun h1 h2 h3 => tn_move va vb vc (u := ux) (v := uy) h1 h2 h3
    have HO0 := Lib.hid (fun w' => n_ptOn cx cy ax ay bx by_ w')
    have HO1 := Lib.hid (fun w' => n_ptOn cx cy bx by_ ax ay w')
    have HO2 := Lib.hid (fun w' => n_ptOn ax ay ax ay bx by_ w')
    have HO3 := Lib.hid (fun w' => n_ptOn bx by_ ax ay bx by_ w')
    have HO4 := Lib.hid (fun w' => n_ptOn ax ay bx by_ cx cy w')
    have HO5 := Lib.hid (fun w' => n_ptOn bx by_ ax ay cx cy w')
    rw [on_2 va vb vc] at HO1
    rw [on_3 va vb] at HO2
    rw [on_4 va vb] at HO3
    have hax := okP_iff.1 va
    have hbx := okP_iff.1 vb
    have hcx := okP_iff.1 vc
    have n1 : IntKind.i64.wrap (-ax) = -ax := by simp [IntKind.wrap, IntKind.signed, IntKind.bits]; omega
    have n2 : IntKind.i64.wrap (-bx) = -bx := by simp [IntKind.wrap, IntKind.signed, IntKind.bits]; omega
    have n3 : IntKind.i64.wrap (-cx) = -cx := by simp [IntKind.wrap, IntKind.signed, IntKind.bits]; omega
    clear hax hbx hcx va vb vc
    generalize turnF ax ay bx by_ cx cy = t at *
    generalize onB cx cy ax ay bx by_ = o at *
    generalize onB ax ay bx by_ cx cy = o2 at *
    generalize onB bx by_ ax ay cx cy = o3 at *
    have n4 : IntKind.i64.wrap (-t) = -t := by simp [IntKind.wrap, IntKind.signed, IntKind.bits]; omega
    have b1 : ¬ t < -1 := by omega
    have b2 : ¬ 1 < t := by omega
    generalize moveX ax ay ux uy = mx1 at *
    generalize moveY ax ay ux uy = my1 at *
    generalize moveE ax ay ux uy = me1 at *
    generalize moveX bx by_ ux uy = mx2 at *
    generalize moveY bx by_ ux uy = my2 at *
    generalize moveE bx by_ ux uy = me2 at *
    generalize moveX cx cy ux uy = mx3 at *
    generalize moveY cx cy ux uy = my3 at *
    generalize moveE cx cy ux uy = me3 at *
    unfold pt at *
    have HA := Lib.hid HA
    have HMV := Lib.hid HMV
    clear HB
    have HQ1 := Lib.hid (fun w => l_ptAt (-ax) ay w)
    have HQ2 := Lib.hid (fun w => l_ptAt (-bx) by_ w)
    have HQ3 := Lib.hid (fun w => l_ptAt (-cx) cy w)
    have HQ4 := Lib.hid (fun w => l_ptAt ay ax w)
    have HQ5 := Lib.hid (fun w => l_ptAt by_ bx w)
    have HQ6 := Lib.hid (fun w => l_ptAt cy cx w)
    unfold pt at HQ1 HQ2 HQ3 HQ4 HQ5 HQ6
    have HTM := Lib.hid (fun w' => n_ptTurn mx1 my1 mx2 my2 mx3 my3 w')
    have HOM := Lib.hid (fun w' => n_ptOn mx3 my3 mx1 my1 mx2 my2 w')
    unfold pt at HTM HOM
    go_enter Try.func5, Try.ntmps5
    go_upto_region 1 with fail
    obtain ⟨W, hW⟩ : ∃ W, ((((w.alloc (.cells #[.int .i64 ax, .int .i64 ay] 23)).alloc (.cells #[.int .i64 bx, .int .i64 by_] 23)).alloc (.cells #[.int .i64 cx, .int .i64 cy] 23)).alloc (.cells #[.int .i64 ux, .int .i64 uy] 23)) = W := ⟨_, rfl⟩
    have c00 : W.cell? ⟨w.heap.size, 0, none⟩ = some (.int .i64 ax) := by rw [← hW]; simp [go_sem]
    have c01 : W.cell? ⟨w.heap.size, 1, none⟩ = some (.int .i64 ay) := by rw [← hW]; simp [go_sem]
    have hb0 : w.heap.size < W.heap.size := by rw [← hW]; simp; omega
    have c10 : W.cell? ⟨w.heap.size + 1, 0, none⟩ = some (.int .i64 bx) := by rw [← hW]; simp [go_sem]
    have c11 : W.cell? ⟨w.heap.size + 1, 1, none⟩ = some (.int .i64 by_) := by rw [← hW]; simp [go_sem]
    have hb1 : w.heap.size + 1 < W.heap.size := by rw [← hW]; simp
    have c20 : W.cell? ⟨w.heap.size + 1 + 1, 0, none⟩ = some (.int .i64 cx) := by rw [← hW]; simp [go_sem]
    have c21 : W.cell? ⟨w.heap.size + 1 + 1, 1, none⟩ = some (.int .i64 cy) := by rw [← hW]; simp [go_sem]
    have hb2 : w.heap.size + 1 + 1 < W.heap.size := by rw [← hW]; simp
    have c30 : W.cell? ⟨w.heap.size + 1 + 1 + 1, 0, none⟩ = some (.int .i64 ux) := by rw [← hW]; simp [go_sem]
    have c31 : W.cell? ⟨w.heap.size + 1 + 1 + 1, 1, none⟩ = some (.int .i64 uy) := by rw [← hW]; simp [go_sem]
    have hb3 : w.heap.size + 1 + 1 + 1 < W.heap.size := by rw [← hW]; simp
    have hj : Below w.heap.size w W := by rw [← hW]; (repeat' (first | (with_reducible exact Below.refl _ _) | (with_reducible assumption) | (with_reducible refine Below.alloc ?_ ?_ _) | (with_reducible refine Below.drew ?_) | (with_reducible refine below_drewN ?_ _) | (with_reducible refine below_plus ?_ ?_ _ _) | (with_reducible refine Below.setCell ?_ ?_ _) | (with_reducible refine Below.setRow ?_ ?_ _) | go_size))
    have hsz : w.heap.size ≤ W.heap.size := hj.size
    rw [hW]
    clear hW
    go_upto_region 2 with (go_at_call 21; refine (H9.out _).mono ?_; rintro e w1 ⟨rfl, J0, dJ0, rfl⟩)
    go_cut [31] from 19 to 31 (fun t wx => t = .bool false ∧ Cls W wx)
    case first =>
      go_wp2_with (go_at_call 13; (first | (with_reducible refine (HV1.out _).mono ?_) | (with_reducible refine (HV2.out _).mono ?_) | (with_reducible refine (HV3.out _).mono ?_)); rintro e w1 ⟨rfl, J1, dJ1, rfl⟩)
      go_meet
      case rel => exact ⟨rfl, _, _, rfl⟩
    case rest =>
    obtain ⟨rfl, J1, d1, rfl⟩ := hcut
    clear HV1 HV2 HV3
    go_upto_region 5 with (go_at_call 17; (first | (with_reducible refine (HT0.out _).mono ?_) | (with_reducible refine (HT1.out _).mono ?_) | (with_reducible refine (HT2.out _).mono ?_) | (with_reducible refine (HT3.out _).mono ?_) | (with_reducible refine (HT4.out _).mono ?_) | (with_reducible refine (HT5.out _).mono ?_) | (with_reducible refine (HT6.out _).mono ?_) | (with_reducible refine (HT7.out _).mono ?_) | (with_reducible refine (HT8.out _).mono ?_)); rintro e w1 ⟨rfl, J2, dJ2, rfl⟩)
    go_cut [90] from 37 to 90 (fun t wx => t = .bool false ∧ Cls W wx)
    case first =>
      go_wp2_with (go_at_call 17; (first | (with_reducible refine (HT0.out _).mono ?_) | (with_reducible refine (HT1.out _).mono ?_) | (with_reducible refine (HT2.out _).mono ?_) | (with_reducible refine (HT3.out _).mono ?_) | (with_reducible refine (HT4.out _).mono ?_) | (with_reducible refine (HT5.out _).mono ?_) | (with_reducible refine (HT6.out _).mono ?_) | (with_reducible refine (HT7.out _).mono ?_) | (with_reducible refine (HT8.out _).mono ?_)); rintro e w1 ⟨rfl, J2, dJ2, rfl⟩)
      go_meet
      case rel => exact ⟨by simp [b1, b2], _, _, rfl⟩
    case rest =>
    obtain ⟨rfl, J2, d2, rfl⟩ := hcut
    go_upto_region 7 with fail
    go_cut [133] from 91 to 133 (fun t wx => t = .bool false ∧ Cls W wx)
    case first =>
      refine region_quiet_all (C := Cls W) (by kernel_rfl) (by kernel_rfl) ⟨_, _, rfl⟩ ?_
      repeat (first | (refine qw_skip (by rfl) ?_; simp only [Act.put, List.setIfInBounds_toArray, List.set_cons_succ, List.set_cons_zero]) | (refine qw_want (by rfl) (fun K hK => ?_); go_simp; first | (refine hK _ ?_; clear hK K) | (apply Exists.intro; refine ⟨?_, hK _ ?_⟩; (rintro w3_ ⟨J3_, d3_, rfl⟩; first | (with_reducible exact rfl) | (go_simp; with_reducible exact rfl) | (go_simp; (first | (with_reducible refine (HT7.out _).mono ?_) | (with_reducible refine (HT8.out _).mono ?_) | (with_reducible refine (HQ1.out _).mono ?_) | (with_reducible refine (HQ2.out _).mono ?_) | (with_reducible refine (HQ3.out _).mono ?_) | (with_reducible refine (HQ4.out _).mono ?_) | (with_reducible refine (HQ5.out _).mono ?_) | (with_reducible refine (HQ6.out _).mono ?_)); rintro e_ w_ ⟨rfl, J4_, d4_, rfl⟩; exact ⟨rfl, J3_ ++ J4_, d4_, by simp only [plus_plus, Array.append_assoc]⟩)); clear hK K)))
      refine qw_nil ?_
      rintro w3 ⟨J3, d3, rfl⟩
      go_wp2_with fail
      go_meet
      case rel => exact ⟨rfl, _, _, rfl⟩
    case rest =>
    obtain ⟨rfl, J3, d3, rfl⟩ := hcut
    clear HT0 HT1 HT2 HT3 HT4 HT5 HT6 HT7 HT8 HQ1 HQ2 HQ3 HQ4 HQ5 HQ6 n1 n2 n3
    go_upto_region 12 with (first | (go_at_call 11; (with_reducible refine (HM1.out _).mono ?_); rintro e w1 ⟨rfl, K1, dK1, rfl⟩) | (go_at_call 11; (with_reducible refine (HM2.out _).mono ?_); rintro e w1 ⟨rfl, K2, dK2, rfl⟩) | (go_at_call 11; (with_reducible refine (HM3.out _).mono ?_); rintro e w1 ⟨rfl, K3, dK3, rfl⟩))
    clear HM1 HM2 HM3
    generalize hW2 : World.alloc _ (.cells #[.int .i64 mx3, .int .i64 my3] _) = W2
    have q10 : W2.cell? ⟨W.heap.size + (J3.size + K1.size), 0, none⟩ = some (.int .i64 mx1) := by rw [← hW2]; simp [go_sem]
    have q11 : W2.cell? ⟨W.heap.size + (J3.size + K1.size), 1, none⟩ = some (.int .i64 my1) := by rw [← hW2]; simp [go_sem]
    have qb1 : W.heap.size + (J3.size + K1.size) < W2.heap.size := by rw [← hW2]; simp; try omega
    have q20 : W2.cell? ⟨W.heap.size + (J3.size + K1.size) + 1 + K2.size, 0, none⟩ = some (.int .i64 mx2) := by rw [← hW2]; simp [go_sem]
    have q21 : W2.cell? ⟨W.heap.size + (J3.size + K1.size) + 1 + K2.size, 1, none⟩ = some (.int .i64 my2) := by rw [← hW2]; simp [go_sem]
    have qb2 : W.heap.size + (J3.size + K1.size) + 1 + K2.size < W2.heap.size := by rw [← hW2]; simp; try omega
    have q30 : W2.cell? ⟨W.heap.size + (J3.size + K1.size) + 1 + K2.size + 1 + K3.size, 0, none⟩ = some (.int .i64 mx3) := by rw [← hW2]; simp [go_sem]
    have q31 : W2.cell? ⟨W.heap.size + (J3.size + K1.size) + 1 + K2.size + 1 + K3.size, 1, none⟩ = some (.int .i64 my3) := by rw [← hW2]; simp [go_sem]
    have qb3 : W.heap.size + (J3.size + K1.size) + 1 + K2.size + 1 + K3.size < W2.heap.size := by rw [← hW2]; simp; try omega
    have hj2 : Below W.heap.size W W2 := by rw [← hW2]; (repeat' (first | (with_reducible exact Below.refl _ _) | (with_reducible assumption) | (with_reducible refine Below.alloc ?_ ?_ _) | (with_reducible refine Below.drew ?_) | (with_reducible refine below_drewN ?_ _) | (with_reducible refine below_plus ?_ ?_ _ _) | (with_reducible refine Below.setCell ?_ ?_ _) | (with_reducible refine Below.setRow ?_ ?_ _) | go_size))
    have hsz2 : W.heap.size ≤ W2.heap.size := hj2.size
    have r00 := (World.cell?_of_block (a := ⟨w.heap.size, 0, none⟩) (hj2.block _ hb0)).trans c00
    have r01 := (World.cell?_of_block (a := ⟨w.heap.size, 1, none⟩) (hj2.block _ hb0)).trans c01
    have rb0 : w.heap.size < W2.heap.size := Nat.lt_of_lt_of_le hb0 hsz2
    have r10 := (World.cell?_of_block (a := ⟨w.heap.size + 1, 0, none⟩) (hj2.block _ hb1)).trans c10
    have r11 := (World.cell?_of_block (a := ⟨w.heap.size + 1, 1, none⟩) (hj2.block _ hb1)).trans c11
    have rb1 : w.heap.size + 1 < W2.heap.size := Nat.lt_of_lt_of_le hb1 hsz2
    have r20 := (World.cell?_of_block (a := ⟨w.heap.size + 1 + 1, 0, none⟩) (hj2.block _ hb2)).trans c20
    have r21 := (World.cell?_of_block (a := ⟨w.heap.size + 1 + 1, 1, none⟩) (hj2.block _ hb2)).trans c21
    have rb2 : w.heap.size + 1 + 1 < W2.heap.size := Nat.lt_of_lt_of_le hb2 hsz2
    generalize W.heap.size + (J3.size + K1.size) + 1 + K2.size + 1 + K3.size = p3 at *
    generalize W.heap.size + (J3.size + K1.size) + 1 + K2.size = p2 at *
    generalize W.heap.size + (J3.size + K1.size) = p1 at *
    clear hW2
    go_cut [180] from 134 to 180 (fun t wx => t = .bool false ∧ Cls W wx)
    case first =>
      have hcs : (me1 == 0) = false ∨ ((me1 == 0) = true ∧ (me2 == 0) = false) ∨ ((me1 == 0) = true ∧ (me2 == 0) = true ∧ (me3 == 0) = false) ∨ ((me1 == 0) = true ∧ (me2 == 0) = true ∧ (me3 == 0) = true) := by
        cases (me1 == 0) <;> cases (me2 == 0) <;> cases (me3 == 0) <;> simp
      have HCS : (me1 == 0) = true → (me2 == 0) = true → (me3 == 0) = true → turnF mx1 my1 mx2 my2 mx3 my3 = t ∧ onB mx3 my3 mx1 my1 mx2 my2 = o := fun h1 h2 h3 => HMV.out (beq_iff_eq.1 h1) (beq_iff_eq.1 h2) (beq_iff_eq.1 h3)
      clear HMV
      rcases hcs with q1 | ⟨q1, q2⟩ | ⟨q1, q2, q3⟩ | ⟨q1, q2, q3⟩
      case' inr.inr.inr =>
        obtain ⟨hm1, hm2⟩ := HCS q1 q2 q3
        rw [hm1] at HTM
        rw [hm2] at HOM
        clear hm1 hm2
      all_goals
        clear HCS
        refine region_quiet_all (C := Cls W2) (by kernel_rfl) (by kernel_rfl) (cls_drawn _) ?_
        repeat (first | (refine qw_skip (by rfl) ?_; simp only [Act.put, List.setIfInBounds_toArray, List.set_cons_succ, List.set_cons_zero]) | (refine qw_want (by rfl) (fun K hK => ?_); go_simp; first | (refine hK _ ?_; clear hK K) | (apply Exists.intro; refine ⟨?_, hK _ ?_⟩; (rintro w3_ ⟨J3_, d3_, rfl⟩; first | (with_reducible exact rfl) | (go_simp; with_reducible exact rfl) | (go_simp; (first | (with_reducible refine (HTM.out _).mono ?_) | (with_reducible refine (HOM.out _).mono ?_) | (with_reducible refine (HO0.out _).mono ?_)); rintro e_ w_ ⟨rfl, J4_, d4_, rfl⟩; exact ⟨rfl, J3_ ++ J4_, d4_, by simp only [plus_plus, Array.append_assoc]⟩)); clear hK K)))
        refine qw_nil ?_
        rintro w5 ⟨J5, d5, rfl⟩
        go_wp2_with fail
        go_meet
        case rel => exact ⟨rfl, cls_of (junk_of_below (by (repeat' (first | (with_reducible exact Below.refl _ _) | (with_reducible assumption) | (with_reducible refine Below.alloc ?_ ?_ _) | (with_reducible refine Below.drew ?_) | (with_reducible refine below_drewN ?_ _) | (with_reducible refine below_plus ?_ ?_ _ _) | (with_reducible refine Below.setCell ?_ ?_ _) | (with_reducible refine Below.setRow ?_ ?_ _) | go_size))))⟩
    case rest =>
    obtain ⟨rfl, J5, d5, rfl⟩ := hcut
    clear HMV HTM HOM
    go_upto_region 15 with (go_at_call 19; (first | (with_reducible refine (HO0.out _).mono ?_) | (with_reducible refine (HO1.out _).mono ?_) | (with_reducible refine (HO2.out _).mono ?_) | (with_reducible refine (HO3.out _).mono ?_) | (with_reducible refine (HO4.out _).mono ?_) | (with_reducible refine (HO5.out _).mono ?_)); rintro e w1 ⟨rfl, J6, dJ6, rfl⟩)
    go_cut [211] from 185 to 211 (fun t wx => t = .bool false ∧ Cls W wx)
    case first =>
      have ho : (o = true ∧ t = 0) ∨ o = false := by
        rcases HA.out with ⟨_, h, _⟩ | ⟨h, h2 | ⟨h2, _⟩⟩
        · exact .inr h
        · exact .inl ⟨h2, h⟩
        · exact .inr h2
      rcases ho with ⟨rfl, rfl⟩ | rfl
      all_goals
        go_wp2_with (go_at_call 19; (first | (with_reducible refine (HO0.out _).mono ?_) | (with_reducible refine (HO1.out _).mono ?_) | (with_reducible refine (HO2.out _).mono ?_) | (with_reducible refine (HO3.out _).mono ?_) | (with_reducible refine (HO4.out _).mono ?_) | (with_reducible refine (HO5.out _).mono ?_)); rintro e w1 ⟨rfl, J6, dJ6, rfl⟩)
        go_meet
        case rel => exact ⟨rfl, _, _, rfl⟩
    case rest =>
    obtain ⟨rfl, J6, d6, rfl⟩ := hcut
    rcases HA.out with ⟨h1, rfl, rfl, rfl⟩ | ⟨rfl, rfl | ⟨rfl, rfl | ⟨rfl, rfl⟩⟩⟩
    case' inl =>
      have h2 : (t == 0) = false := by rw [beq_eq_false_iff_ne]; exact h1
    all_goals
      go_wp2_with (go_at_call 19; (first | (with_reducible refine (HO0.out _).mono ?_) | (with_reducible refine (HO1.out _).mono ?_) | (with_reducible refine (HO2.out _).mono ?_) | (with_reducible refine (HO3.out _).mono ?_) | (with_reducible refine (HO4.out _).mono ?_) | (with_reducible refine (HO5.out _).mono ?_)); rintro e w1 ⟨rfl, J6, dJ6, rfl⟩)
      go_ret
      exact ⟨rfl, junk_of_below (by (repeat' (first | (with_reducible exact Below.refl _ _) | (with_reducible assumption) | (with_reducible refine Below.alloc ?_ ?_ _) | (with_reducible refine Below.drew ?_) | (with_reducible refine below_drewN ?_ _) | (with_reducible refine below_plus ?_ ?_ _ _) | (with_reducible refine Below.setCell ?_ ?_ _) | (with_reducible refine Below.setRow ?_ ?_ _) | go_size)))⟩
end Go.Proofs.Ytlfjbbelanccbaa

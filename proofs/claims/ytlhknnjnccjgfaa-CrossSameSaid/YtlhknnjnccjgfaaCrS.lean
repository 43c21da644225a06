/- The law CrossSame: the walk. -/
import Derived.Test.YtlhknnjnccjgfaaCrFive
namespace Go.Proofs.Ytlhknnjnccjgfaa
set_option linter.unusedVariables false
set_option linter.unusedSimpArgs false
open Go.RowKit

section
variable {a b c d u : Int × Int}
theorem may_mir : mayQ (mirQ a) (mirQ b) = mayQ a b := by
  have h : ∀ p : Int × Int, okP (mirQ p).1 (mirQ p).2 = okP p.1 p.2 := fun p => by
    unfold mirQ
    rw [Bool.eq_iff_iff, okP_iff, okP_iff]
    simp only
    omega
  unfold mayQ
  rw [h, h]
  congr 1
  exact decide_eq_decide.2 ⟨fun k e => k (by rw [e]), fun k e => k (by unfold mirQ at e; injection e with e1 e2; exact eq_pt (by omega) e2)⟩
theorem may_tra : mayQ (traQ a) (traQ b) = mayQ a b := by
  have h : ∀ p : Int × Int, okP (traQ p).1 (traQ p).2 = okP p.1 p.2 := fun p => by
    unfold traQ
    rw [Bool.eq_iff_iff, okP_iff, okP_iff]
    exact And.comm
  unfold mayQ
  rw [h, h]
  congr 1
  exact decide_eq_decide.2 ⟨fun k e => k (by rw [e]), fun k e => k (by unfold traQ at e; injection e with e1 e2; exact eq_pt e2 e1)⟩
theorem meet_mir : meetQ (mirQ a) (mirQ b) (mirQ c) (mirQ d) = meetQ a b c d := by unfold meetQ; rw [may_mir, may_mir, how_mir]
theorem meet_tra : meetQ (traQ a) (traQ b) (traQ c) (traQ d) = meetQ a b c d := by unfold meetQ; rw [may_tra, may_tra, how_tra]
/-- Where a move may be: the point, moved. -/
theorem move_ok {x y u v : Int} (h : moveE x y u v = 0) : okP (x + u) (y + v) = true ∧ moveX x y u v = x + u ∧ moveY x y u v = y + v := by
  refine ⟨?_, by unfold moveX; rw [if_pos h], by unfold moveY; rw [if_pos h]⟩
  unfold moveE at h
  split at h
  · split at h
    · assumption
    · cases h
  · cases h
end
theorem meet_mov {ax ay bx by_ cx cy dx dy ux uy : Int} (ha : mayQ (ax, ay) (bx, by_) = true) (hc : mayQ (cx, cy) (dx, dy) = true) (h1 : moveE ax ay ux uy = 0) (h2 : moveE bx by_ ux uy = 0) (h3 : moveE cx cy ux uy = 0) (h4 : moveE dx dy ux uy = 0) :
    meetQ (moveX ax ay ux uy, moveY ax ay ux uy) (moveX bx by_ ux uy, moveY bx by_ ux uy) (moveX cx cy ux uy, moveY cx cy ux uy) (moveX dx dy ux uy, moveY dx dy ux uy) = meetQ (ax, ay) (bx, by_) (cx, cy) (dx, dy) := by
  obtain ⟨k1, e1, f1⟩ := move_ok h1
  obtain ⟨k2, e2, f2⟩ := move_ok h2
  obtain ⟨k3, e3, f3⟩ := move_ok h3
  obtain ⟨k4, e4, f4⟩ := move_ok h4
  have hm : ∀ {x y z v : Int}, mayQ (x, y) (z, v) = true → okP (x + ux) (y + uy) = true → okP (z + ux) (v + uy) = true → mayQ (x + ux, y + uy) (z + ux, v + uy) = true := by
    intro x y z v h p q
    have hn := may_ne h
    unfold mayQ
    simp only [p, q, Bool.true_and, decide_eq_true_eq]
    intro e
    injection e with e1 e2
    exact hn (eq_pt (by simp only; omega) (by simp only; omega))
  rw [e1, f1, e2, f2, e3, f3, e4, f4]
  unfold meetQ
  rw [hm ha k1 k2, hm hc k3 k4, ha, hc]
  simp only [Bool.and_self, if_true]
  exact how_mov (a := (ax, ay)) (b := (bx, by_)) (c := (cx, cy)) (d := (dx, dy)) (ux, uy)

set_option maxRecDepth 100000 in
set_option maxHeartbeats 4000000 in
theorem same_not (w : World) (ax ay bx by_ cx cy dx dy ux uy : Int) (h : (mayQ (ax, ay) (bx, by_) && mayQ (cx, cy) (dx, dy)) = false) :
    Calls Try.prog 4 #[pt ax ay, pt bx by_, pt cx cy, pt dx dy, pt ux uy] w fun e w' => e = .returned (.bool true) ∧ Junk w w' := by
  have H9 := Lib.hid l_crAwake
  have HV1 := Lib.hid (fun w' => l_crMay ax ay bx by_ w')
  have HV2 := Lib.hid (fun w' => l_crMay cx cy dx dy w')
  have HM0 := Lib.hid (fun w' => n_crMeets ax ay bx by_ cx cy dx dy w')
  have HM1 := Lib.hid (fun w' => n_crMeets cx cy dx dy ax ay bx by_ w')
  have HM2 := Lib.hid (fun w' => n_crMeets bx by_ ax ay cx cy dx dy w')
  have HM3 := Lib.hid (fun w' => n_crMeets ax ay bx by_ dx dy cx cy w')
  have HM4 := Lib.hid (fun w' => n_crMeets dx dy cx cy bx by_ ax ay w')
  have h0 : meetQ (ax, ay) (bx, by_) (cx, cy) (dx, dy) = 0 := by unfold meetQ; rw [h]; rfl
  rw [h0] at HM0
  rw [meet_swap, h0] at HM1
  rw [meet_flip, h0] at HM2
  rw [meet_flip', h0] at HM3
  rw [meet_swap, meet_flip, meet_flip', h0] at HM4
  have HE := Lib.hid (show ∀ w', Calls Try.prog 12 #[pt ax ay, pt bx by_, pt cx cy, pt dx dy] w' fun e w'' => (∃ a cap, e = .returned (.slice a 0 cap)) ∧ Junk w' w'' from fun w' => by
    refine (n_crEnds ax ay bx by_ cx cy dx dy w').mono ?_
    rintro e w'' ⟨⟨v, rfl, a, n, cap, rfl, hr, _⟩, hj⟩
    have := hr.1
    unfold commonQ at this
    rw [h] at this
    obtain rfl : n = 0 := by simpa using this.symm
    exact ⟨⟨a, cap, rfl⟩, hj⟩)
  generalize mayQ (ax, ay) (bx, by_) = v1 at *
  generalize mayQ (cx, cy) (dx, dy) = v2 at *
  clear h0
  unfold pt at *
  cases v1 with
  | false =>
    clear h
    go_enter Try.func4, Try.ntmps4
    go_wp2_with (first | (go_at_call 14; refine (H9.out _).mono ?_; rintro e w1 ⟨rfl, J0, dJ0, rfl⟩) | (go_at_call 15; (first | (with_reducible refine (HV1.out _).mono ?_) | (with_reducible refine (HV2.out _).mono ?_)); rintro e w1 ⟨rfl, J1, dJ1, rfl⟩) | (go_at_call 9; (first | (with_reducible refine (HM0.out _).mono ?_) | (with_reducible refine (HM1.out _).mono ?_) | (with_reducible refine (HM2.out _).mono ?_) | (with_reducible refine (HM3.out _).mono ?_) | (with_reducible refine (HM4.out _).mono ?_)); rintro e w1 ⟨rfl, J2, dJ2, rfl⟩) | (go_at_call 12; (with_reducible refine (HE.out _).mono ?_); rintro e w1 ⟨⟨a', cap', rfl⟩, J5, d5, rfl⟩))
    go_ret
    exact ⟨rfl, junk_of_below (by (repeat' (first | (with_reducible exact Below.refl _ _) | (with_reducible assumption) | (with_reducible refine Below.alloc ?_ ?_ _) | (with_reducible refine Below.drew ?_) | (with_reducible refine below_drewN ?_ _) | (with_reducible refine below_plus ?_ ?_ _ _) | (with_reducible refine Below.setCell ?_ ?_ _) | (with_reducible refine Below.setRow ?_ ?_ _) | go_size)))⟩
  | true =>
    obtain rfl : v2 = false := by simpa using h
    clear h
    go_enter Try.func4, Try.ntmps4
    go_wp2_with (first | (go_at_call 14; refine (H9.out _).mono ?_; rintro e w1 ⟨rfl, J0, dJ0, rfl⟩) | (go_at_call 15; (first | (with_reducible refine (HV1.out _).mono ?_) | (with_reducible refine (HV2.out _).mono ?_)); rintro e w1 ⟨rfl, J1, dJ1, rfl⟩) | (go_at_call 9; (first | (with_reducible refine (HM0.out _).mono ?_) | (with_reducible refine (HM1.out _).mono ?_) | (with_reducible refine (HM2.out _).mono ?_) | (with_reducible refine (HM3.out _).mono ?_) | (with_reducible refine (HM4.out _).mono ?_)); rintro e w1 ⟨rfl, J2, dJ2, rfl⟩) | (go_at_call 12; (with_reducible refine (HE.out _).mono ?_); rintro e w1 ⟨⟨a', cap', rfl⟩, J5, d5, rfl⟩))
    go_ret
    exact ⟨rfl, junk_of_below (by (repeat' (first | (with_reducible exact Below.refl _ _) | (with_reducible assumption) | (with_reducible refine Below.alloc ?_ ?_ _) | (with_reducible refine Below.drew ?_) | (with_reducible refine below_drewN ?_ _) | (with_reducible refine below_plus ?_ ?_ _ _) | (with_reducible refine Below.setCell ?_ ?_ _) | (with_reducible refine Below.setRow ?_ ?_ _) | go_size)))⟩

set_option maxRecDepth 100000 in
set_option maxHeartbeats 8000000 in
theorem same_all (w : World) (ax ay bx by_ cx cy dx dy ux uy : Int) (ha : mayQ (ax, ay) (bx, by_) = true) (hc : mayQ (cx, cy) (dx, dy) = true) :
    Calls Try.prog 4 #[pt ax ay, pt bx by_, pt cx cy, pt dx dy, pt ux uy] w fun e w' => e = .returned (.bool true) ∧ Junk w w' := by
  have H9 := Lib.hid l_crAwake
  have HV1 := Lib.hid (fun w' => l_crMay ax ay bx by_ w')
  have HV2 := Lib.hid (fun w' => l_crMay cx cy dx dy w')
  rw [ha] at HV1
  rw [hc] at HV2
  have HM0 := Lib.hid (fun w' => n_crMeets ax ay bx by_ cx cy dx dy w')
  have HM1 := Lib.hid (fun w' => n_crMeets cx cy dx dy ax ay bx by_ w')
  have HM2 := Lib.hid (fun w' => n_crMeets bx by_ ax ay cx cy dx dy w')
  have HM3 := Lib.hid (fun w' => n_crMeets ax ay bx by_ dx dy cx cy w')
  have HM4 := Lib.hid (fun w' => n_crMeets dx dy cx cy bx by_ ax ay w')
  have HM5 := Lib.hid (fun w' => n_crMeets (-ax) ay (-bx) by_ (-cx) cy (-dx) dy w')
  have HM6 := Lib.hid (fun w' => n_crMeets ay ax by_ bx cy cx dy dx w')
  rw [meet_swap] at HM1
  rw [meet_flip] at HM2
  rw [meet_flip'] at HM3
  rw [meet_swap, meet_flip, meet_flip'] at HM4
  have e5 : meetQ (-ax, ay) (-bx, by_) (-cx, cy) (-dx, dy) = meetQ (ax, ay) (bx, by_) (cx, cy) (dx, dy) := meet_mir (a := (ax, ay)) (b := (bx, by_)) (c := (cx, cy)) (d := (dx, dy))
  have e6 : meetQ (ay, ax) (by_, bx) (cy, cx) (dy, dx) = meetQ (ax, ay) (bx, by_) (cx, cy) (dx, dy) := meet_tra (a := (ax, ay)) (b := (bx, by_)) (c := (cx, cy)) (d := (dx, dy))
  rw [e5] at HM5
  rw [e6] at HM6
  clear e5 e6
  have HR := meet_range (a := (ax, ay)) (b := (bx, by_)) (c := (cx, cy)) (d := (dx, dy))
  have HMV := fun h1 h2 h3 h4 => meet_mov (ux := ux) (uy := uy) ha hc h1 h2 h3 h4
  have HK1 := Lib.hid (fun w' => n_ptMove ax ay ux uy w')
  have HK2 := Lib.hid (fun w' => n_ptMove bx by_ ux uy w')
  have HK3 := Lib.hid (fun w' => n_ptMove cx cy ux uy w')
  have HK4 := Lib.hid (fun w' => n_ptMove dx dy ux uy w')
  have hok : ((-1099511627775 ≤ ax ∧ ax ≤ 1099511627775) ∧ (-1099511627775 ≤ bx ∧ bx ≤ 1099511627775)) ∧ ((-1099511627775 ≤ cx ∧ cx ≤ 1099511627775) ∧ (-1099511627775 ≤ dx ∧ dx ≤ 1099511627775)) := by
    have k1 := ha; have k2 := hc
    unfold mayQ at k1 k2
    rw [Bool.and_eq_true, Bool.and_eq_true] at k1 k2
    exact ⟨⟨(okP_iff.1 k1.1.1).1, (okP_iff.1 k1.1.2).1⟩, ⟨(okP_iff.1 k2.1.1).1, (okP_iff.1 k2.1.2).1⟩⟩
  have n1 : IntKind.i64.wrap (-ax) = -ax := by simp [IntKind.wrap, IntKind.signed, IntKind.bits]; omega
  have n2 : IntKind.i64.wrap (-bx) = -bx := by simp [IntKind.wrap, IntKind.signed, IntKind.bits]; omega
  have n3 : IntKind.i64.wrap (-cx) = -cx := by simp [IntKind.wrap, IntKind.signed, IntKind.bits]; omega
  have n4 : IntKind.i64.wrap (-dx) = -dx := by simp [IntKind.wrap, IntKind.signed, IntKind.bits]; omega
  clear hok ha hc
  generalize meetQ (ax, ay) (bx, by_) (cx, cy) (dx, dy) = n at *
  have b1 : ¬ n < 0 := by omega
  have b2 : ¬ 3 < n := by omega
  clear HR
  generalize moveX ax ay ux uy = mx1 at *
  generalize moveY ax ay ux uy = my1 at *
  generalize moveE ax ay ux uy = me1 at *
  generalize moveX bx by_ ux uy = mx2 at *
  generalize moveY bx by_ ux uy = my2 at *
  generalize moveE bx by_ ux uy = me2 at *
  generalize moveX cx cy ux uy = mx3 at *
  generalize moveY cx cy ux uy = my3 at *
  generalize moveE cx cy ux uy = me3 at *
  generalize moveX dx dy ux uy = mx4 at *
  generalize moveY dx dy ux uy = my4 at *
  generalize moveE dx dy ux uy = me4 at *
  have HMV := Lib.hid HMV
  have HQ0 := Lib.hid (fun w => l_crAt (-ax) ay w)
  have HQ1 := Lib.hid (fun w => l_crAt (-bx) by_ w)
  have HQ2 := Lib.hid (fun w => l_crAt (-cx) cy w)
  have HQ3 := Lib.hid (fun w => l_crAt (-dx) dy w)
  have HQ4 := Lib.hid (fun w => l_crAt ay ax w)
  have HQ5 := Lib.hid (fun w => l_crAt by_ bx w)
  have HQ6 := Lib.hid (fun w => l_crAt cy cx w)
  have HQ7 := Lib.hid (fun w => l_crAt dy dx w)
  have HN := Lib.hid (fun w' => n_crMeets mx1 my1 mx2 my2 mx3 my3 mx4 my4 w')
  unfold pt at *
  go_enter Try.func4, Try.ntmps4
  go_upto_region 1 with fail
  obtain ⟨W, hW⟩ : ∃ W, (((((w.alloc (.cells #[.int .i64 ax, .int .i64 ay] 23)).alloc (.cells #[.int .i64 bx, .int .i64 by_] 23)).alloc (.cells #[.int .i64 cx, .int .i64 cy] 23)).alloc (.cells #[.int .i64 dx, .int .i64 dy] 23)).alloc (.cells #[.int .i64 ux, .int .i64 uy] 23)) = W := ⟨_, rfl⟩
  have c00 : W.cell? ⟨w.heap.size, 0, none⟩ = some (.int .i64 ax) := by rw [← hW]; simp [go_sem]
  have c01 : W.cell? ⟨w.heap.size, 1, none⟩ = some (.int .i64 ay) := by rw [← hW]; simp [go_sem]
  have hb0 : w.heap.size < W.heap.size := by rw [← hW]; simp; try omega
  have c10 : W.cell? ⟨w.heap.size + 1, 0, none⟩ = some (.int .i64 bx) := by rw [← hW]; simp [go_sem]
  have c11 : W.cell? ⟨w.heap.size + 1, 1, none⟩ = some (.int .i64 by_) := by rw [← hW]; simp [go_sem]
  have hb1 : w.heap.size + 1 < W.heap.size := by rw [← hW]; simp; try omega
  have c20 : W.cell? ⟨w.heap.size + 1 + 1, 0, none⟩ = some (.int .i64 cx) := by rw [← hW]; simp [go_sem]
  have c21 : W.cell? ⟨w.heap.size + 1 + 1, 1, none⟩ = some (.int .i64 cy) := by rw [← hW]; simp [go_sem]
  have hb2 : w.heap.size + 1 + 1 < W.heap.size := by rw [← hW]; simp; try omega
  have c30 : W.cell? ⟨w.heap.size + 1 + 1 + 1, 0, none⟩ = some (.int .i64 dx) := by rw [← hW]; simp [go_sem]
  have c31 : W.cell? ⟨w.heap.size + 1 + 1 + 1, 1, none⟩ = some (.int .i64 dy) := by rw [← hW]; simp [go_sem]
  have hb3 : w.heap.size + 1 + 1 + 1 < W.heap.size := by rw [← hW]; simp; try omega
  have c40 : W.cell? ⟨w.heap.size + 1 + 1 + 1 + 1, 0, none⟩ = some (.int .i64 ux) := by rw [← hW]; simp [go_sem]
  have c41 : W.cell? ⟨w.heap.size + 1 + 1 + 1 + 1, 1, none⟩ = some (.int .i64 uy) := by rw [← hW]; simp [go_sem]
  have hb4 : w.heap.size + 1 + 1 + 1 + 1 < W.heap.size := by rw [← hW]; simp; try omega
  have hj : Below w.heap.size w W := by rw [← hW]; (repeat' (first | (with_reducible exact Below.refl _ _) | (with_reducible assumption) | (with_reducible refine Below.alloc ?_ ?_ _) | (with_reducible refine Below.drew ?_) | (with_reducible refine below_drewN ?_ _) | (with_reducible refine below_plus ?_ ?_ _ _) | (with_reducible refine Below.setCell ?_ ?_ _) | (with_reducible refine Below.setRow ?_ ?_ _) | go_size))
  have hsz : w.heap.size ≤ W.heap.size := hj.size
  rw [hW]
  clear hW
  go_upto_region 3 with (first | (go_at_call 14; refine (H9.out _).mono ?_; rintro e w1 ⟨rfl, J0, dJ0, rfl⟩) | (go_at_call 9; (first | (with_reducible refine (HM0.out _).mono ?_) | (with_reducible refine (HM1.out _).mono ?_) | (with_reducible refine (HM2.out _).mono ?_) | (with_reducible refine (HM3.out _).mono ?_) | (with_reducible refine (HM4.out _).mono ?_)); rintro e w1 ⟨rfl, J2, dJ2, rfl⟩))
  go_cut [68] from 27 to 68 (fun t wx => t = .bool false ∧ Cls W wx)
  case first =>
    go_wp2_with (go_at_call 9; (first | (with_reducible refine (HM0.out _).mono ?_) | (with_reducible refine (HM1.out _).mono ?_) | (with_reducible refine (HM2.out _).mono ?_) | (with_reducible refine (HM3.out _).mono ?_) | (with_reducible refine (HM4.out _).mono ?_)); rintro e w1 ⟨rfl, J2, dJ2, rfl⟩)
    go_meet
    case rel => exact ⟨by simp [b1, b2], _, _, rfl⟩
  case rest =>
  obtain ⟨rfl, J2, d2, rfl⟩ := hcut
  clear HM1 HM2 HM3 HM4
  go_upto_region 5 with fail
  go_cut [78] from 69 to 78 (fun t wx => t = .bool false ∧ Cls W wx)
  case first =>
    go_wp2_with (go_at_call 15; (first | (with_reducible refine (HV1.out _).mono ?_) | (with_reducible refine (HV2.out _).mono ?_)); rintro e w1 ⟨rfl, J1, dJ1, rfl⟩)
    go_meet
    case rel => exact ⟨rfl, _, _, rfl⟩
  case rest =>
  obtain ⟨rfl, J3, d3, rfl⟩ := hcut
  clear HV1 HV2
  go_upto_region 7 with fail
  go_cut [144] from 93 to 144 (fun t wx => t = .bool false ∧ Cls W wx)
  case first =>
    refine region_quiet_all (C := Cls W) (by kernel_rfl) (by kernel_rfl) ⟨_, _, rfl⟩ ?_
    repeat (first | (refine qw_skip (by rfl) ?_; simp only [Act.put, List.setIfInBounds_toArray, List.set_cons_succ, List.set_cons_zero]) | (refine qw_want (by rfl) (fun K hK => ?_); go_simp; first | (refine hK _ ?_; clear hK K) | (apply Exists.intro; refine ⟨?_, hK _ ?_⟩; (rintro w3_ ⟨J3_, d3_, rfl⟩; first | (with_reducible exact rfl) | (go_simp; with_reducible exact rfl) | (go_simp; (first | (with_reducible refine (HM5.out _).mono ?_) | (with_reducible refine (HM6.out _).mono ?_) | (with_reducible refine (HQ0.out _).mono ?_) | (with_reducible refine (HQ1.out _).mono ?_) | (with_reducible refine (HQ2.out _).mono ?_) | (with_reducible refine (HQ3.out _).mono ?_) | (with_reducible refine (HQ4.out _).mono ?_) | (with_reducible refine (HQ5.out _).mono ?_) | (with_reducible refine (HQ6.out _).mono ?_) | (with_reducible refine (HQ7.out _).mono ?_)); rintro e_ w_ ⟨rfl, J4_, d4_, rfl⟩; exact ⟨rfl, J3_ ++ J4_, d4_, by simp only [plus_plus, Array.append_assoc]⟩)); clear hK K)))
    refine qw_nil ?_
    rintro w3 ⟨J4, d4, rfl⟩
    go_wp2_with fail
    go_meet
    case rel => exact ⟨rfl, _, _, rfl⟩
  case rest =>
  obtain ⟨rfl, J4, d4, rfl⟩ := hcut
  clear HM5 HM6 HQ0 HQ1 HQ2 HQ3 HQ4 HQ5 HQ6 HQ7 n1 n2 n3 n4
  by_cases h1 : me1 = 0
  case neg =>
    have q1 : (me1 != 0) = true := bne_iff_ne.2 h1
    go_wp2_with (first | (go_at_call 17; (with_reducible refine (HK1.out _).mono ?_); rintro e w1 ⟨rfl, K1, dK1, rfl⟩) | (go_at_call 17; (with_reducible refine (HK2.out _).mono ?_); rintro e w1 ⟨rfl, K2, dK2, rfl⟩) | (go_at_call 17; (with_reducible refine (HK3.out _).mono ?_); rintro e w1 ⟨rfl, K3, dK3, rfl⟩) | (go_at_call 17; (with_reducible refine (HK4.out _).mono ?_); rintro e w1 ⟨rfl, K4, dK4, rfl⟩))
    go_ret
    exact ⟨rfl, junk_of_below (by (repeat' (first | (with_reducible exact Below.refl _ _) | (with_reducible assumption) | (with_reducible refine Below.alloc ?_ ?_ _) | (with_reducible refine Below.drew ?_) | (with_reducible refine below_drewN ?_ _) | (with_reducible refine below_plus ?_ ?_ _ _) | (with_reducible refine Below.setCell ?_ ?_ _) | (with_reducible refine Below.setRow ?_ ?_ _) | go_size)))⟩
  have q1 : (me1 != 0) = false := by rw [h1]; rfl
  by_cases h2 : me2 = 0
  case neg =>
    have q2 : (me2 != 0) = true := bne_iff_ne.2 h2
    go_wp2_with (first | (go_at_call 17; (with_reducible refine (HK1.out _).mono ?_); rintro e w1 ⟨rfl, K1, dK1, rfl⟩) | (go_at_call 17; (with_reducible refine (HK2.out _).mono ?_); rintro e w1 ⟨rfl, K2, dK2, rfl⟩) | (go_at_call 17; (with_reducible refine (HK3.out _).mono ?_); rintro e w1 ⟨rfl, K3, dK3, rfl⟩) | (go_at_call 17; (with_reducible refine (HK4.out _).mono ?_); rintro e w1 ⟨rfl, K4, dK4, rfl⟩))
    go_ret
    exact ⟨rfl, junk_of_below (by (repeat' (first | (with_reducible exact Below.refl _ _) | (with_reducible assumption) | (with_reducible refine Below.alloc ?_ ?_ _) | (with_reducible refine Below.drew ?_) | (with_reducible refine below_drewN ?_ _) | (with_reducible refine below_plus ?_ ?_ _ _) | (with_reducible refine Below.setCell ?_ ?_ _) | (with_reducible refine Below.setRow ?_ ?_ _) | go_size)))⟩
  have q2 : (me2 != 0) = false := by rw [h2]; rfl
  by_cases h3 : me3 = 0
  case neg =>
    have q3 : (me3 != 0) = true := bne_iff_ne.2 h3
    go_wp2_with (first | (go_at_call 17; (with_reducible refine (HK1.out _).mono ?_); rintro e w1 ⟨rfl, K1, dK1, rfl⟩) | (go_at_call 17; (with_reducible refine (HK2.out _).mono ?_); rintro e w1 ⟨rfl, K2, dK2, rfl⟩) | (go_at_call 17; (with_reducible refine (HK3.out _).mono ?_); rintro e w1 ⟨rfl, K3, dK3, rfl⟩) | (go_at_call 17; (with_reducible refine (HK4.out _).mono ?_); rintro e w1 ⟨rfl, K4, dK4, rfl⟩))
    go_ret
    exact ⟨rfl, junk_of_below (by (repeat' (first | (with_reducible exact Below.refl _ _) | (with_reducible assumption) | (with_reducible refine Below.alloc ?_ ?_ _) | (with_reducible refine Below.drew ?_) | (with_reducible refine below_drewN ?_ _) | (with_reducible refine below_plus ?_ ?_ _ _) | (with_reducible refine Below.setCell ?_ ?_ _) | (with_reducible refine Below.setRow ?_ ?_ _) | go_size)))⟩
  have q3 : (me3 != 0) = false := by rw [h3]; rfl
  by_cases h4 : me4 = 0
  case neg =>
    have q4 : (me4 != 0) = true := bne_iff_ne.2 h4
    go_wp2_with (first | (go_at_call 17; (with_reducible refine (HK1.out _).mono ?_); rintro e w1 ⟨rfl, K1, dK1, rfl⟩) | (go_at_call 17; (with_reducible refine (HK2.out _).mono ?_); rintro e w1 ⟨rfl, K2, dK2, rfl⟩) | (go_at_call 17; (with_reducible refine (HK3.out _).mono ?_); rintro e w1 ⟨rfl, K3, dK3, rfl⟩) | (go_at_call 17; (with_reducible refine (HK4.out _).mono ?_); rintro e w1 ⟨rfl, K4, dK4, rfl⟩))
    go_ret
    exact ⟨rfl, junk_of_below (by (repeat' (first | (with_reducible exact Below.refl _ _) | (with_reducible assumption) | (with_reducible refine Below.alloc ?_ ?_ _) | (with_reducible refine Below.drew ?_) | (with_reducible refine below_drewN ?_ _) | (with_reducible refine below_plus ?_ ?_ _ _) | (with_reducible refine Below.setCell ?_ ?_ _) | (with_reducible refine Below.setRow ?_ ?_ _) | go_size)))⟩
  have q4 : (me4 != 0) = false := by rw [h4]; rfl
  rw [HMV.out h1 h2 h3 h4] at HN
  clear h1 h2 h3 h4 HMV
  go_wp2_with (first | (go_at_call 17; (with_reducible refine (HK1.out _).mono ?_); rintro e w1 ⟨rfl, K1, dK1, rfl⟩) | (go_at_call 17; (with_reducible refine (HK2.out _).mono ?_); rintro e w1 ⟨rfl, K2, dK2, rfl⟩) | (go_at_call 17; (with_reducible refine (HK3.out _).mono ?_); rintro e w1 ⟨rfl, K3, dK3, rfl⟩) | (go_at_call 17; (with_reducible refine (HK4.out _).mono ?_); rintro e w1 ⟨rfl, K4, dK4, rfl⟩) | (go_at_call 9; (with_reducible refine (HN.out _).mono ?_); rintro e w1 ⟨rfl, J6, d6, rfl⟩))
  go_ret
  exact ⟨rfl, junk_of_below (by (repeat' (first | (with_reducible exact Below.refl _ _) | (with_reducible assumption) | (with_reducible refine Below.alloc ?_ ?_ _) | (with_reducible refine Below.drew ?_) | (with_reducible refine below_drewN ?_ _) | (with_reducible refine below_plus ?_ ?_ _ _) | (with_reducible refine Below.setCell ?_ ?_ _) | (with_reducible refine Below.setRow ?_ ?_ _) | go_size)))⟩

theorem l_crossSame (w : World) (ax ay bx by_ cx cy dx dy ux uy : Int) : Calls Try.prog 4 #[pt ax ay, pt bx by_, pt cx cy, pt dx dy, pt ux uy] w fun e w' => e = .returned (.bool true) ∧ Junk w w' := by
  cases h : mayQ (ax, ay) (bx, by_) && mayQ (cx, cy) (dx, dy) with
  | false => exact same_not w ax ay bx by_ cx cy dx dy ux uy h
  | true =>
    rw [Bool.and_eq_true] at h
    exact same_all w ax ay bx by_ cx cy dx dy ux uy h.1 h.2
end Go.Proofs.Ytlhknnjnccjgfaa

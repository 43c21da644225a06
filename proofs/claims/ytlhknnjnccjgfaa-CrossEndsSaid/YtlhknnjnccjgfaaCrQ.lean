/- The law CrossApart: the walk. -/
import Derived.Test.YtlhknnjnccjgfaaCrT
namespace Go.Proofs.Ytlhknnjnccjgfaa
set_option linter.unusedVariables false
set_option linter.unusedSimpArgs false
open Go.RowKit

/-- The box of two points. -/
theorem box_two {ax ay bx by_ : Int} (h : mayQ (ax, ay) (bx, by_) = true) (W : World) (b : Nat) (h0 : W.cell? ⟨b, 0, none⟩ = some (.int .i64 ax)) (h1 : W.cell? ⟨b, 1, none⟩ = some (.int .i64 ay)) (h2 : W.cell? ⟨b, 2, none⟩ = some (.int .i64 bx)) (h3 : W.cell? ⟨b, 3, none⟩ = some (.int .i64 by_)) :
    Calls Try.prog 19 #[.slice (some ⟨b, 0, none⟩) 2 2] W fun e w' => e = .returned (.tuple #[bxV (min ax bx) (min ay by_) (max ax bx + 1) (max ay by_ + 1), .bool true]) ∧ Junk W w' := by
  have k := n_ptBounds W (some ⟨b, 0, none⟩) 2 2 [(ax, ay), (bx, by_)] ⟨rfl, .inr ⟨b, 0, rfl, fun i hi => by
    match i, hi with
    | 0, _ => exact ⟨h0, h1⟩
    | 1, _ => exact ⟨h2, h3⟩⟩⟩ (by decide)
  obtain ⟨va, vb, _⟩ := may_ok h
  simp only at va vb
  have e1 : bndOk [(ax, ay), (bx, by_)] = true := by simp [bndOk, allOk, va, vb]
  have e2 : boxV [(ax, ay), (bx, by_)] = bxV (min ax bx) (min ay by_) (max ax bx + 1) (max ay by_ + 1) := by
    rw [boxV_some e1]
    simp [lxF, lyF, hxF, hyF]
  rw [e1, e2] at k
  exact k
theorem sgn_opp {x y : Int} : sgn x * sgn y < 0 ↔ oppo x y := by
  rcases sgn_cases x with ⟨h1, e1⟩ | ⟨h1, e1⟩ | ⟨h1, e1⟩ <;> rcases sgn_cases y with ⟨h2, e2⟩ | ⟨h2, e2⟩ | ⟨h2, e2⟩ <;> rw [e1, e2] <;> unfold oppo <;> omega
theorem sgn_same {x y : Int} : 0 < sgn x * sgn y ↔ sameS x y := by
  rcases sgn_cases x with ⟨h1, e1⟩ | ⟨h1, e1⟩ | ⟨h1, e1⟩ <;> rcases sgn_cases y with ⟨h2, e2⟩ | ⟨h2, e2⟩ | ⟨h2, e2⟩ <;> rw [e1, e2] <;> unfold sameS <;> omega
theorem sgn_mul_bd (x y : Int) : -1 ≤ sgn x * sgn y ∧ sgn x * sgn y ≤ 1 := by
  rcases sgn_cases x with ⟨h1, e1⟩ | ⟨h1, e1⟩ | ⟨h1, e1⟩ <;> rcases sgn_cases y with ⟨h2, e2⟩ | ⟨h2, e2⟩ | ⟨h2, e2⟩ <;> rw [e1, e2] <;> decide
/-- What boxes and sides tell of how segments meet. -/
theorem apart_all {a b c d : Int × Int} (hab : mayQ a b = true) (hcd : mayQ c d = true) :
    (meetF (min a.1 b.1) (min a.2 b.2) (max a.1 b.1 + 1) (max a.2 b.2 + 1) (min c.1 d.1) (min c.2 d.2) (max c.1 d.1 + 1) (max c.2 d.2 + 1) = false → meetQ a b c d = 0) ∧
    (0 < turnF a.1 a.2 b.1 b.2 c.1 c.2 * turnF a.1 a.2 b.1 b.2 d.1 d.2 ∨ 0 < turnF c.1 c.2 d.1 d.2 a.1 a.2 * turnF c.1 c.2 d.1 d.2 b.1 b.2 → meetQ a b c d = 0) ∧
    (meetQ a b c d = 2 ↔ turnF a.1 a.2 b.1 b.2 c.1 c.2 * turnF a.1 a.2 b.1 b.2 d.1 d.2 < 0 ∧ turnF c.1 c.2 d.1 d.2 a.1 a.2 * turnF c.1 c.2 d.1 d.2 b.1 b.2 < 0) := by
  obtain ⟨va, vb, hn⟩ := may_ok hab
  obtain ⟨vc, vd, hn2⟩ := may_ok hcd
  have tq : ∀ {x y z : Int × Int}, okP x.1 x.2 = true → okP y.1 y.2 = true → okP z.1 z.2 = true → turnF x.1 x.2 y.1 y.2 z.1 z.2 = sgn (detQ x y z) := by
    intro x y z h1 h2 h3
    unfold turnF
    rw [h1, h2, h3]; rfl
  have hm : meetQ a b c d = howQ a b c d := by unfold meetQ; rw [hab, hcd]; rfl
  rw [tq va vb vc, tq va vb vd, tq vc vd va, tq vc vd vb, sgn_same, sgn_same, sgn_opp, sgn_opp, hm]
  refine ⟨fun h => ?_, fun h => ?_, how_cross hn hn2⟩
  · apply Decidable.byContradiction
    intro k
    have k2 := meet_boxes ((how_not hn hn2).1 k)
    unfold meetF at h
    rw [decide_eq_false_iff_not] at h
    omega
  · apply Decidable.byContradiction
    intro k
    have k2 := side_none h
    rcases (how_not hn hn2).1 k with k3 | k3
    · exact k2.1 k3
    · exact k2.2 k3

set_option maxRecDepth 100000 in
set_option maxHeartbeats 4000000 in
theorem apart_not (w : World) (ax ay bx by_ cx cy dx dy : Int) (h : (mayQ (ax, ay) (bx, by_) && mayQ (cx, cy) (dx, dy)) = false) :
    Calls Try.prog 7 #[pt ax ay, pt bx by_, pt cx cy, pt dx dy] w fun e w' => e = .returned (.bool true) ∧ Junk w w' := by
  have H9 := Lib.hid l_crAwake
  have HV1 := Lib.hid (fun w' => l_crMay ax ay bx by_ w')
  have HV2 := Lib.hid (fun w' => l_crMay cx cy dx dy w')
  generalize mayQ (ax, ay) (bx, by_) = v1 at *
  generalize mayQ (cx, cy) (dx, dy) = v2 at *
  unfold pt at *
  cases v1 with
  | false =>
    clear h
    go_enter Try.func7, Try.ntmps7
    go_wp2_with (first | (go_at_call 14; refine (H9.out _).mono ?_; rintro e w1 ⟨rfl, J0, dJ0, rfl⟩) | (go_at_call 15; (first | (with_reducible refine (HV1.out _).mono ?_) | (with_reducible refine (HV2.out _).mono ?_)); rintro e w1 ⟨rfl, J1, dJ1, rfl⟩))
    go_ret
    exact ⟨rfl, junk_of_below (by (repeat' (first | (with_reducible exact Below.refl _ _) | (with_reducible assumption) | (with_reducible refine Below.alloc ?_ ?_ _) | (with_reducible refine Below.drew ?_) | (with_reducible refine below_drewN ?_ _) | (with_reducible refine below_plus ?_ ?_ _ _) | (with_reducible refine Below.setCell ?_ ?_ _) | (with_reducible refine Below.setRow ?_ ?_ _) | go_size)))⟩
  | true =>
    obtain rfl : v2 = false := by simpa using h
    clear h
    go_enter Try.func7, Try.ntmps7
    go_wp2_with (first | (go_at_call 14; refine (H9.out _).mono ?_; rintro e w1 ⟨rfl, J0, dJ0, rfl⟩) | (go_at_call 15; (first | (with_reducible refine (HV1.out _).mono ?_) | (with_reducible refine (HV2.out _).mono ?_)); rintro e w1 ⟨rfl, J1, dJ1, rfl⟩))
    go_ret
    exact ⟨rfl, junk_of_below (by (repeat' (first | (with_reducible exact Below.refl _ _) | (with_reducible assumption) | (with_reducible refine Below.alloc ?_ ?_ _) | (with_reducible refine Below.drew ?_) | (with_reducible refine below_drewN ?_ _) | (with_reducible refine below_plus ?_ ?_ _ _) | (with_reducible refine Below.setCell ?_ ?_ _) | (with_reducible refine Below.setRow ?_ ?_ _) | go_size)))⟩
set_option maxRecDepth 100000 in
set_option maxHeartbeats 8000000 in
theorem apart_in (w : World) (ax ay bx by_ cx cy dx dy : Int) (h1 : mayQ (ax, ay) (bx, by_) = true) (h2 : mayQ (cx, cy) (dx, dy) = true) :
    Calls Try.prog 7 #[pt ax ay, pt bx by_, pt cx cy, pt dx dy] w fun e w' => e = .returned (.bool true) ∧ Junk w w' := by
  have H9 := Lib.hid l_crAwake
  have HV1 := Lib.hid (fun w' => l_crMay ax ay bx by_ w')
  have HV2 := Lib.hid (fun w' => l_crMay cx cy dx dy w')
  have HB1 := Lib.hid (fun W b h0 k1 k2 k3 => box_two h1 W b h0 k1 k2 k3)
  have HB2 := Lib.hid (fun W b h0 k1 k2 k3 => box_two h2 W b h0 k1 k2 k3)
  obtain ⟨s1, s2, s3⟩ := apart_all h1 h2
  simp only at s1 s2 s3
  rw [h1] at HV1
  rw [h2] at HV2
  have HM := Lib.hid (fun w' => n_crMeets ax ay bx by_ cx cy dx dy w')
  have HX := Lib.hid (fun w' => n_ptMeet (min ax bx) (min ay by_) (max ax bx + 1) (max ay by_ + 1) (min cx dx) (min cy dy) (max cx dx + 1) (max cy dy + 1) w')
  have HT1 := Lib.hid (fun w' => n_ptTurn ax ay bx by_ cx cy w')
  have HT2 := Lib.hid (fun w' => n_ptTurn ax ay bx by_ dx dy w')
  have HT3 := Lib.hid (fun w' => n_ptTurn cx cy dx dy ax ay w')
  have HT4 := Lib.hid (fun w' => n_ptTurn cx cy dx dy bx by_ w')
  have bd : ∀ x y z u v s r q : Int, ∀ m n : Int, -1 ≤ turnF x y z u v s * turnF x y z u r q ∧ turnF x y z u v s * turnF x y z u r q ≤ 1 := by
    intro x y z u v s r q _ _
    have k : ∀ x y z u v s : Int, ∃ t, turnF x y z u v s = sgn t := by
      intro x y z u v s
      unfold turnF
      split
      · exact ⟨_, rfl⟩
      · exact ⟨0, rfl⟩
    obtain ⟨t1, e1⟩ := k x y z u v s
    obtain ⟨t2, e2⟩ := k x y z u r q
    rw [e1, e2]
    exact sgn_mul_bd _ _
  have bd1 := bd ax ay bx by_ cx cy dx dy 0 0
  have bd2 := bd cx cy dx dy ax ay bx by_ 0 0
  clear bd h1 h2
  generalize meetQ (ax, ay) (bx, by_) (cx, cy) (dx, dy) = n at *
  generalize turnF ax ay bx by_ cx cy = t1 at *
  generalize turnF ax ay bx by_ dx dy = t2 at *
  generalize turnF cx cy dx dy ax ay = t3 at *
  generalize turnF cx cy dx dy bx by_ = t4 at *
  generalize meetF (min ax bx) (min ay by_) (max ax bx + 1) (max ay by_ + 1) (min cx dx) (min cy dy) (max cx dx + 1) (max cy dy + 1) = mo at *
  obtain ⟨p1, hp1⟩ : ∃ p, t1 * t2 = p := ⟨_, rfl⟩
  obtain ⟨p2, hp2⟩ : ∃ p, t3 * t4 = p := ⟨_, rfl⟩
  rw [hp1] at s2 s3 bd1
  rw [hp2] at s2 s3 bd2
  have e1 : IntKind.i64.wrap p1 = p1 := by simp [IntKind.wrap, IntKind.signed, IntKind.bits]; omega
  have e2 : IntKind.i64.wrap p2 = p2 := by simp [IntKind.wrap, IntKind.signed, IntKind.bits]; omega
  have S1 := Lib.hid s1
  have S2 := Lib.hid s2
  have S3 := Lib.hid s3
  clear s1 s2 s3 bd1 bd2
  unfold bxV at *
  generalize min ax bx = m1 at *
  generalize min ay by_ = m2 at *
  generalize max ax bx + 1 = m3 at *
  generalize max ay by_ + 1 = m4 at *
  generalize min cx dx = m5 at *
  generalize min cy dy = m6 at *
  generalize max cx dx + 1 = m7 at *
  generalize max cy dy + 1 = m8 at *
  unfold pt at *
  go_enter Try.func7, Try.ntmps7
  go_upto_region 1 with fail
  obtain ⟨W, hW⟩ : ∃ W, ((((w.alloc (.cells #[.int .i64 ax, .int .i64 ay] 23)).alloc (.cells #[.int .i64 bx, .int .i64 by_] 23)).alloc (.cells #[.int .i64 cx, .int .i64 cy] 23)).alloc (.cells #[.int .i64 dx, .int .i64 dy] 23)) = W := ⟨_, rfl⟩
  have c00 : W.cell? ⟨w.heap.size, 0, none⟩ = some (.int .i64 ax) := by rw [← hW]; simp [go_sem]
  have c01 : W.cell? ⟨w.heap.size, 1, none⟩ = some (.int .i64 ay) := by rw [← hW]; simp [go_sem]
  have hb0 : w.heap.size < W.heap.size := by rw [← hW]; simp; try omega
  have c10 : W.cell? ⟨w.heap.size + 1, 0, none⟩ = some (.int .i64 bx) := by rw [← hW]; simp [go_sem]
  have c11 : W.cell? ⟨w.heap.size + 1, 1, none⟩ = some (.int .i64 by_) := by rw [← hW]; simp [go_sem]
  have hb1 : w.heap.size + 1 < W.heap.size := by rw [← hW]; simp; try omega
  have c20 : W.cell? ⟨w.heap.size + 1 + 1, 0, none⟩ = some (.int .i64 cx) := by rw [← hW]; simp [go_sem]
  have c21 : W.cell? ⟨w.heap.size + 1 + 1, 1, none⟩ = some (.int .i64 cy) := by rw [← hW]; simp [go_sem]
  have hb2 : w.heap.size + 1 + 1 < W.heap.size := by rw [← hW]; simp; try omega
  have c30 : W.cell? ⟨w.heap.size + 1 + 1 + 1, 0, none⟩ = some (.int .i64 dx) := by rw [← hW]; simp [go_sem]
  have c31 : W.cell? ⟨w.heap.size + 1 + 1 + 1, 1, none⟩ = some (.int .i64 dy) := by rw [← hW]; simp [go_sem]
  have hb3 : w.heap.size + 1 + 1 + 1 < W.heap.size := by rw [← hW]; simp; try omega
  have hj : Below w.heap.size w W := by rw [← hW]; (repeat' (first | (with_reducible exact Below.refl _ _) | (with_reducible assumption) | (with_reducible refine Below.alloc ?_ ?_ _) | (with_reducible refine Below.drew ?_) | (with_reducible refine below_drewN ?_ _) | (with_reducible refine below_plus ?_ ?_ _ _) | (with_reducible refine Below.setCell ?_ ?_ _) | (with_reducible refine Below.setRow ?_ ?_ _) | go_size))
  have hsz : w.heap.size ≤ W.heap.size := hj.size
  rw [hW]
  clear hW
  go_wp2_with (first | (go_at_call 14; refine (H9.out _).mono ?_; rintro e w1 ⟨rfl, J0, dJ0, rfl⟩) | (go_at_call 15; (first | (with_reducible refine (HV1.out _).mono ?_) | (with_reducible refine (HV2.out _).mono ?_)); rintro e w1 ⟨rfl, J1, dJ1, rfl⟩) | (go_at_call 9; (first | (with_reducible refine (HM.out _).mono ?_)); rintro e w1 ⟨rfl, J2, dJ2, rfl⟩))
  refine (HB1.out _ _ ?_ ?_ ?_ ?_).mono ?_
  iterate 4 (simp [go_sem])
  rintro e w1 ⟨rfl, J3, d3, rfl⟩
  go_wp2_with fail
  refine (HB2.out _ _ ?_ ?_ ?_ ?_).mono ?_
  iterate 4 (simp [go_sem])
  rintro e w1 ⟨rfl, J4, d4, rfl⟩
  go_upto_region 7 with fail
  go_cut [63] from 48 to 63 (fun t wx => t = .bool false ∧ Cls W wx)
  case first =>
    have hn0 : mo = true ∨ (mo = false ∧ n = 0) := by
      cases mo
      · exact .inr ⟨rfl, S1.out rfl⟩
      · exact .inl rfl
    rcases hn0 with rfl | ⟨rfl, rfl⟩
    all_goals
      go_wp2_with (go_at_call 20; (first | (with_reducible refine (HX.out _).mono ?_)); rintro e w1 ⟨rfl, J5, dJ5, rfl⟩)
      go_meet
      case rel => exact ⟨rfl, cls_of (junk_of_below (by (repeat' (first | (with_reducible exact Below.refl _ _) | (with_reducible assumption) | (with_reducible refine Below.alloc ?_ ?_ _) | (with_reducible refine Below.drew ?_) | (with_reducible refine below_drewN ?_ _) | (with_reducible refine below_plus ?_ ?_ _ _) | (with_reducible refine Below.setCell ?_ ?_ _) | (with_reducible refine Below.setRow ?_ ?_ _) | go_size))))⟩
  case rest =>
  obtain ⟨rfl, J5, d5, rfl⟩ := hcut
  go_upto_region 9 with fail
  refine region_quiet_all (C := Cls W) (by kernel_rfl) (by kernel_rfl) ⟨_, _, rfl⟩ ?_
  repeat (first | (refine qw_skip (by rfl) ?_; simp only [Act.put, List.setIfInBounds_toArray, List.set_cons_succ, List.set_cons_zero]) | (refine qw_want (by rfl) (fun K hK => ?_); go_simp; first | (refine hK _ ?_; clear hK K) | (apply Exists.intro; refine ⟨?_, hK _ ?_⟩; (rintro w3_ ⟨J3_, d3_, rfl⟩; first | (with_reducible exact rfl) | (go_simp; with_reducible exact rfl) | (go_simp; (first | (with_reducible refine (HT1.out _).mono ?_) | (with_reducible refine (HT2.out _).mono ?_) | (with_reducible refine (HT3.out _).mono ?_) | (with_reducible refine (HT4.out _).mono ?_)); rintro e_ w_ ⟨rfl, J4_, d4_, rfl⟩; exact ⟨rfl, J3_ ++ J4_, d4_, by simp only [plus_plus, Array.append_assoc]⟩)); clear hK K)))
  refine qw_nil ?_
  rintro w3 ⟨J6, d6, rfl⟩
  have s2 := S2.out
  have s3 := S3.out
  clear S1 S2 S3 hp1 hp2 e1 e2
  rcases Int.lt_trichotomy p1 0 with q1 | q1 | q1 <;> rcases Int.lt_trichotomy p2 0 with q2 | q2 | q2
  case' inl.inl => obtain rfl : n = 2 := s3.2 ⟨q1, q2⟩
  case' inl.inr.inr | inr.inl.inr.inr | inr.inr.inl | inr.inr.inr.inl | inr.inr.inr.inr => obtain rfl : n = 0 := s2 (by omega)
  case' inl.inr.inl | inr.inl.inl | inr.inl.inr.inl => have q3 : (n == 2) = false := by rw [beq_eq_false_iff_ne]; omega
  all_goals
    clear s2 s3
    have r1 : (p1 < 0) ∨ ¬ (p1 < 0) := by omega
    have r2 : (p2 < 0) ∨ ¬ (p2 < 0) := by omega
    have r3 : (0 < p1) ∨ ¬ (0 < p1) := by omega
    have r4 : (0 < p2) ∨ ¬ (0 < p2) := by omega
    rcases r1 with r1 | r1 <;> rcases r2 with r2 | r2 <;> rcases r3 with r3 | r3 <;> rcases r4 with r4 | r4 <;> first | (exfalso; omega) | skip
    go_wp2_with fail
    go_ret
    exact ⟨rfl, junk_of_below (by (repeat' (first | (with_reducible exact Below.refl _ _) | (with_reducible assumption) | (with_reducible refine Below.alloc ?_ ?_ _) | (with_reducible refine Below.drew ?_) | (with_reducible refine below_drewN ?_ _) | (with_reducible refine below_plus ?_ ?_ _ _) | (with_reducible refine Below.setCell ?_ ?_ _) | (with_reducible refine Below.setRow ?_ ?_ _) | go_size)))⟩
theorem l_crossApart (w : World) (ax ay bx by_ cx cy dx dy : Int) : Calls Try.prog 7 #[pt ax ay, pt bx by_, pt cx cy, pt dx dy] w fun e w' => e = .returned (.bool true) ∧ Junk w w' := by
  cases h : mayQ (ax, ay) (bx, by_) && mayQ (cx, cy) (dx, dy) with
  | false => exact apart_not w ax ay bx by_ cx cy dx dy h
  | true =>
    rw [Bool.and_eq_true] at h
    exact apart_in w ax ay bx by_ cx cy dx dy h.1 h.2
end Go.Proofs.Ytlhknnjnccjgfaa

/- Contract of apportionref08.Meets. -/
import Derived.Test.YtlhknnjnccjgfaaCrE
import Derived.Test.YtlhknnjnccjgfaaCrQ
namespace Go.Proofs.Ytlhknnjnccjgfaa
set_option linter.unusedVariables false
set_option linter.unusedSimpArgs false
open Go.RowKit

set_option maxRecDepth 100000 in
set_option maxHeartbeats 4000000 in
theorem r_crMeets (w : World) (ax ay bx by_ cx cy dx dy : Int) : Calls Try.prog 10 #[pt ax ay, pt bx by_, pt cx cy, pt dx dy] w fun e w' => e = .returned (.int .i64 (meetQ (ax, ay) (bx, by_) (cx, cy) (dx, dy))) ∧ Junk w w' := by
  have HV1 := Lib.hid (fun w' => r_crMay ax ay bx by_ w')
  have HV2 := Lib.hid (fun w' => r_crMay cx cy dx dy w')
  cases h : mayQ (ax, ay) (bx, by_) && mayQ (cx, cy) (dx, dy) with
  | false =>
    rw [show meetQ (ax, ay) (bx, by_) (cx, cy) (dx, dy) = 0 by unfold meetQ; rw [h]; rfl]
    generalize mayQ (ax, ay) (bx, by_) = v1 at *
    generalize mayQ (cx, cy) (dx, dy) = v2 at *
    unfold pt at *
    cases v1 with
    | false =>
      clear h
      go_enter Try.func10, Try.ntmps10
      go_wp2_with (go_at_call 23; (first | ((with_reducible refine (HV1.out _).mono ?_); rintro e w1 ⟨rfl, J1, d1, rfl⟩) | ((with_reducible refine (HV2.out _).mono ?_); rintro e w1 ⟨rfl, J2, d2, rfl⟩)))
      go_ret
      exact ⟨rfl, junk_of_below (by (repeat' (first | (with_reducible exact Below.refl _ _) | (with_reducible assumption) | (with_reducible refine Below.alloc ?_ ?_ _) | (with_reducible refine Below.drew ?_) | (with_reducible refine below_drewN ?_ _) | (with_reducible refine below_plus ?_ ?_ _ _) | (with_reducible refine Below.setCell ?_ ?_ _) | (with_reducible refine Below.setRow ?_ ?_ _) | go_size)))⟩
    | true =>
      obtain rfl : v2 = false := by simpa using h
      clear h
      go_enter Try.func10, Try.ntmps10
      go_wp2_with (go_at_call 23; (first | ((with_reducible refine (HV1.out _).mono ?_); rintro e w1 ⟨rfl, J1, d1, rfl⟩) | ((with_reducible refine (HV2.out _).mono ?_); rintro e w1 ⟨rfl, J2, d2, rfl⟩)))
      go_ret
      exact ⟨rfl, junk_of_below (by (repeat' (first | (with_reducible exact Below.refl _ _) | (with_reducible assumption) | (with_reducible refine Below.alloc ?_ ?_ _) | (with_reducible refine Below.drew ?_) | (with_reducible refine below_drewN ?_ _) | (with_reducible refine below_plus ?_ ?_ _ _) | (with_reducible refine Below.setCell ?_ ?_ _) | (with_reducible refine Below.setRow ?_ ?_ _) | go_size)))⟩
  | true =>
    have hm : meetQ (ax, ay) (bx, by_) (cx, cy) (dx, dy) = howQ (ax, ay) (bx, by_) (cx, cy) (dx, dy) := by unfold meetQ; rw [h]; rfl
    have hcm : commonQ (ax, ay) (bx, by_) (cx, cy) (dx, dy) = endsQ (ax, ay) (bx, by_) (cx, cy) (dx, dy) := by unfold commonQ; rw [h]; rfl
    have HE := Lib.hid (show ∀ w', Calls Try.prog 13 #[pt ax ay, pt bx by_, pt cx cy, pt dx dy] w' fun e w'' => (∃ a cap, e = .returned (.slice a (cntQ (ax, ay) (bx, by_) (cx, cy) (dx, dy)) cap)) ∧ Junk w' w'' from fun w' => by
      refine (r_crEnds w' ax ay bx by_ cx cy dx dy).mono ?_
      rintro e w'' ⟨⟨v, rfl, a, n, cap, rfl, hr, _⟩, hj⟩
      have := hr.1
      rw [hcm, ends_len] at this
      subst this
      exact ⟨⟨a, cap, rfl⟩, hj⟩)
    rw [Bool.and_eq_true] at h
    obtain ⟨_, _, s3⟩ := apart_all h.1 h.2
    have hcr := how_cross (may_ne h.1) (may_ne h.2)
    rw [hm, hcr] at s3
    rw [hm]
    have hle := cnt_le (may_ne h.1) (may_ne h.2)
    rw [h.1] at HV1
    rw [h.2] at HV2
    simp only at s3
    have HT1 := Lib.hid (fun w' => r_ptTurn ax ay bx by_ cx cy w')
    have HT2 := Lib.hid (fun w' => r_ptTurn ax ay bx by_ dx dy w')
    have HT3 := Lib.hid (fun w' => r_ptTurn cx cy dx dy ax ay w')
    have HT4 := Lib.hid (fun w' => r_ptTurn cx cy dx dy bx by_ w')
    have bd : ∀ x y z u v s r q : Int, -1 ≤ turnF x y z u v s * turnF x y z u r q ∧ turnF x y z u v s * turnF x y z u r q ≤ 1 := by
      intro x y z u v s r q
      have k : ∀ x y z u v s : Int, ∃ t, turnF x y z u v s = sgn t := by
        intro x y z u v s
        unfold turnF
        split
        · exact ⟨_, rfl⟩
        · exact ⟨0, rfl⟩
      obtain ⟨t1, e1⟩ := k x y z u v s
      obtain ⟨t2, e2⟩ := k x y z u r q
      rw [e1, e2]
      exact sgn_mul_bd _ _
    have bd1 := bd ax ay bx by_ cx cy dx dy
    have bd2 := bd cx cy dx dy ax ay bx by_
    have hh : howQ (ax, ay) (bx, by_) (cx, cy) (dx, dy) = if 1 < cntQ (ax, ay) (bx, by_) (cx, cy) (dx, dy) then 3 else if cntQ (ax, ay) (bx, by_) (cx, cy) (dx, dy) = 1 then 1 else if crossQ (ax, ay) (bx, by_) (cx, cy) (dx, dy) then 2 else 0 := rfl
    clear bd h hm hcm hcr
    generalize howQ (ax, ay) (bx, by_) (cx, cy) (dx, dy) = r at *
    generalize cntQ (ax, ay) (bx, by_) (cx, cy) (dx, dy) = n at *
    generalize turnF ax ay bx by_ cx cy = t1 at *
    generalize turnF ax ay bx by_ dx dy = t2 at *
    generalize turnF cx cy dx dy ax ay = t3 at *
    generalize turnF cx cy dx dy bx by_ = t4 at *
    obtain ⟨p1, hp1⟩ : ∃ p, t1 * t2 = p := ⟨_, rfl⟩
    obtain ⟨p2, hp2⟩ : ∃ p, t3 * t4 = p := ⟨_, rfl⟩
    rw [hp1] at s3 bd1
    rw [hp2] at s3 bd2
    have e1 : IntKind.i64.wrap p1 = p1 := by simp [IntKind.wrap, IntKind.signed, IntKind.bits]; omega
    have e2 : IntKind.i64.wrap p2 = p2 := by simp [IntKind.wrap, IntKind.signed, IntKind.bits]; omega
    unfold pt at *
    have hcase : (1 < (n : Int) ∧ r = 3) ∨ ((¬ 1 < (n : Int)) ∧ ((n : Int) == 1) = true ∧ r = 1) ∨ ((¬ 1 < (n : Int)) ∧ ((n : Int) == 1) = false ∧ ((p1 < 0 ∧ p2 < 0 ∧ r = 2) ∨ (p1 < 0 ∧ ¬ p2 < 0 ∧ r = 0) ∨ (¬ p1 < 0 ∧ r = 0))) := by
      by_cases k1 : 1 < n
      · rw [if_pos k1] at hh; exact .inl ⟨by omega, hh⟩
      rw [if_neg k1] at hh
      by_cases k2 : n = 1
      · rw [if_pos k2] at hh; exact .inr (.inl ⟨by omega, by rw [beq_iff_eq]; omega, hh⟩)
      rw [if_neg k2] at hh
      refine .inr (.inr ⟨by omega, by rw [beq_eq_false_iff_ne]; omega, ?_⟩)
      by_cases k3 : p1 < 0
      · by_cases k4 : p2 < 0
        · rw [if_pos (s3.2 ⟨k3, k4⟩)] at hh; exact .inl ⟨k3, k4, hh⟩
        · rw [if_neg (fun k => k4 (s3.1 k).2)] at hh; exact .inr (.inl ⟨k3, k4, hh⟩)
      · rw [if_neg (fun k => k3 (s3.1 k).1)] at hh; exact .inr (.inr ⟨k3, hh⟩)
    have HCASE := Lib.hid hcase
    clear hcase hh s3 bd1 bd2 hle
    go_enter Try.func10, Try.ntmps10
    go_upto_region 1 with fail
    obtain ⟨W, hW⟩ : ∃ W, ((((w.alloc (.cells #[.int .i64 ax, .int .i64 ay] 23)).alloc (.cells #[.int .i64 bx, .int .i64 by_] 23)).alloc (.cells #[.int .i64 cx, .int .i64 cy] 23)).alloc (.cells #[.int .i64 dx, .int .i64 dy] 23)) = W := ⟨_, rfl⟩
    have c00 : W.cell? ⟨w.heap.size, 0, none⟩ = some (.int .i64 ax) := by rw [← hW]; simp [go_sem]
    have c01 : W.cell? ⟨w.heap.size, 1, none⟩ = some (.int .i64 ay) := by rw [← hW]; simp [go_sem]
    have hb0 : w.heap.size < W.heap.size := by rw [← hW]; simp; try omega
    have c10 : W.cell? ⟨w.heap.size + 1, 0, none⟩ = some (.int .i64 bx) := by rw [← hW]; simp [go_sem]
    have c11 : W.cell? ⟨w.heap.size + 1, 1, none⟩ = some (.int .i64 by_) := by rw [← hW]; simp [go_sem]
    have hb1 : w.heap.size + 1 < W.heap.size := by rw [← hW]; simp; try omega
    have c20 : W.cell? ⟨w.heap.size + 1 + 1, 0, none⟩ = some (.int .i64 cx) := by rw [← hW]; simp [go_sem]
    have c21 : W.cell? ⟨w.heap.size + 1 + 1, 1, none⟩ = some (.int .i64 cy) := by rw [← hW]; simp [go_sem]
    have hb2 : w.heap.size + 1 + 1 < W.heap.size := by rw [← hW]; simp; try omega
    have c30 : W.cell? ⟨w.heap.size + 1 + 1 + 1, 0, none⟩ = some (.int .i64 dx) := by rw [← hW]; simp [go_sem]
    have c31 : W.cell? ⟨w.heap.size + 1 + 1 + 1, 1, none⟩ = some (.int .i64 dy) := by rw [← hW]; simp [go_sem]
    have hb3 : w.heap.size + 1 + 1 + 1 < W.heap.size := by rw [← hW]; simp; try omega
    have hj : Below w.heap.size w W := by rw [← hW]; (repeat' (first | (with_reducible exact Below.refl _ _) | (with_reducible assumption) | (with_reducible refine Below.alloc ?_ ?_ _) | (with_reducible refine Below.drew ?_) | (with_reducible refine below_drewN ?_ _) | (with_reducible refine below_plus ?_ ?_ _ _) | (with_reducible refine Below.setCell ?_ ?_ _) | (with_reducible refine Below.setRow ?_ ?_ _) | go_size))
    have hsz : w.heap.size ≤ W.heap.size := hj.size
    rw [hW]
    clear hW
    go_upto_region 4 with (first | (go_at_call 23; (first | ((with_reducible refine (HV1.out _).mono ?_); rintro e w1 ⟨rfl, J1, d1, rfl⟩) | ((with_reducible refine (HV2.out _).mono ?_); rintro e w1 ⟨rfl, J2, d2, rfl⟩))) | (go_at_call 13; (with_reducible refine (HE.out _).mono ?_); rintro e w1 ⟨⟨a', cap', rfl⟩, J3, d3, rfl⟩))
    clear HV1 HV2 HE
    rcases HCASE.out with ⟨k1, rfl⟩ | ⟨k1, k2, rfl⟩ | ⟨k1, k2, k3⟩
    · go_wp2_with fail
      go_ret
      exact ⟨rfl, junk_of_below (by (repeat' (first | (with_reducible exact Below.refl _ _) | (with_reducible assumption) | (with_reducible refine Below.alloc ?_ ?_ _) | (with_reducible refine Below.drew ?_) | (with_reducible refine below_drewN ?_ _) | (with_reducible refine below_plus ?_ ?_ _ _) | (with_reducible refine Below.setCell ?_ ?_ _) | (with_reducible refine Below.setRow ?_ ?_ _) | go_size)))⟩
    · go_wp2_with fail
      go_ret
      exact ⟨rfl, junk_of_below (by (repeat' (first | (with_reducible exact Below.refl _ _) | (with_reducible assumption) | (with_reducible refine Below.alloc ?_ ?_ _) | (with_reducible refine Below.drew ?_) | (with_reducible refine below_drewN ?_ _) | (with_reducible refine below_plus ?_ ?_ _ _) | (with_reducible refine Below.setCell ?_ ?_ _) | (with_reducible refine Below.setRow ?_ ?_ _) | go_size)))⟩
    · go_upto_region 8 with fail
      refine region_quiet_all (C := Cls W) (by kernel_rfl) (by kernel_rfl) ⟨_, _, rfl⟩ ?_
      repeat (first | (refine qw_skip (by rfl) ?_; simp only [Act.put, List.setIfInBounds_toArray, List.set_cons_succ, List.set_cons_zero]) | (refine qw_want (by rfl) (fun K hK => ?_); go_simp; first | (refine hK _ ?_; clear hK K) | (apply Exists.intro; refine ⟨?_, hK _ ?_⟩; (rintro w3_ ⟨J3_, d3_, rfl⟩; first | (with_reducible exact rfl) | (go_simp; with_reducible exact rfl) | (go_simp; (first | (with_reducible refine (HT1.out _).mono ?_) | (with_reducible refine (HT2.out _).mono ?_)); rintro e_ w_ ⟨rfl, J4_, d4_, rfl⟩; exact ⟨rfl, J3_ ++ J4_, d4_, by simp only [plus_plus, Array.append_assoc]⟩)); clear hK K)))
      refine qw_nil ?_
      rintro w3 ⟨J4, d4, rfl⟩
      go_upto_region 9 with fail
      refine region_quiet_all (C := Cls W) (by kernel_rfl) (by kernel_rfl) ⟨_, _, rfl⟩ ?_
      repeat (first | (refine qw_skip (by rfl) ?_; simp only [Act.put, List.setIfInBounds_toArray, List.set_cons_succ, List.set_cons_zero]) | (refine qw_want (by rfl) (fun K hK => ?_); go_simp; first | (refine hK _ ?_; clear hK K) | (apply Exists.intro; refine ⟨?_, hK _ ?_⟩; (rintro w3_ ⟨J3_, d3_, rfl⟩; first | (with_reducible exact rfl) | (go_simp; with_reducible exact rfl) | (go_simp; (first | (with_reducible refine (HT3.out _).mono ?_) | (with_reducible refine (HT4.out _).mono ?_)); rintro e_ w_ ⟨rfl, J4_, d4_, rfl⟩; exact ⟨rfl, J3_ ++ J4_, d4_, by simp only [plus_plus, Array.append_assoc]⟩)); clear hK K)))
      refine qw_nil ?_
      rintro w3 ⟨J5, d5, rfl⟩
      rcases k3 with ⟨k3, k4, rfl⟩ | ⟨k3, k4, rfl⟩ | ⟨k3, rfl⟩
      all_goals
        go_wp2_with fail
        go_ret
        exact ⟨rfl, junk_of_below (by (repeat' (first | (with_reducible exact Below.refl _ _) | (with_reducible assumption) | (with_reducible refine Below.alloc ?_ ?_ _) | (with_reducible refine Below.drew ?_) | (with_reducible refine below_drewN ?_ _) | (with_reducible refine below_plus ?_ ?_ _ _) | (with_reducible refine Below.setCell ?_ ?_ _) | (with_reducible refine Below.setRow ?_ ?_ _) | go_size)))⟩
end Go.Proofs.Ytlhknnjnccjgfaa

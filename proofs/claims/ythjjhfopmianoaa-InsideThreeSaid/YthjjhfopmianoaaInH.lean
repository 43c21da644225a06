/- The law InsideThree: the walk. -/
import Derived.Test.YthjjhfopmianoaaInT
import Derived.Test.YthjjhfopmianoaaPtH
namespace Go.Proofs.Ythjjhfopmianoaa
set_option linter.unusedVariables false
set_option linter.unusedSimpArgs false
open Go.RowKit

set_option maxRecDepth 100000 in
set_option maxHeartbeats 8000000 in
theorem l_insideThree (w : World) (px py ax ay bx by_ cx cy : Int) : Calls Try.prog 7 #[pt px py, pt ax ay, pt bx by_, pt cx cy] w fun e w' => e = .returned (.bool true) ∧ Junk w w' := by
  have HAw := Lib.hid l_inAwake
  have HV := Lib.hid (fun w' => n_ptValid px py w')
  have HT0 := Lib.hid (fun w' => n_ptTurn ax ay bx by_ cx cy w')
  have HT1 := Lib.hid (fun w' => n_ptTurn ax ay bx by_ px py w')
  have HT2 := Lib.hid (fun w' => n_ptTurn bx by_ cx cy px py w')
  have HT3 := Lib.hid (fun w' => n_ptTurn cx cy ax ay px py w')
  have HI := Lib.hid (fun w' a' h => c_inIn px py w' a' 3 3 [(ax, ay), (bx, by_), (cx, cy)] h (by decide))
  have h3 := in_three (p := (px, py)) (a := (ax, ay)) (b := (bx, by_)) (c := (cx, cy))
  unfold okC turnC at h3
  simp only at h3
  rcases (by cases okP px py <;> simp : okP px py = false ∨ okP px py = true) with hv | hv
  · rw [hv] at HV
    clear h3 hv
    unfold pt at *
    go_enter Try.func7, Try.ntmps7
    go_wp2_with (first | (go_at_call 17; refine (HAw.out _).mono ?_; rintro e w1 ⟨rfl, J4, d4, rfl⟩) | (go_at_call 22; (with_reducible refine (HV.out _).mono ?_); rintro e w1 ⟨rfl, J5, d5, rfl⟩))
    go_ret
    exact ⟨rfl, junk_of_below (by (repeat' (first | (with_reducible exact Below.refl _ _) | (with_reducible assumption) | (with_reducible refine Below.alloc ?_ ?_ _) | (with_reducible refine Below.drew ?_) | (with_reducible refine below_drewN ?_ _) | (with_reducible refine below_plus ?_ ?_ _ _) | (with_reducible refine Below.setCell ?_ ?_ _) | (with_reducible refine Below.setRow ?_ ?_ _) | go_size)))⟩
  rw [hv] at HV
  have h3 := h3 hv
  generalize turnF ax ay bx by_ cx cy = t at *
  generalize turnF ax ay bx by_ px py = x at *
  generalize turnF bx by_ cx cy px py = y at *
  generalize turnF cx cy ax ay px py = z at *
  generalize inQ (px, py) [(ax, ay), (bx, by_), (cx, cy)] = r at *
  unfold pt at *
  clear hv
  rcases Classical.em (¬ t = 1) with ht | ht
  · have e1 : (t == 1) = false := by rw [beq_eq_false_iff_ne]; exact ht
    have e2 : (t != 1) = true := by rw [bne, e1]; rfl
    clear h3 ht
    go_enter Try.func7, Try.ntmps7
    go_wp2_with (first | (go_at_call 17; refine (HAw.out _).mono ?_; rintro e w1 ⟨rfl, J4, d4, rfl⟩) | (go_at_call 22; (with_reducible refine (HV.out _).mono ?_); rintro e w1 ⟨rfl, J5, d5, rfl⟩) | (go_at_call 26; (with_reducible refine (HT0.out _).mono ?_); rintro e w1 ⟨rfl, J6, d6, rfl⟩))
    go_ret
    exact ⟨rfl, junk_of_below (by (repeat' (first | (with_reducible exact Below.refl _ _) | (with_reducible assumption) | (with_reducible refine Below.alloc ?_ ?_ _) | (with_reducible refine Below.drew ?_) | (with_reducible refine below_drewN ?_ _) | (with_reducible refine below_plus ?_ ?_ _ _) | (with_reducible refine Below.setCell ?_ ?_ _) | (with_reducible refine Below.setRow ?_ ?_ _) | go_size)))⟩
  have ht : t = 1 := Classical.byContradiction ht
  have H3 := Lib.hid (h3 ht)
  subst ht
  clear h3
  go_enter Try.func7, Try.ntmps7
  go_upto_region 1 with fail
  obtain ⟨W, hW⟩ : ∃ W, ((((w.alloc (.cells #[.int .i64 px, .int .i64 py] 23)).alloc (.cells #[.int .i64 ax, .int .i64 ay] 23)).alloc (.cells #[.int .i64 bx, .int .i64 by_] 23)).alloc (.cells #[.int .i64 cx, .int .i64 cy] 23)) = W := ⟨_, rfl⟩
  have c00 : W.cell? ⟨w.heap.size, 0, none⟩ = some (.int .i64 px) := by rw [← hW]; simp [go_sem]
  have c01 : W.cell? ⟨w.heap.size, 1, none⟩ = some (.int .i64 py) := by rw [← hW]; simp [go_sem]
  have hb0 : w.heap.size < W.heap.size := by rw [← hW]; simp; try omega
  have c10 : W.cell? ⟨w.heap.size + 1, 0, none⟩ = some (.int .i64 ax) := by rw [← hW]; simp [go_sem]
  have c11 : W.cell? ⟨w.heap.size + 1, 1, none⟩ = some (.int .i64 ay) := by rw [← hW]; simp [go_sem]
  have hb1 : w.heap.size + 1 < W.heap.size := by rw [← hW]; simp; try omega
  have c20 : W.cell? ⟨w.heap.size + 1 + 1, 0, none⟩ = some (.int .i64 bx) := by rw [← hW]; simp [go_sem]
  have c21 : W.cell? ⟨w.heap.size + 1 + 1, 1, none⟩ = some (.int .i64 by_) := by rw [← hW]; simp [go_sem]
  have hb2 : w.heap.size + 1 + 1 < W.heap.size := by rw [← hW]; simp; try omega
  have c30 : W.cell? ⟨w.heap.size + 1 + 1 + 1, 0, none⟩ = some (.int .i64 cx) := by rw [← hW]; simp [go_sem]
  have c31 : W.cell? ⟨w.heap.size + 1 + 1 + 1, 1, none⟩ = some (.int .i64 cy) := by rw [← hW]; simp [go_sem]
  have hb3 : w.heap.size + 1 + 1 + 1 < W.heap.size := by rw [← hW]; simp; try omega
  have hj : Below w.heap.size w W := by rw [← hW]; (repeat' (first | (with_reducible exact Below.refl _ _) | (with_reducible assumption) | (with_reducible refine Below.alloc ?_ ?_ _) | (with_reducible refine Below.drew ?_) | (with_reducible refine below_drewN ?_ _) | (with_reducible refine below_plus ?_ ?_ _ _) | (with_reducible refine Below.setCell ?_ ?_ _) | (with_reducible refine Below.setRow ?_ ?_ _) | go_size))
  have hsz : w.heap.size ≤ W.heap.size := hj.size
  rw [hW]
  clear hW
  go_upto_region 4 with (first | (go_at_call 17; refine (HAw.out _).mono ?_; rintro e w1 ⟨rfl, J4, d4, rfl⟩) | (go_at_call 22; (with_reducible refine (HV.out _).mono ?_); rintro e w1 ⟨rfl, J5, d5, rfl⟩) | (go_at_call 26; (with_reducible refine (HT0.out _).mono ?_); rintro e w1 ⟨rfl, J6, d6, rfl⟩))
  refine region_quiet_all (C := Cls W) (by kernel_rfl) (by kernel_rfl) (by first | exact cls_drawn _ | exact ⟨_, _, rfl⟩) ?_
  repeat (first | (refine qw_skip (by rfl) ?_; simp only [Act.put, List.setIfInBounds_toArray, List.set_cons_succ, List.set_cons_zero]) | (refine qw_want (by rfl) (fun K hK => ?_); go_simp; first | (refine hK _ ?_; clear hK K) | (apply Exists.intro; refine ⟨?_, hK _ ?_⟩; (rintro w3_ ⟨J3_, d3_, rfl⟩; first | (with_reducible exact rfl) | (go_simp; with_reducible exact rfl) | (go_simp; (first | (with_reducible refine (HT1.out _).mono ?_) | (with_reducible refine (HT2.out _).mono ?_) | (with_reducible refine (HT3.out _).mono ?_)); rintro e_ w_ ⟨rfl, J4_, d4_, rfl⟩; exact ⟨rfl, J3_ ++ J4_, d4_, by simp only [plus_plus, Array.append_assoc]⟩)); clear hK K)))
  refine qw_nil ?_
  rintro w3 ⟨J7, d7, rfl⟩
  clear HT0 HT1 HT2 HT3 HV HAw
  go_upto_region 6 with (go_at_call 14; (refine (HI.out _ _ (prc_blt rfl (by simp [pcells]) (by decide) (by simp [Nat.add_assoc]))).mono ?_); rintro e w1 ⟨rfl, J8, d8, rfl⟩)
  clear HI
  have hc : (((x == 1) = true ∧ (y == 1) = true ∧ (z == 1) = true ∧ (x == -1) = false ∧ (y == -1) = false ∧ (z == -1) = false ∧ r = true)
      ∨ (((x == 1) = false ∨ ((x == 1) = true ∧ (y == 1) = false) ∨ ((x == 1) = true ∧ (y == 1) = true ∧ (z == 1) = false))
        ∧ (((x == -1) = false ∧ (y == -1) = false ∧ (z == -1) = false) ∨ ((x == -1) = true ∧ r = false) ∨ ((x == -1) = false ∧ (y == -1) = true ∧ r = false) ∨ ((x == -1) = false ∧ (y == -1) = false ∧ (z == -1) = true ∧ r = false)))) := by
    obtain ⟨k1, k2⟩ := H3.out
    by_cases x1 : x = 1
    · subst x1
      by_cases y1 : y = 1
      · subst y1
        by_cases z1 : z = 1
        · subst z1
          left
          exact ⟨rfl, rfl, rfl, rfl, rfl, rfl, k1 rfl rfl rfl⟩
        · right
          by_cases zm : z = -1
          · subst zm
            have := k2 (.inr (.inr rfl))
            simp [this]
          · simp [z1, zm]
      · right
        by_cases ym : y = -1
        · subst ym
          have := k2 (.inr (.inl rfl))
          simp [this]
        · by_cases zm : z = -1
          · subst zm
            have := k2 (.inr (.inr rfl))
            simp [this, y1, ym]
          · simp [y1, ym, zm]
    · right
      by_cases xm : x = -1
      · subst xm
        have := k2 (.inl rfl)
        simp [this]
      · by_cases ym : y = -1
        · subst ym
          have := k2 (.inr (.inl rfl))
          simp [this, x1, xm]
        · by_cases zm : z = -1
          · subst zm
            have := k2 (.inr (.inr rfl))
            simp [this, x1, xm, ym]
          · simp [x1, xm, ym, zm]
  clear H3
  go_cut [72] from 44 to 72 (fun t wx => t = .bool false ∧ Cls W wx)
  case first =>
    rcases hc with ⟨q1, q2, q3, q4, q5, q6, q7⟩ | ⟨q1 | ⟨q1, q2⟩ | ⟨q1, q2, q3⟩, ⟨q4, q5, q6⟩ | ⟨q4, q7⟩ | ⟨q4, q5, q7⟩ | ⟨q4, q5, q6, q7⟩⟩
    all_goals
      go_wp2_with fail
      go_meet
      case rel => exact ⟨by simp [*], cls_of (junk_of_below (by (repeat' (first | (with_reducible exact Below.refl _ _) | (with_reducible assumption) | (with_reducible refine Below.alloc ?_ ?_ _) | (with_reducible refine Below.drew ?_) | (with_reducible refine below_drewN ?_ _) | (with_reducible refine below_plus ?_ ?_ _ _) | (with_reducible refine Below.setCell ?_ ?_ _) | (with_reducible refine Below.setRow ?_ ?_ _) | go_size))))⟩
  case rest =>
  obtain ⟨rfl, J9, d9, rfl⟩ := hcut
  go_wp2_with fail
  go_ret
  exact ⟨rfl, junk_of_below (by (repeat' (first | (with_reducible exact Below.refl _ _) | (with_reducible assumption) | (with_reducible refine Below.alloc ?_ ?_ _) | (with_reducible refine Below.drew ?_) | (with_reducible refine below_drewN ?_ _) | (with_reducible refine below_plus ?_ ?_ _ _) | (with_reducible refine Below.setCell ?_ ?_ _) | (with_reducible refine Below.setRow ?_ ?_ _) | go_size)))⟩
end Go.Proofs.Ythjjhfopmianoaa

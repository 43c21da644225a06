/- The law InsideBoxes: the walk. -/
import Derived.Test.YthjjhfopmianoaaInF
namespace Go.Proofs.Ythjjhfopmianoaa
set_option linter.unusedVariables false
set_option linter.unusedSimpArgs false
open Go.RowKit

theorem box_facts {px py lx ly hx hy : Int} (h1 : okP px py = true) (h2 : okP lx ly = true) (h3 : okP hx hy = true) (q1 : lx < hx) (q2 : ly < hy) :
    inQ (px, py) (boxR lx ly hx hy) = inF px py lx ly hx hy ∧
    (∀ x, lx < x → x < hx → (inQ (px, py) (boxR lx ly x hy) = true → inQ (px, py) (boxR x ly hx hy) = false) ∧ inF px py lx ly hx hy = (inQ (px, py) (boxR lx ly x hy) || inQ (px, py) (boxR x ly hx hy))) ∧
    (∀ y, ly < y → y < hy → (inQ (px, py) (boxR lx ly hx y) = true → inQ (px, py) (boxR lx y hx hy) = false) ∧ inF px py lx ly hx hy = (inQ (px, py) (boxR lx ly hx y) || inQ (px, py) (boxR lx y hx hy))) := by
  have b2 := okP_iff.mp h2
  have b3 := okP_iff.mp h3
  refine ⟨in_boxR h1 h2 h3 q1 q2, fun x k1 k2 => ?_, fun y k1 k2 => ?_⟩
  · have o1 : okP x hy = true := by rw [okP_iff]; omega
    have o2 : okP x ly = true := by rw [okP_iff]; omega
    rw [in_boxR h1 h2 o1 k1 q2, in_boxR h1 o2 h3 k2 q2]
    unfold inF
    constructor
    · simp only [decide_eq_true_eq, decide_eq_false_iff_not]
      omega
    · rw [Bool.eq_iff_iff]
      simp only [Bool.or_eq_true, decide_eq_true_eq]
      omega
  · have o1 : okP hx y = true := by rw [okP_iff]; omega
    have o2 : okP lx y = true := by rw [okP_iff]; omega
    rw [in_boxR h1 h2 o1 q1 k1, in_boxR h1 o2 h3 q1 k2]
    unfold inF
    constructor
    · simp only [decide_eq_true_eq, decide_eq_false_iff_not]
      omega
    · rw [Bool.eq_iff_iff]
      simp only [Bool.or_eq_true, decide_eq_true_eq]
      omega
set_option maxRecDepth 100000 in
set_option maxHeartbeats 16000000 in
theorem boxes_in (w : World) (px py lx ly hx hy x y : Int) (h1 : okP px py = true) (h2 : okP lx ly = true) (h3 : okP hx hy = true) (q1 : ¬ hx ≤ lx) (q2 : ¬ hy ≤ ly) :
    Calls Try.prog 6 #[pt px py, pt lx ly, pt hx hy, .int .i64 x, .int .i64 y] w fun e w' => e = .returned (.bool true) ∧ Junk w w' := by
  have HAw := Lib.hid l_inAwake
  have HV1 := Lib.hid (fun w' => n_ptValid px py w')
  have HV2 := Lib.hid (fun w' => n_ptValid lx ly w')
  have HV3 := Lib.hid (fun w' => n_ptValid hx hy w')
  obtain ⟨f1, f2, f3⟩ := box_facts h1 h2 h3 (by omega) (by omega)
  rw [h1] at HV1
  rw [h2] at HV2
  rw [h3] at HV3
  have HI := Lib.hid (fun (w' : World) a' ca' K (h : PRC w' a' 4 ca' K) => c_inIn px py w' a' 4 ca' K h (by decide))
  have HP := Lib.hid (fun w' => n_ptIn px py lx ly hx hy w')
  have HB := Lib.hid (fun w' => l_inBox lx ly hx hy w')
  have HB1 := Lib.hid (fun w' => l_inBox lx ly x hy w')
  have HB2 := Lib.hid (fun w' => l_inBox x ly hx hy w')
  have HB3 := Lib.hid (fun w' => l_inBox lx ly hx y w')
  have HB4 := Lib.hid (fun w' => l_inBox lx y hx hy w')
  have HA := Lib.hid l_inAt
  have F1 := Lib.hid f1
  have F2 := Lib.hid f2
  have F3 := Lib.hid f3
  clear h1 h2 h3 f1 f2 f3
  unfold pt bxV at *
  go_enter Try.func6, Try.ntmps6
  go_upto_region 1 with fail
  obtain ⟨W, hW⟩ : ∃ W, (((w.alloc (.cells #[.int .i64 px, .int .i64 py] 23)).alloc (.cells #[.int .i64 lx, .int .i64 ly] 23)).alloc (.cells #[.int .i64 hx, .int .i64 hy] 23)) = W := ⟨_, rfl⟩
  have c00 : W.cell? ⟨w.heap.size, 0, none⟩ = some (.int .i64 px) := by rw [← hW]; simp [go_sem]
  have c01 : W.cell? ⟨w.heap.size, 1, none⟩ = some (.int .i64 py) := by rw [← hW]; simp [go_sem]
  have hb0 : w.heap.size < W.heap.size := by rw [← hW]; simp; try omega
  have c10 : W.cell? ⟨w.heap.size + 1, 0, none⟩ = some (.int .i64 lx) := by rw [← hW]; simp [go_sem]
  have c11 : W.cell? ⟨w.heap.size + 1, 1, none⟩ = some (.int .i64 ly) := by rw [← hW]; simp [go_sem]
  have hb1 : w.heap.size + 1 < W.heap.size := by rw [← hW]; simp; try omega
  have c20 : W.cell? ⟨w.heap.size + 1 + 1, 0, none⟩ = some (.int .i64 hx) := by rw [← hW]; simp [go_sem]
  have c21 : W.cell? ⟨w.heap.size + 1 + 1, 1, none⟩ = some (.int .i64 hy) := by rw [← hW]; simp [go_sem]
  have hb2 : w.heap.size + 1 + 1 < W.heap.size := by rw [← hW]; simp; try omega
  have hj : Below w.heap.size w W := by rw [← hW]; (repeat' (first | (with_reducible exact Below.refl _ _) | (with_reducible assumption) | (with_reducible refine Below.alloc ?_ ?_ _) | (with_reducible refine Below.drew ?_) | (with_reducible refine below_drewN ?_ _) | (with_reducible refine below_plus ?_ ?_ _ _) | (with_reducible refine Below.setCell ?_ ?_ _) | (with_reducible refine Below.setRow ?_ ?_ _) | go_size))
  have hsz : w.heap.size ≤ W.heap.size := hj.size
  rw [hW]
  clear hW
  go_upto_region 4 with (first | (go_at_call 17; refine (HAw.out _).mono ?_; rintro e w1 ⟨rfl, J4, d4, rfl⟩) | (go_at_call 22; (first | (with_reducible refine (HV1.out _).mono ?_) | (with_reducible refine (HV2.out _).mono ?_) | (with_reducible refine (HV3.out _).mono ?_)); rintro e w1 ⟨rfl, J5, d5, rfl⟩))
  obtain ⟨ri, hri⟩ : ∃ r, inF px py lx ly hx hy = r := ⟨_, rfl⟩
  rw [hri] at HP F1 F2 F3
  clear hri HV1 HV2 HV3
  go_region_held3 (fun w' => w'.cell? ⟨w.heap.size, 0, none⟩ = some (.int .i64 px) ∧ w'.cell? ⟨w.heap.size, 1, none⟩ = some (.int .i64 py) ∧ w'.cell? ⟨w.heap.size + 1, 0, none⟩ = some (.int .i64 lx) ∧ w'.cell? ⟨w.heap.size + 1, 1, none⟩ = some (.int .i64 ly) ∧ w'.cell? ⟨w.heap.size + 1 + 1, 0, none⟩ = some (.int .i64 hx) ∧ w'.cell? ⟨w.heap.size + 1 + 1, 1, none⟩ = some (.int .i64 hy)) (first | (refine ⟨?_, ?_, ?_, ?_, ?_, ?_⟩ <;> (simp [go_sem, *]; done))) (first
    | (go_simp; go_at_call 23; (with_reducible refine (HB.out _).mono ?_); rintro e w1 ⟨⟨a1, rfl, hr⟩, J6, d6, rfl⟩; have HR := Lib.hid hr; clear hr; go_simp)
    | (go_simp; go_at_call 14; (refine (HI.out _ _ _ _ (prc_eqh HR.out (by simp only [plus_plus, Array.append_assoc]))).mono ?_); rw [F1.out]; clear HR; rintro e w1 ⟨rfl, J7, d7, rfl⟩; go_simp))
  clear HB
  go_upto_region 6 with (go_at_call 24; (with_reducible refine (HP.out _).mono ?_); rintro e w1 ⟨rfl, J8, d8, rfl⟩)
  rotate_left
  all_goals try (go_ret; exact ⟨rfl, junk_of_below (by (repeat' (first | (with_reducible exact Below.refl _ _) | (with_reducible assumption) | (with_reducible refine Below.alloc ?_ ?_ _) | (with_reducible refine Below.drew ?_) | (with_reducible refine below_drewN ?_ _) | (with_reducible refine below_plus ?_ ?_ _ _) | (with_reducible refine Below.setCell ?_ ?_ _) | (with_reducible refine Below.setRow ?_ ?_ _) | go_size)))⟩)
  rotate_right
  · clear HP F1
    go_region_held3 (fun w' => w'.cell? ⟨w.heap.size, 0, none⟩ = some (.int .i64 px) ∧ w'.cell? ⟨w.heap.size, 1, none⟩ = some (.int .i64 py) ∧ w'.cell? ⟨w.heap.size + 1, 0, none⟩ = some (.int .i64 lx) ∧ w'.cell? ⟨w.heap.size + 1, 1, none⟩ = some (.int .i64 ly) ∧ w'.cell? ⟨w.heap.size + 1 + 1, 0, none⟩ = some (.int .i64 hx) ∧ w'.cell? ⟨w.heap.size + 1 + 1, 1, none⟩ = some (.int .i64 hy)) (first | (refine ⟨?_, ?_, ?_, ?_, ?_, ?_⟩ <;> (simp [go_sem, *]; done))) (first
      | (go_simp; go_at_call 25; (with_reducible refine (HA.out _ _ _).mono ?_); rintro e w1 ⟨rfl, J9, d9, rfl⟩; go_simp)
      | (go_simp; go_at_call 23; (with_reducible refine (HB1.out _).mono ?_); rintro e w1 ⟨⟨a1, rfl, hr⟩, J6, d6, rfl⟩; have HR1 := Lib.hid hr; clear hr; go_simp)
      | (go_simp; go_at_call 23; (with_reducible refine (HB2.out _).mono ?_); rintro e w1 ⟨⟨a1, rfl, hr⟩, J6, d6, rfl⟩; have HR2 := Lib.hid hr; clear hr; go_simp)
      | (go_simp; go_at_call 14; (refine (HI.out _ _ _ _ (prc_eqh HR1.out (by simp only [plus_plus, Array.append_assoc]))).mono ?_); clear HR1; rintro e w1 ⟨rfl, J7, d7, rfl⟩; go_simp)
      | (go_simp; go_at_call 14; (refine (HI.out _ _ _ _ (prc_eqh HR2.out (by simp only [plus_plus, Array.append_assoc]))).mono ?_); clear HR2; rintro e w1 ⟨rfl, J7, d7, rfl⟩; go_simp))
    obtain ⟨g1, g2⟩ := F2.out x (by first | assumption | omega | simp_all) (by first | assumption | omega | simp_all)
    clear F2
    generalize inQ (px, py) (boxR lx ly x hy) = yl at *
    generalize inQ (px, py) (boxR x ly hx hy) = yr at *
    have hc : (yl = true ∧ yr = false) ∨ (yl = false ∧ yr = true) ∨ (yl = false ∧ yr = false) := by
      clear g2
      cases yl <;> cases yr <;> first | (exact absurd (g1 rfl) (by decide)) | simp
    clear g1
    rcases hc with ⟨rfl, rfl⟩ | ⟨rfl, rfl⟩ | ⟨rfl, rfl⟩
    all_goals
      simp only [Bool.or_true, Bool.or_false, Bool.true_or, Bool.false_or] at g2
      first | (exact absurd g2 (by decide)) | skip
      subst g2
    all_goals
      go_upto_region 12 with fail
    all_goals try (go_ret; exact ⟨rfl, junk_of_below (by (repeat' (first | (with_reducible exact Below.refl _ _) | (with_reducible assumption) | (with_reducible refine Below.alloc ?_ ?_ _) | (with_reducible refine Below.drew ?_) | (with_reducible refine below_drewN ?_ _) | (with_reducible refine below_plus ?_ ?_ _ _) | (with_reducible refine Below.setCell ?_ ?_ _) | (with_reducible refine Below.setRow ?_ ?_ _) | go_size)))⟩)
    all_goals
      go_region_held3 (fun w' => w'.cell? ⟨w.heap.size, 0, none⟩ = some (.int .i64 px) ∧ w'.cell? ⟨w.heap.size, 1, none⟩ = some (.int .i64 py) ∧ w'.cell? ⟨w.heap.size + 1, 0, none⟩ = some (.int .i64 lx) ∧ w'.cell? ⟨w.heap.size + 1, 1, none⟩ = some (.int .i64 ly) ∧ w'.cell? ⟨w.heap.size + 1 + 1, 0, none⟩ = some (.int .i64 hx) ∧ w'.cell? ⟨w.heap.size + 1 + 1, 1, none⟩ = some (.int .i64 hy)) (first | (refine ⟨?_, ?_, ?_, ?_, ?_, ?_⟩ <;> (simp [go_sem, *]; done))) (first
        | (go_simp; go_at_call 25; (with_reducible refine (HA.out _ _ _).mono ?_); rintro e w1 ⟨rfl, J9, d9, rfl⟩; go_simp)
        | (go_simp; go_at_call 23; (with_reducible refine (HB3.out _).mono ?_); rintro e w1 ⟨⟨a1, rfl, hr⟩, J6, d6, rfl⟩; have HR1 := Lib.hid hr; clear hr; go_simp)
        | (go_simp; go_at_call 23; (with_reducible refine (HB4.out _).mono ?_); rintro e w1 ⟨⟨a1, rfl, hr⟩, J6, d6, rfl⟩; have HR2 := Lib.hid hr; clear hr; go_simp)
        | (go_simp; go_at_call 14; (refine (HI.out _ _ _ _ (prc_eqh HR1.out (by simp only [plus_plus, Array.append_assoc]))).mono ?_); clear HR1; rintro e w1 ⟨rfl, J7, d7, rfl⟩; go_simp)
        | (go_simp; go_at_call 14; (refine (HI.out _ _ _ _ (prc_eqh HR2.out (by simp only [plus_plus, Array.append_assoc]))).mono ?_); clear HR2; rintro e w1 ⟨rfl, J7, d7, rfl⟩; go_simp))
      obtain ⟨g1, g2⟩ := F3.out y (by first | assumption | omega | simp_all) (by first | assumption | omega | simp_all)
      clear F3
      generalize inQ (px, py) (boxR lx ly hx y) = yl at *
      generalize inQ (px, py) (boxR lx y hx hy) = yr at *
      have hc : (yl = true ∧ yr = false) ∨ (yl = false ∧ yr = true) ∨ (yl = false ∧ yr = false) := by
        clear g2
        cases yl <;> cases yr <;> first | (exact absurd (g1 rfl) (by decide)) | simp
      clear g1
      rcases hc with ⟨rfl, rfl⟩ | ⟨rfl, rfl⟩ | ⟨rfl, rfl⟩
      all_goals
        simp only [Bool.or_true, Bool.or_false, Bool.true_or, Bool.false_or] at g2
        first | (exact absurd g2 (by decide)) | ((try subst g2); go_wp2_with fail; go_ret; exact ⟨rfl, junk_of_below (by (repeat' (first | (with_reducible exact Below.refl _ _) | (with_reducible assumption) | (with_reducible refine Below.alloc ?_ ?_ _) | (with_reducible refine Below.drew ?_) | (with_reducible refine below_drewN ?_ _) | (with_reducible refine below_plus ?_ ?_ _ _) | (with_reducible refine Below.setCell ?_ ?_ _) | (with_reducible refine Below.setRow ?_ ?_ _) | go_size)))⟩)
  all_goals
    clear HP F1 F2
    go_region_held3 (fun w' => w'.cell? ⟨w.heap.size, 0, none⟩ = some (.int .i64 px) ∧ w'.cell? ⟨w.heap.size, 1, none⟩ = some (.int .i64 py) ∧ w'.cell? ⟨w.heap.size + 1, 0, none⟩ = some (.int .i64 lx) ∧ w'.cell? ⟨w.heap.size + 1, 1, none⟩ = some (.int .i64 ly) ∧ w'.cell? ⟨w.heap.size + 1 + 1, 0, none⟩ = some (.int .i64 hx) ∧ w'.cell? ⟨w.heap.size + 1 + 1, 1, none⟩ = some (.int .i64 hy)) (first | (refine ⟨?_, ?_, ?_, ?_, ?_, ?_⟩ <;> (simp [go_sem, *]; done))) (first
      | (go_simp; go_at_call 25; (with_reducible refine (HA.out _ _ _).mono ?_); rintro e w1 ⟨rfl, J9, d9, rfl⟩; go_simp)
      | (go_simp; go_at_call 23; (with_reducible refine (HB3.out _).mono ?_); rintro e w1 ⟨⟨a1, rfl, hr⟩, J6, d6, rfl⟩; have HR1 := Lib.hid hr; clear hr; go_simp)
      | (go_simp; go_at_call 23; (with_reducible refine (HB4.out _).mono ?_); rintro e w1 ⟨⟨a1, rfl, hr⟩, J6, d6, rfl⟩; have HR2 := Lib.hid hr; clear hr; go_simp)
      | (go_simp; go_at_call 14; (refine (HI.out _ _ _ _ (prc_eqh HR1.out (by simp only [plus_plus, Array.append_assoc]))).mono ?_); clear HR1; rintro e w1 ⟨rfl, J7, d7, rfl⟩; go_simp)
      | (go_simp; go_at_call 14; (refine (HI.out _ _ _ _ (prc_eqh HR2.out (by simp only [plus_plus, Array.append_assoc]))).mono ?_); clear HR2; rintro e w1 ⟨rfl, J7, d7, rfl⟩; go_simp))
    obtain ⟨g1, g2⟩ := F3.out y (by first | assumption | omega | simp_all) (by first | assumption | omega | simp_all)
    clear F3
    generalize inQ (px, py) (boxR lx ly hx y) = yl at *
    generalize inQ (px, py) (boxR lx y hx hy) = yr at *
    have hc : (yl = true ∧ yr = false) ∨ (yl = false ∧ yr = true) ∨ (yl = false ∧ yr = false) := by
      clear g2
      cases yl <;> cases yr <;> first | (exact absurd (g1 rfl) (by decide)) | simp
    clear g1
    rcases hc with ⟨rfl, rfl⟩ | ⟨rfl, rfl⟩ | ⟨rfl, rfl⟩
    all_goals
      simp only [Bool.or_true, Bool.or_false, Bool.true_or, Bool.false_or] at g2
      first | (exact absurd g2 (by decide)) | ((try subst g2); go_wp2_with fail; go_ret; exact ⟨rfl, junk_of_below (by (repeat' (first | (with_reducible exact Below.refl _ _) | (with_reducible assumption) | (with_reducible refine Below.alloc ?_ ?_ _) | (with_reducible refine Below.drew ?_) | (with_reducible refine below_drewN ?_ _) | (with_reducible refine below_plus ?_ ?_ _ _) | (with_reducible refine Below.setCell ?_ ?_ _) | (with_reducible refine Below.setRow ?_ ?_ _) | go_size)))⟩)
end Go.Proofs.Ythjjhfopmianoaa

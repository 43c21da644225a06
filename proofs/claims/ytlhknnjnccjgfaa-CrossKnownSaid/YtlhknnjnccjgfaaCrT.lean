/- The law CrossSplit: the walk. -/
import Derived.Test.YtlhknnjnccjgfaaCrFive
namespace Go.Proofs.Ytlhknnjnccjgfaa
set_option linter.unusedVariables false
set_option linter.unusedSimpArgs false
open Go.RowKit

theorem may_ok {a b : Int × Int} (h : mayQ a b = true) : okP a.1 a.2 = true ∧ okP b.1 b.2 = true ∧ a ≠ b := by
  unfold mayQ at h
  rw [Bool.and_eq_true, Bool.and_eq_true, decide_eq_true_iff] at h
  exact ⟨h.1.1, h.1.2, h.2⟩
theorem may_of {a b : Int × Int} (h1 : okP a.1 a.2 = true) (h2 : okP b.1 b.2 = true) (h3 : a ≠ b) : mayQ a b = true := by
  unfold mayQ
  rw [h1, h2, decide_eq_true h3]; rfl
/-- What a segment cut in two answers. -/
theorem split_all {a b p c d : Int × Int} (hab : mayQ a b = true) (hcd : mayQ c d = true) (ho : onB p.1 p.2 a.1 a.2 b.1 b.2 = true) (hpa : p ≠ a) (hpb : p ≠ b) :
    meetQ a p p b = 1 ∧ meetQ a p a b = 3 ∧ meetQ p b a b = 3 ∧ (meetQ a b c d ≠ 0 ↔ meetQ a p c d ≠ 0 ∨ meetQ p b c d ≠ 0) := by
  obtain ⟨va, vb, hn⟩ := may_ok hab
  obtain ⟨vc, vd, hn2⟩ := may_ok hcd
  unfold onB at ho
  rw [Bool.and_eq_true, Bool.and_eq_true, Bool.and_eq_true, decide_eq_true_iff] at ho
  have hp : onQ p a b := ho.2
  have m1 := may_of va ho.1.1.1 (Ne.symm hpa)
  have m2 := may_of ho.1.1.1 vb hpb
  unfold meetQ
  rw [m1, m2, hab, hcd]
  exact ⟨how_parts hp hpa hpb, how_part1 hp, how_part2 hp, how_split hn hn2 hp hpa hpb⟩

set_option maxRecDepth 100000 in
set_option maxHeartbeats 4000000 in
theorem split_not (w : World) (ax ay bx by_ px py cx cy dx dy : Int) (v1 v2 o : Bool) (h1 : mayQ (ax, ay) (bx, by_) = v1) (h2 : mayQ (cx, cy) (dx, dy) = v2) (h3 : onB px py ax ay bx by_ = o) (h : (v1 && v2 && o) = false) :
    Calls Try.prog 6 #[pt ax ay, pt bx by_, pt px py, pt cx cy, pt dx dy] w fun e w' => e = .returned (.bool true) ∧ Junk w w' := by
  have H9 := Lib.hid l_crAwake
  have HV1 := Lib.hid (fun w' => l_crMay ax ay bx by_ w')
  have HV2 := Lib.hid (fun w' => l_crMay cx cy dx dy w')
  have HO := Lib.hid (fun w' => n_ptOn px py ax ay bx by_ w')
  rw [h1] at HV1
  rw [h2] at HV2
  rw [h3] at HO
  clear h1 h2 h3
  unfold pt at *
  cases v1 with
  | false =>
    clear h
    go_enter Try.func6, Try.ntmps6
    go_wp2_with (first | (go_at_call 14; refine (H9.out _).mono ?_; rintro e w1 ⟨rfl, J0, dJ0, rfl⟩) | (go_at_call 15; (first | (with_reducible refine (HV1.out _).mono ?_) | (with_reducible refine (HV2.out _).mono ?_)); rintro e w1 ⟨rfl, J1, dJ1, rfl⟩))
    go_ret
    exact ⟨rfl, junk_of_below (by (repeat' (first | (with_reducible exact Below.refl _ _) | (with_reducible assumption) | (with_reducible refine Below.alloc ?_ ?_ _) | (with_reducible refine Below.drew ?_) | (with_reducible refine below_drewN ?_ _) | (with_reducible refine below_plus ?_ ?_ _ _) | (with_reducible refine Below.setCell ?_ ?_ _) | (with_reducible refine Below.setRow ?_ ?_ _) | go_size)))⟩
  | true =>
    cases v2 with
    | false =>
      clear h
      go_enter Try.func6, Try.ntmps6
      go_wp2_with (first | (go_at_call 14; refine (H9.out _).mono ?_; rintro e w1 ⟨rfl, J0, dJ0, rfl⟩) | (go_at_call 15; (first | (with_reducible refine (HV1.out _).mono ?_) | (with_reducible refine (HV2.out _).mono ?_)); rintro e w1 ⟨rfl, J1, dJ1, rfl⟩))
      go_ret
      exact ⟨rfl, junk_of_below (by (repeat' (first | (with_reducible exact Below.refl _ _) | (with_reducible assumption) | (with_reducible refine Below.alloc ?_ ?_ _) | (with_reducible refine Below.drew ?_) | (with_reducible refine below_drewN ?_ _) | (with_reducible refine below_plus ?_ ?_ _ _) | (with_reducible refine Below.setCell ?_ ?_ _) | (with_reducible refine Below.setRow ?_ ?_ _) | go_size)))⟩
    | true =>
      obtain rfl : o = false := by simpa using h
      clear h
      go_enter Try.func6, Try.ntmps6
      go_wp2_with (first | (go_at_call 14; refine (H9.out _).mono ?_; rintro e w1 ⟨rfl, J0, dJ0, rfl⟩) | (go_at_call 15; (first | (with_reducible refine (HV1.out _).mono ?_) | (with_reducible refine (HV2.out _).mono ?_)); rintro e w1 ⟨rfl, J1, dJ1, rfl⟩) | (go_at_call 18; (with_reducible refine (HO.out _).mono ?_); rintro e w1 ⟨rfl, J2, d2, rfl⟩))
      go_ret
      exact ⟨rfl, junk_of_below (by (repeat' (first | (with_reducible exact Below.refl _ _) | (with_reducible assumption) | (with_reducible refine Below.alloc ?_ ?_ _) | (with_reducible refine Below.drew ?_) | (with_reducible refine below_drewN ?_ _) | (with_reducible refine below_plus ?_ ?_ _ _) | (with_reducible refine Below.setCell ?_ ?_ _) | (with_reducible refine Below.setRow ?_ ?_ _) | go_size)))⟩
set_option maxRecDepth 100000 in
set_option maxHeartbeats 4000000 in
theorem split_end (w : World) (ax ay bx by_ px py cx cy dx dy : Int) (h1 : mayQ (ax, ay) (bx, by_) = true) (h2 : mayQ (cx, cy) (dx, dy) = true) (h3 : onB px py ax ay bx by_ = true) (h : (px, py) = (ax, ay) ∨ (px, py) = (bx, by_)) :
    Calls Try.prog 6 #[pt ax ay, pt bx by_, pt px py, pt cx cy, pt dx dy] w fun e w' => e = .returned (.bool true) ∧ Junk w w' := by
  have H9 := Lib.hid l_crAwake
  have HV1 := Lib.hid (fun w' => l_crMay ax ay bx by_ w')
  have HV2 := Lib.hid (fun w' => l_crMay cx cy dx dy w')
  have HO := Lib.hid (fun w' => n_ptOn px py ax ay bx by_ w')
  rw [h1] at HV1
  rw [h2] at HV2
  rw [h3] at HO
  have hn := may_ne h1
  clear h1 h2 h3
  unfold pt at *
  rcases h with h | h
  · injection h with e1 e2
    subst e1 e2
    clear hn
    go_enter Try.func6, Try.ntmps6
    go_wp2_with (first | (go_at_call 14; refine (H9.out _).mono ?_; rintro e w1 ⟨rfl, J0, dJ0, rfl⟩) | (go_at_call 15; (first | (with_reducible refine (HV1.out _).mono ?_) | (with_reducible refine (HV2.out _).mono ?_)); rintro e w1 ⟨rfl, J1, dJ1, rfl⟩) | (go_at_call 18; (with_reducible refine (HO.out _).mono ?_); rintro e w1 ⟨rfl, J2, d2, rfl⟩))
    go_ret
    exact ⟨rfl, junk_of_below (by (repeat' (first | (with_reducible exact Below.refl _ _) | (with_reducible assumption) | (with_reducible refine Below.alloc ?_ ?_ _) | (with_reducible refine Below.drew ?_) | (with_reducible refine below_drewN ?_ _) | (with_reducible refine below_plus ?_ ?_ _ _) | (with_reducible refine Below.setCell ?_ ?_ _) | (with_reducible refine Below.setRow ?_ ?_ _) | go_size)))⟩
  · injection h with e1 e2
    subst e1 e2
    cases hx : (px == ax) with
    | false =>
      clear hn
      go_enter Try.func6, Try.ntmps6
      go_wp2_with (first | (go_at_call 14; refine (H9.out _).mono ?_; rintro e w1 ⟨rfl, J0, dJ0, rfl⟩) | (go_at_call 15; (first | (with_reducible refine (HV1.out _).mono ?_) | (with_reducible refine (HV2.out _).mono ?_)); rintro e w1 ⟨rfl, J1, dJ1, rfl⟩) | (go_at_call 18; (with_reducible refine (HO.out _).mono ?_); rintro e w1 ⟨rfl, J2, d2, rfl⟩))
      go_ret
      exact ⟨rfl, junk_of_below (by (repeat' (first | (with_reducible exact Below.refl _ _) | (with_reducible assumption) | (with_reducible refine Below.alloc ?_ ?_ _) | (with_reducible refine Below.drew ?_) | (with_reducible refine below_drewN ?_ _) | (with_reducible refine below_plus ?_ ?_ _ _) | (with_reducible refine Below.setCell ?_ ?_ _) | (with_reducible refine Below.setRow ?_ ?_ _) | go_size)))⟩
    | true =>
      obtain rfl : px = ax := by simpa using hx
      have e2 : (py == ay) = false := by
        rw [beq_eq_false_iff_ne]
        intro e
        exact hn (by rw [e])
      clear hn hx
      go_enter Try.func6, Try.ntmps6
      go_wp2_with (first | (go_at_call 14; refine (H9.out _).mono ?_; rintro e w1 ⟨rfl, J0, dJ0, rfl⟩) | (go_at_call 15; (first | (with_reducible refine (HV1.out _).mono ?_) | (with_reducible refine (HV2.out _).mono ?_)); rintro e w1 ⟨rfl, J1, dJ1, rfl⟩) | (go_at_call 18; (with_reducible refine (HO.out _).mono ?_); rintro e w1 ⟨rfl, J2, d2, rfl⟩))
      go_ret
      exact ⟨rfl, junk_of_below (by (repeat' (first | (with_reducible exact Below.refl _ _) | (with_reducible assumption) | (with_reducible refine Below.alloc ?_ ?_ _) | (with_reducible refine Below.drew ?_) | (with_reducible refine below_drewN ?_ _) | (with_reducible refine below_plus ?_ ?_ _ _) | (with_reducible refine Below.setCell ?_ ?_ _) | (with_reducible refine Below.setRow ?_ ?_ _) | go_size)))⟩
set_option maxRecDepth 100000 in
set_option maxHeartbeats 8000000 in
theorem split_in (w : World) (ax ay bx by_ px py cx cy dx dy : Int) (h1 : mayQ (ax, ay) (bx, by_) = true) (h2 : mayQ (cx, cy) (dx, dy) = true) (h3 : onB px py ax ay bx by_ = true) (ha : (px, py) ≠ (ax, ay)) (hb : (px, py) ≠ (bx, by_)) :
    Calls Try.prog 6 #[pt ax ay, pt bx by_, pt px py, pt cx cy, pt dx dy] w fun e w' => e = .returned (.bool true) ∧ Junk w w' := by
  have H9 := Lib.hid l_crAwake
  have HV1 := Lib.hid (fun w' => l_crMay ax ay bx by_ w')
  have HV2 := Lib.hid (fun w' => l_crMay cx cy dx dy w')
  have HO := Lib.hid (fun w' => n_ptOn px py ax ay bx by_ w')
  obtain ⟨s1, s2, s3, s4⟩ := split_all h1 h2 h3 ha hb
  rw [h1] at HV1
  rw [h2] at HV2
  rw [h3] at HO
  have HM1 := Lib.hid (fun w' => n_crMeets ax ay px py px py bx by_ w')
  have HM2 := Lib.hid (fun w' => n_crMeets ax ay px py ax ay bx by_ w')
  have HM3 := Lib.hid (fun w' => n_crMeets px py bx by_ ax ay bx by_ w')
  have HM4 := Lib.hid (fun w' => n_crMeets ax ay bx by_ cx cy dx dy w')
  have HM5 := Lib.hid (fun w' => n_crMeets ax ay px py cx cy dx dy w')
  have HM6 := Lib.hid (fun w' => n_crMeets px py bx by_ cx cy dx dy w')
  rw [s1] at HM1
  rw [s2] at HM2
  rw [s3] at HM3
  generalize meetQ (ax, ay) (bx, by_) (cx, cy) (dx, dy) = n4 at *
  generalize meetQ (ax, ay) (px, py) (cx, cy) (dx, dy) = n5 at *
  generalize meetQ (px, py) (bx, by_) (cx, cy) (dx, dy) = n6 at *
  have S4 := Lib.hid s4
  have han := Lib.hid (ne_pt ha)
  have hbn := Lib.hid (ne_pt hb)
  clear h1 h2 h3 s1 s2 s3 s4 ha hb
  simp only at han hbn
  unfold pt at *
  go_enter Try.func6, Try.ntmps6
  go_upto_region 1 with fail
  obtain ⟨W, hW⟩ : ∃ W, (((((w.alloc (.cells #[.int .i64 ax, .int .i64 ay] 23)).alloc (.cells #[.int .i64 bx, .int .i64 by_] 23)).alloc (.cells #[.int .i64 px, .int .i64 py] 23)).alloc (.cells #[.int .i64 cx, .int .i64 cy] 23)).alloc (.cells #[.int .i64 dx, .int .i64 dy] 23)) = W := ⟨_, rfl⟩
  have c00 : W.cell? ⟨w.heap.size, 0, none⟩ = some (.int .i64 ax) := by rw [← hW]; simp [go_sem]
  have c01 : W.cell? ⟨w.heap.size, 1, none⟩ = some (.int .i64 ay) := by rw [← hW]; simp [go_sem]
  have hb0 : w.heap.size < W.heap.size := by rw [← hW]; simp; try omega
  have c10 : W.cell? ⟨w.heap.size + 1, 0, none⟩ = some (.int .i64 bx) := by rw [← hW]; simp [go_sem]
  have c11 : W.cell? ⟨w.heap.size + 1, 1, none⟩ = some (.int .i64 by_) := by rw [← hW]; simp [go_sem]
  have hb1 : w.heap.size + 1 < W.heap.size := by rw [← hW]; simp; try omega
  have c20 : W.cell? ⟨w.heap.size + 1 + 1, 0, none⟩ = some (.int .i64 px) := by rw [← hW]; simp [go_sem]
  have c21 : W.cell? ⟨w.heap.size + 1 + 1, 1, none⟩ = some (.int .i64 py) := by rw [← hW]; simp [go_sem]
  have hb2 : w.heap.size + 1 + 1 < W.heap.size := by rw [← hW]; simp; try omega
  have c30 : W.cell? ⟨w.heap.size + 1 + 1 + 1, 0, none⟩ = some (.int .i64 cx) := by rw [← hW]; simp [go_sem]
  have c31 : W.cell? ⟨w.heap.size + 1 + 1 + 1, 1, none⟩ = some (.int .i64 cy) := by rw [← hW]; simp [go_sem]
  have hb3 : w.heap.size + 1 + 1 + 1 < W.heap.size := by rw [← hW]; simp; try omega
  have c40 : W.cell? ⟨w.heap.size + 1 + 1 + 1 + 1, 0, none⟩ = some (.int .i64 dx) := by rw [← hW]; simp [go_sem]
  have c41 : W.cell? ⟨w.heap.size + 1 + 1 + 1 + 1, 1, none⟩ = some (.int .i64 dy) := by rw [← hW]; simp [go_sem]
  have hb4 : w.heap.size + 1 + 1 + 1 + 1 < W.heap.size := by rw [← hW]; simp; try omega
  have hj : Below w.heap.size w W := by rw [← hW]; (repeat' (first | (with_reducible exact Below.refl _ _) | (with_reducible assumption) | (with_reducible refine Below.alloc ?_ ?_ _) | (with_reducible refine Below.drew ?_) | (with_reducible refine below_drewN ?_ _) | (with_reducible refine below_plus ?_ ?_ _ _) | (with_reducible refine Below.setCell ?_ ?_ _) | (with_reducible refine Below.setRow ?_ ?_ _) | go_size))
  have hsz : w.heap.size ≤ W.heap.size := hj.size
  rw [hW]
  clear hW
  go_upto_region 2 with (go_at_call 14; refine (H9.out _).mono ?_; rintro e w1 ⟨rfl, J0, dJ0, rfl⟩)
  go_cut [40] from 14 to 40 (fun t wx => t = .bool false ∧ Cls W wx)
  case first =>
    have hxa : (px == ax) = false ∨ ((px == ax) = true ∧ (py == ay) = false) := by
      by_cases h : px = ax
      · exact .inr ⟨by simpa using h, by rw [beq_eq_false_iff_ne]; exact fun k => han.out ⟨h, k⟩⟩
      · exact .inl (by rw [beq_eq_false_iff_ne]; exact h)
    have hxb : (px == bx) = false ∨ ((px == bx) = true ∧ (py == by_) = false) := by
      by_cases h : px = bx
      · exact .inr ⟨by simpa using h, by rw [beq_eq_false_iff_ne]; exact fun k => hbn.out ⟨h, k⟩⟩
      · exact .inl (by rw [beq_eq_false_iff_ne]; exact h)
    rcases hxa with q1 | ⟨q1, q2⟩ <;> rcases hxb with q3 | ⟨q3, q4⟩
    all_goals
      go_wp2_with (first | (go_at_call 15; (first | (with_reducible refine (HV1.out _).mono ?_) | (with_reducible refine (HV2.out _).mono ?_)); rintro e w1 ⟨rfl, J1, dJ1, rfl⟩) | (go_at_call 18; (with_reducible refine (HO.out _).mono ?_); rintro e w1 ⟨rfl, J2, d2, rfl⟩))
      go_meet
      case rel => exact ⟨by simp [*], _, _, rfl⟩
  case rest =>
  obtain ⟨rfl, J1, d1, rfl⟩ := hcut
  clear HV1 HV2 HO
  have hc : ((n4 != 0) = true ∧ (n5 != 0) = true) ∨ ((n4 != 0) = true ∧ (n5 != 0) = false ∧ (n6 != 0) = true) ∨ ((n4 != 0) = false ∧ (n5 != 0) = false ∧ (n6 != 0) = false) := by
    have k := S4.out
    by_cases x5 : n5 = 0 <;> by_cases x6 : n6 = 0 <;> by_cases x4 : n4 = 0 <;> simp_all
  clear S4
  rcases hc with ⟨q1, q2⟩ | ⟨q1, q2, q3⟩ | ⟨q1, q2, q3⟩
  all_goals
    go_wp2_with (go_at_call 9; (first | (with_reducible refine (HM1.out _).mono ?_) | (with_reducible refine (HM2.out _).mono ?_) | (with_reducible refine (HM3.out _).mono ?_) | (with_reducible refine (HM4.out _).mono ?_) | (with_reducible refine (HM5.out _).mono ?_) | (with_reducible refine (HM6.out _).mono ?_)); rintro e w1 ⟨rfl, J3, dJ3, rfl⟩)
    go_ret
    exact ⟨rfl, junk_of_below (by (repeat' (first | (with_reducible exact Below.refl _ _) | (with_reducible assumption) | (with_reducible refine Below.alloc ?_ ?_ _) | (with_reducible refine Below.drew ?_) | (with_reducible refine below_drewN ?_ _) | (with_reducible refine below_plus ?_ ?_ _ _) | (with_reducible refine Below.setCell ?_ ?_ _) | (with_reducible refine Below.setRow ?_ ?_ _) | go_size)))⟩
theorem l_crossSplit (w : World) (ax ay bx by_ px py cx cy dx dy : Int) : Calls Try.prog 6 #[pt ax ay, pt bx by_, pt px py, pt cx cy, pt dx dy] w fun e w' => e = .returned (.bool true) ∧ Junk w w' := by
  cases h : mayQ (ax, ay) (bx, by_) && mayQ (cx, cy) (dx, dy) && onB px py ax ay bx by_ with
  | false => exact split_not w ax ay bx by_ px py cx cy dx dy _ _ _ rfl rfl rfl h
  | true =>
    rw [Bool.and_eq_true, Bool.and_eq_true] at h
    by_cases h1 : (px, py) = (ax, ay)
    · exact split_end w ax ay bx by_ px py cx cy dx dy h.1.1 h.1.2 h.2 (.inl h1)
    by_cases h2 : (px, py) = (bx, by_)
    · exact split_end w ax ay bx by_ px py cx cy dx dy h.1.1 h.1.2 h.2 (.inr h2)
    exact split_in w ax ay bx by_ px py cx cy dx dy h.1.1 h.1.2 h.2 h1 h2
end Go.Proofs.Ytlhknnjnccjgfaa

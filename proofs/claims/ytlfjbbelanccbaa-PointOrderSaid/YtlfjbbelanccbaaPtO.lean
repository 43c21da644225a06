/- The law PointOrder: the walk. -/
import Derived.Test.YtlfjbbelanccbaaPtJ
import Derived.Test.YtlfjbbelanccbaaLtx
namespace Go.Proofs.Ytlfjbbelanccbaa
set_option linter.unusedVariables false
set_option linter.unusedSimpArgs false
open Go.RowKit

theorem cmp_cases (ax ay bx by_ : Int) : (cmpF ax ay bx by_ = -1 ∧ (ax ≠ bx ∨ ay ≠ by_)) ∨ (cmpF ax ay bx by_ = 0 ∧ ax = bx ∧ ay = by_) ∨ (cmpF ax ay bx by_ = 1 ∧ (ax ≠ bx ∨ ay ≠ by_)) := by
  unfold cmpF; repeat' split
  all_goals omega
theorem cmp_neg (ax ay bx by_ : Int) : cmpF bx by_ ax ay = - cmpF ax ay bx by_ := by
  unfold cmpF; repeat' split
  all_goals omega
theorem cmp_trans {ax ay bx by_ cx cy : Int} (h1 : cmpF ax ay bx by_ ≤ 0) (h2 : cmpF bx by_ cx cy ≤ 0) : cmpF ax ay cx cy ≤ 0 := by
  unfold cmpF at *; repeat' split
  all_goals (repeat' split at h1) <;> (repeat' split at h2) <;> omega

set_option maxRecDepth 100000 in
set_option maxHeartbeats 4000000 in
theorem order_gt (w : World) (ax ay bx by_ cx cy : Int) (p : Int) (hp : p = 1 ∨ p = -1) (h1 : cmpF ax ay bx by_ = p) (h2 : cmpF bx by_ ax ay = -p) (hne : (ax == bx && ay == by_) = false) (h0 : (p == 0) = false) :
    Calls Try.prog 8 #[pt ax ay, pt bx by_, pt cx cy] w fun e w' => e = .returned (.bool true) ∧ Junk w w' := by
  have H1 := Lib.hid (fun w' => n_ptCompare ax ay bx by_ w')
  rw [h1] at H1
  have H2 := Lib.hid (fun w' => n_ptCompare bx by_ ax ay w')
  rw [h2] at H2
  have H3 := Lib.hid (fun w' => n_ptCompare bx by_ cx cy w')
  have H4 := Lib.hid (fun w' => n_ptCompare ax ay cx cy w')
  have H9 := Lib.hid l_ptAwake
  have HT := Lib.hid (fun g1 g2 => cmp_trans (ax := ax) (ay := ay) (bx := bx) (by_ := by_) (cx := cx) (cy := cy) g1 g2)
  rw [h1] at HT
  generalize cmpF bx by_ cx cy = q at *
  generalize cmpF ax ay cx cy = r at *
  clear h1 h2
  unfold pt at *
  rcases hp with rfl | rfl
  · clear HT
    cases hx : (ax == bx) with
    | false =>
      clear hne
      go_enter Try.func8, Try.ntmps8
      go_wp2_with (first | (go_at_call 15; (first | (with_reducible refine (H1.out _).mono ?_) | (with_reducible refine (H2.out _).mono ?_) | (with_reducible refine (H3.out _).mono ?_) | (with_reducible refine (H4.out _).mono ?_)); rintro e w1 ⟨rfl, J1, d1, rfl⟩) | (go_at_call 21; refine (H9.out _).mono ?_; rintro e w1 ⟨rfl, J1, d1, rfl⟩))
      go_ret
      exact ⟨rfl, junk_of_below (by (repeat' (first | (with_reducible exact Below.refl _ _) | (with_reducible assumption) | (with_reducible refine Below.alloc ?_ ?_ _) | (with_reducible refine Below.drew ?_) | (with_reducible refine below_drewN ?_ _) | (with_reducible refine below_plus ?_ ?_ _ _) | (with_reducible refine Below.setCell ?_ ?_ _) | (with_reducible refine Below.setRow ?_ ?_ _) | go_size)))⟩
    | true =>
      rw [hx] at hne
      rw [Bool.true_and] at hne
      obtain rfl : ax = bx := by simpa using hx
      clear hx
      go_enter Try.func8, Try.ntmps8
      go_wp2_with (first | (go_at_call 15; (first | (with_reducible refine (H1.out _).mono ?_) | (with_reducible refine (H2.out _).mono ?_) | (with_reducible refine (H3.out _).mono ?_) | (with_reducible refine (H4.out _).mono ?_)); rintro e w1 ⟨rfl, J1, d1, rfl⟩) | (go_at_call 21; refine (H9.out _).mono ?_; rintro e w1 ⟨rfl, J1, d1, rfl⟩))
      go_ret
      exact ⟨rfl, junk_of_below (by (repeat' (first | (with_reducible exact Below.refl _ _) | (with_reducible assumption) | (with_reducible refine Below.alloc ?_ ?_ _) | (with_reducible refine Below.drew ?_) | (with_reducible refine below_drewN ?_ _) | (with_reducible refine below_plus ?_ ?_ _ _) | (with_reducible refine Below.setCell ?_ ?_ _) | (with_reducible refine Below.setRow ?_ ?_ _) | go_size)))⟩
  · by_cases hq : 0 < q
    · clear HT
      cases hx : (ax == bx) with
      | false =>
        clear hne
        go_enter Try.func8, Try.ntmps8
        go_wp2_with (first | (go_at_call 15; (first | (with_reducible refine (H1.out _).mono ?_) | (with_reducible refine (H2.out _).mono ?_) | (with_reducible refine (H3.out _).mono ?_) | (with_reducible refine (H4.out _).mono ?_)); rintro e w1 ⟨rfl, J1, d1, rfl⟩) | (go_at_call 21; refine (H9.out _).mono ?_; rintro e w1 ⟨rfl, J1, d1, rfl⟩))
        go_ret
        exact ⟨rfl, junk_of_below (by (repeat' (first | (with_reducible exact Below.refl _ _) | (with_reducible assumption) | (with_reducible refine Below.alloc ?_ ?_ _) | (with_reducible refine Below.drew ?_) | (with_reducible refine below_drewN ?_ _) | (with_reducible refine below_plus ?_ ?_ _ _) | (with_reducible refine Below.setCell ?_ ?_ _) | (with_reducible refine Below.setRow ?_ ?_ _) | go_size)))⟩
      | true =>
        rw [hx] at hne
        rw [Bool.true_and] at hne
        obtain rfl : ax = bx := by simpa using hx
        clear hx
        go_enter Try.func8, Try.ntmps8
        go_wp2_with (first | (go_at_call 15; (first | (with_reducible refine (H1.out _).mono ?_) | (with_reducible refine (H2.out _).mono ?_) | (with_reducible refine (H3.out _).mono ?_) | (with_reducible refine (H4.out _).mono ?_)); rintro e w1 ⟨rfl, J1, d1, rfl⟩) | (go_at_call 21; refine (H9.out _).mono ?_; rintro e w1 ⟨rfl, J1, d1, rfl⟩))
        go_ret
        exact ⟨rfl, junk_of_below (by (repeat' (first | (with_reducible exact Below.refl _ _) | (with_reducible assumption) | (with_reducible refine Below.alloc ?_ ?_ _) | (with_reducible refine Below.drew ?_) | (with_reducible refine below_drewN ?_ _) | (with_reducible refine below_plus ?_ ?_ _ _) | (with_reducible refine Below.setCell ?_ ?_ _) | (with_reducible refine Below.setRow ?_ ?_ _) | go_size)))⟩
    · have hr : r ≤ 0 := HT.out (by decide) (by omega)
      clear HT
      cases hx : (ax == bx) with
      | false =>
        clear hne
        go_enter Try.func8, Try.ntmps8
        go_wp2_with (first | (go_at_call 15; (first | (with_reducible refine (H1.out _).mono ?_) | (with_reducible refine (H2.out _).mono ?_) | (with_reducible refine (H3.out _).mono ?_) | (with_reducible refine (H4.out _).mono ?_)); rintro e w1 ⟨rfl, J1, d1, rfl⟩) | (go_at_call 21; refine (H9.out _).mono ?_; rintro e w1 ⟨rfl, J1, d1, rfl⟩))
        go_ret
        exact ⟨rfl, junk_of_below (by (repeat' (first | (with_reducible exact Below.refl _ _) | (with_reducible assumption) | (with_reducible refine Below.alloc ?_ ?_ _) | (with_reducible refine Below.drew ?_) | (with_reducible refine below_drewN ?_ _) | (with_reducible refine below_plus ?_ ?_ _ _) | (with_reducible refine Below.setCell ?_ ?_ _) | (with_reducible refine Below.setRow ?_ ?_ _) | go_size)))⟩
      | true =>
        rw [hx] at hne
        rw [Bool.true_and] at hne
        obtain rfl : ax = bx := by simpa using hx
        clear hx
        go_enter Try.func8, Try.ntmps8
        go_wp2_with (first | (go_at_call 15; (first | (with_reducible refine (H1.out _).mono ?_) | (with_reducible refine (H2.out _).mono ?_) | (with_reducible refine (H3.out _).mono ?_) | (with_reducible refine (H4.out _).mono ?_)); rintro e w1 ⟨rfl, J1, d1, rfl⟩) | (go_at_call 21; refine (H9.out _).mono ?_; rintro e w1 ⟨rfl, J1, d1, rfl⟩))
        go_ret
        exact ⟨rfl, junk_of_below (by (repeat' (first | (with_reducible exact Below.refl _ _) | (with_reducible assumption) | (with_reducible refine Below.alloc ?_ ?_ _) | (with_reducible refine Below.drew ?_) | (with_reducible refine below_drewN ?_ _) | (with_reducible refine below_plus ?_ ?_ _ _) | (with_reducible refine Below.setCell ?_ ?_ _) | (with_reducible refine Below.setRow ?_ ?_ _) | go_size)))⟩

set_option maxRecDepth 100000 in
set_option maxHeartbeats 4000000 in
theorem l_pointOrder (w : World) (ax ay bx by_ cx cy : Int) : Calls Try.prog 8 #[pt ax ay, pt bx by_, pt cx cy] w fun e w' => e = .returned (.bool true) ∧ Junk w w' := by
  rcases cmp_cases ax ay bx by_ with ⟨h, hn⟩ | ⟨h, rfl, rfl⟩ | ⟨h, hn⟩
  · exact order_gt w ax ay bx by_ cx cy (-1) (.inr rfl) h (by rw [cmp_neg, h]) (by rw [Bool.eq_false_iff]; simp; intro e; rcases hn with hn | hn <;> first | exact absurd e hn | exact hn) (by decide)
  · have H1 := Lib.hid (fun w' => n_ptCompare ax ay ax ay w')
    rw [h] at H1
    have H2 := Lib.hid True.intro
    have H3 := Lib.hid (fun w' => n_ptCompare ax ay cx cy w')
    have H4 := H2
    have H9 := Lib.hid l_ptAwake
    clear h
    generalize cmpF ax ay cx cy = q at *
    unfold pt at *
    by_cases hq : 0 < q
    · skip
      go_enter Try.func8, Try.ntmps8
      go_wp2_with (first | (go_at_call 15; (first | (with_reducible refine (H1.out _).mono ?_) | (with_reducible refine (H3.out _).mono ?_)); rintro e w1 ⟨rfl, J1, d1, rfl⟩) | (go_at_call 21; refine (H9.out _).mono ?_; rintro e w1 ⟨rfl, J1, d1, rfl⟩))
      go_ret
      exact ⟨rfl, junk_of_below (by (repeat' (first | (with_reducible exact Below.refl _ _) | (with_reducible assumption) | (with_reducible refine Below.alloc ?_ ?_ _) | (with_reducible refine Below.drew ?_) | (with_reducible refine below_drewN ?_ _) | (with_reducible refine below_plus ?_ ?_ _ _) | (with_reducible refine Below.setCell ?_ ?_ _) | (with_reducible refine Below.setRow ?_ ?_ _) | go_size)))⟩
    · have hr : q ≤ 0 := by omega
      go_enter Try.func8, Try.ntmps8
      go_wp2_with (first | (go_at_call 15; (first | (with_reducible refine (H1.out _).mono ?_) | (with_reducible refine (H3.out _).mono ?_)); rintro e w1 ⟨rfl, J1, d1, rfl⟩) | (go_at_call 21; refine (H9.out _).mono ?_; rintro e w1 ⟨rfl, J1, d1, rfl⟩))
      go_ret
      exact ⟨rfl, junk_of_below (by (repeat' (first | (with_reducible exact Below.refl _ _) | (with_reducible assumption) | (with_reducible refine Below.alloc ?_ ?_ _) | (with_reducible refine Below.drew ?_) | (with_reducible refine below_drewN ?_ _) | (with_reducible refine below_plus ?_ ?_ _ _) | (with_reducible refine Below.setCell ?_ ?_ _) | (with_reducible refine Below.setRow ?_ ?_ _) | go_size)))⟩
  · exact order_gt w ax ay bx by_ cx cy 1 (.inl rfl) h (by rw [cmp_neg, h]) (by rw [Bool.eq_false_iff]; simp; intro e; rcases hn with hn | hn <;> first | exact absurd e hn | exact hn) (by decide)
end Go.Proofs.Ytlfjbbelanccbaa

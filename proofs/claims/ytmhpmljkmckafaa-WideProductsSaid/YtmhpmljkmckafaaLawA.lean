/- Contracts of the laws' own small functions: even, floor, awake; and the chapter's examples, one by one. Closed. -/
import Derived.Test.YtmhpmljkmckafaaWideD
namespace Go.Proofs.Ytmhpmljkmckafaa
set_option linter.unusedVariables false
set_option linter.unusedSimpArgs false
open Go.RowKit

set_option maxHeartbeats 400000 in
theorem l_even (a b c n : Int) (a0 : -9223372036854775808 ≤ a) (a1 : a ≤ 9223372036854775807) (b0 : -9223372036854775808 ≤ b) (b1 : b ≤ 9223372036854775807)
    (c0 : -9223372036854775808 ≤ c) (c1 : c ≤ 9223372036854775807) (h : evenRes a b c = (n, 0)) (w : World) :
    Calls Try.prog 23 #[.int .i64 a, .int .i64 b, .int .i64 c, .int .i64 n] w fun e w' => e = .returned (.bool true) ∧ Junk w w' := by
  have hE := w_Even a b c a0 a1 b0 b1 c0 c1
  rw [h] at hE
  have HE := Lib.hid hE; clear hE h
  go_enter Try.func23, Try.ntmps23
  go_wp2_with fail
  refine (HE.out _).mono ?_
  rintro e w' ⟨rfl, hb⟩
  obtain ⟨J, d, rfl⟩ := junk_of_below hb
  clear hb
  go_wp2
  go_ret
  exact ⟨by simp, junk_of_below (by (repeat' (first | (with_reducible exact Below.refl _ _) | (with_reducible assumption) | (with_reducible refine Below.alloc ?_ ?_ _) | (with_reducible refine Below.drew ?_) | (with_reducible refine below_drewN ?_ _) | (with_reducible refine below_plus ?_ ?_ _ _) | (with_reducible refine Below.setCell ?_ ?_ _) | (with_reducible refine Below.setRow ?_ ?_ _) | go_size)))⟩

set_option maxHeartbeats 400000 in
theorem l_floor (a b c n : Int) (a0 : -9223372036854775808 ≤ a) (a1 : a ≤ 9223372036854775807) (b0 : -9223372036854775808 ≤ b) (b1 : b ≤ 9223372036854775807)
    (c0 : -9223372036854775808 ≤ c) (c1 : c ≤ 9223372036854775807) (h : floorRes a b c = (n, 0)) (w : World) :
    Calls Try.prog 24 #[.int .i64 a, .int .i64 b, .int .i64 c, .int .i64 n] w fun e w' => e = .returned (.bool true) ∧ Junk w w' := by
  have hE := w_Floor a b c a0 a1 b0 b1 c0 c1
  rw [h] at hE
  have HE := Lib.hid hE; clear hE h
  go_enter Try.func24, Try.ntmps24
  go_wp2_with fail
  refine (HE.out _).mono ?_
  rintro e w' ⟨rfl, hb⟩
  obtain ⟨J, d, rfl⟩ := junk_of_below hb
  clear hb
  go_wp2
  go_ret
  exact ⟨by simp, junk_of_below (by (repeat' (first | (with_reducible exact Below.refl _ _) | (with_reducible assumption) | (with_reducible refine Below.alloc ?_ ?_ _) | (with_reducible refine Below.drew ?_) | (with_reducible refine below_drewN ?_ _) | (with_reducible refine below_plus ?_ ?_ _ _) | (with_reducible refine Below.setCell ?_ ?_ _) | (with_reducible refine Below.setRow ?_ ?_ _) | go_size)))⟩

theorem k_m1 (w : World) : Calls Try.prog 10 #[.int .i64 4611686018427387904, .int .i64 (-8)] w fun e w' => e = .returned (.tuple #[.int .u64 2, .int .u64 0, .int .i64 (-1)]) ∧ w = w' := by
  have h := w_Mul 4611686018427387904 (-8) (by decide) (by decide) (by decide) (by decide) w
  rw [show mulHi 4611686018427387904 (-8) = 2 by decide, show mulLo 4611686018427387904 (-8) = 0 by decide, show sgn (4611686018427387904 * (-8)) = (-1) by decide] at h
  exact h

theorem k_s1 (w : World) : Calls Try.prog 12 #[.int .i64 3, .int .i64 4, .int .i64 2, .int .i64 6] w fun e w' => e = .returned (.int .i64 0) ∧ Junk w w' := by
  have h := w_Sign 3 4 2 6 (by decide) (by decide) (by decide) (by decide) (by decide) (by decide) (by decide) (by decide) w
  rw [show sgn (3 * 4 - 2 * 6) = 0 by decide] at h
  exact h.mono fun e w' ⟨h1, h2⟩ => ⟨h1, junk_of_below h2⟩

theorem k_e1 (w : World) : Calls Try.prog 23 #[.int .i64 5, .int .i64 1, .int .i64 2, .int .i64 2] w fun e w' => e = .returned (.bool true) ∧ Junk w w' :=
  l_even 5 1 2 2 (by decide) (by decide) (by decide) (by decide) (by decide) (by decide) (by decide) w

theorem k_e2 (w : World) : Calls Try.prog 23 #[.int .i64 7, .int .i64 1, .int .i64 2, .int .i64 4] w fun e w' => e = .returned (.bool true) ∧ Junk w w' :=
  l_even 7 1 2 4 (by decide) (by decide) (by decide) (by decide) (by decide) (by decide) (by decide) w

theorem k_f1 (w : World) : Calls Try.prog 24 #[.int .i64 (-5), .int .i64 1, .int .i64 2, .int .i64 (-3)] w fun e w' => e = .returned (.bool true) ∧ Junk w w' :=
  l_floor (-5) 1 2 (-3) (by decide) (by decide) (by decide) (by decide) (by decide) (by decide) (by decide) w

set_option maxHeartbeats 400000 in
theorem l_awake (w : World) : Calls Try.prog 14 #[] w fun e w' => e = .returned (.bool true) ∧ Junk w w' := by
  go_enter Try.func14, Try.ntmps14
  go_wp2_with fail
  refine (k_m1 _).mono ?_
  rintro e w' ⟨rfl, rfl⟩
  go_wp2_with fail
  refine (k_s1 _).mono ?_
  rintro e w' ⟨rfl, J1, d1, rfl⟩
  go_wp2_with fail
  refine (k_e1 _).mono ?_
  rintro e w' ⟨rfl, J2, d2, rfl⟩
  go_wp2_with fail
  refine (k_e2 _).mono ?_
  rintro e w' ⟨rfl, J3, d3, rfl⟩
  go_wp2_with fail
  refine (k_f1 _).mono ?_
  rintro e w' ⟨rfl, J4, d4, rfl⟩
  go_wp2
  go_ret
  exact ⟨rfl, junk_of_below (by (repeat' (first | (with_reducible exact Below.refl _ _) | (with_reducible assumption) | (with_reducible refine Below.alloc ?_ ?_ _) | (with_reducible refine Below.drew ?_) | (with_reducible refine below_drewN ?_ _) | (with_reducible refine below_plus ?_ ?_ _ _) | (with_reducible refine Below.setCell ?_ ?_ _) | (with_reducible refine Below.setRow ?_ ?_ _) | go_size)))⟩

theorem k_r1 (w : World) : Calls Try.prog 15 #[.int .i64 1, .int .i64 1, .int .i64 0] w fun e w' => e = .returned (.tuple #[.int .i64 0, .int .i64 2]) ∧ Junk w w' := by
  have h := w_Even 1 1 0 (by decide) (by decide) (by decide) (by decide) (by decide) (by decide) w
  rw [show evenRes 1 1 0 = (0, 2) by decide] at h
  exact h.mono fun e w' ⟨h1, h2⟩ => ⟨h1, junk_of_below h2⟩

theorem k_r2 (w : World) : Calls Try.prog 15 #[.int .i64 4611686018427387904, .int .i64 4, .int .i64 1] w fun e w' => e = .returned (.tuple #[.int .i64 0, .int .i64 5]) ∧ Junk w w' := by
  have h := w_Even 4611686018427387904 4 1 (by decide) (by decide) (by decide) (by decide) (by decide) (by decide) w
  rw [show evenRes 4611686018427387904 4 1 = (0, 5) by decide] at h
  exact h.mono fun e w' ⟨h1, h2⟩ => ⟨h1, junk_of_below h2⟩

theorem k_m2 (w : World) : Calls Try.prog 10 #[.int .i64 0, .int .i64 5] w fun e w' => e = .returned (.tuple #[.int .u64 0, .int .u64 0, .int .i64 0]) ∧ w = w' := by
  have h := w_Mul 0 5 (by decide) (by decide) (by decide) (by decide) w
  rw [show mulHi 0 5 = 0 by decide, show mulLo 0 5 = 0 by decide, show sgn (0 * 5) = 0 by decide] at h
  exact h

theorem k_s2 (w : World) : Calls Try.prog 12 #[.int .i64 4611686018427387904, .int .i64 4611686018427387904, .int .i64 4611686018427387904, .int .i64 4611686018427387903] w fun e w' => e = .returned (.int .i64 1) ∧ Junk w w' := by
  have h := w_Sign 4611686018427387904 4611686018427387904 4611686018427387904 4611686018427387903 (by decide) (by decide) (by decide) (by decide) (by decide) (by decide) (by decide) (by decide) w
  rw [show sgn (4611686018427387904 * 4611686018427387904 - 4611686018427387904 * 4611686018427387903) = 1 by decide] at h
  exact h.mono fun e w' ⟨h1, h2⟩ => ⟨h1, junk_of_below h2⟩

theorem k_s3 (w : World) : Calls Try.prog 12 #[.int .i64 (-1), .int .i64 1, .int .i64 0, .int .i64 0] w fun e w' => e = .returned (.int .i64 (-1)) ∧ Junk w w' := by
  have h := w_Sign (-1) 1 0 0 (by decide) (by decide) (by decide) (by decide) (by decide) (by decide) (by decide) (by decide) w
  rw [show sgn ((-1) * 1 - 0 * 0) = (-1) by decide] at h
  exact h.mono fun e w' ⟨h1, h2⟩ => ⟨h1, junk_of_below h2⟩

theorem k_e3 (w : World) : Calls Try.prog 23 #[.int .i64 (-5), .int .i64 1, .int .i64 2, .int .i64 (-2)] w fun e w' => e = .returned (.bool true) ∧ Junk w w' :=
  l_even (-5) 1 2 (-2) (by decide) (by decide) (by decide) (by decide) (by decide) (by decide) (by decide) w

theorem k_f2 (w : World) : Calls Try.prog 24 #[.int .i64 4611686018427387904, .int .i64 8, .int .i64 16, .int .i64 2305843009213693952] w fun e w' => e = .returned (.bool true) ∧ Junk w w' :=
  l_floor 4611686018427387904 8 16 2305843009213693952 (by decide) (by decide) (by decide) (by decide) (by decide) (by decide) (by decide) w

theorem k_a1 (w : World) : Calls Try.prog 21 #[.int .i64 4611686018427387904, .int .i64 4611686018427387904] w fun e w' => e = .returned (.tuple #[.int .i64 0, .int .i64 5]) ∧ Junk w w' := by
  have h := w_Add 4611686018427387904 4611686018427387904 (by decide) (by decide) (by decide) (by decide) w
  rw [show intRes (4611686018427387904 + 4611686018427387904) = (0, 5) by decide] at h
  exact h.mono fun e w' ⟨h1, h2⟩ => ⟨h1, junk_of_below h2⟩

theorem k_u0 (w : World) : Calls Try.prog 19 #[.slice none 0 0] w fun e w' => e = .returned (.tuple #[.int .i64 0, .int .i64 0]) ∧ w = w' :=
  w_Sum none 0 0 [] (by decide) w ⟨rfl, fun i h => absurd h (by omega), .inl rfl⟩

theorem k_u3 (b : Nat) (w : World) (h0 : w.cell? ⟨b, 0, none⟩ = some (.int .i64 4611686018427387904)) (h1 : w.cell? ⟨b, 1, none⟩ = some (.int .i64 4611686018427387904)) (h2 : w.cell? ⟨b, 2, none⟩ = some (.int .i64 (-4611686018427387904))) :
    Calls Try.prog 19 #[.slice (some ⟨b, 0, none⟩) 3 3] w fun e w' => e = .returned (.tuple #[.int .i64 4611686018427387904, .int .i64 0]) ∧ w = w' := by
  refine w_Sum _ 3 3 [4611686018427387904, 4611686018427387904, -4611686018427387904] (by decide) w ⟨rfl, ?_, .inr ⟨b, 0, rfl, ?_⟩⟩
  · intro i hi
    match i, hi with
    | 0, _ => decide
    | 1, _ => decide
    | 2, _ => decide
  · intro i hi
    match i, hi with
    | 0, _ => exact h0
    | 1, _ => exact h1
    | 2, _ => exact h2

set_option maxRecDepth 100000 in
set_option maxHeartbeats 1000000 in
theorem l_known (w : World) : Calls Try.prog 6 #[] w fun e w' => e = .returned (.bool true) ∧ Junk w w' := by
  go_enter Try.func6, Try.ntmps6
  go_wp2_with fail
  refine (k_r1 _).mono ?_
  rintro e w' ⟨rfl, J0, d0, rfl⟩
  go_wp2_with fail
  refine (k_r2 _).mono ?_
  rintro e w' ⟨rfl, J1, d1, rfl⟩
  go_wp2_with fail
  refine (k_a1 _).mono ?_
  rintro e w' ⟨rfl, J2, d2, rfl⟩
  go_wp2_with fail
  refine (k_u3 _ _ ?_ ?_ ?_).mono ?_
  · go_cell
  · go_cell
  · go_cell
  rintro e w' ⟨rfl, rfl⟩
  go_wp2_with fail
  refine (k_u0 _).mono ?_
  rintro e w' ⟨rfl, rfl⟩
  go_wp2_with fail
  refine (k_m2 _).mono ?_
  rintro e w' ⟨rfl, rfl⟩
  go_wp2_with fail
  refine (k_s2 _).mono ?_
  rintro e w' ⟨rfl, J6, d6, rfl⟩
  go_wp2_with fail
  refine (k_s3 _).mono ?_
  rintro e w' ⟨rfl, J7, d7, rfl⟩
  go_wp2_with fail
  refine (k_e3 _).mono ?_
  rintro e w' ⟨rfl, J8, d8, rfl⟩
  go_wp2_with fail
  refine (k_f2 _).mono ?_
  rintro e w' ⟨rfl, J9, d9, rfl⟩
  go_wp2_with fail
  refine (l_awake _).mono ?_
  rintro e w' ⟨rfl, J10, d10, rfl⟩
  go_wp2
  go_ret
  exact ⟨rfl, junk_of_below (by (repeat' (first | (with_reducible exact Below.refl _ _) | (with_reducible assumption) | (with_reducible refine Below.alloc ?_ ?_ _) | (with_reducible refine Below.drew ?_) | (with_reducible refine below_drewN ?_ _) | (with_reducible refine below_plus ?_ ?_ _ _) | (with_reducible refine Below.setCell ?_ ?_ _) | (with_reducible refine Below.setRow ?_ ?_ _) | go_size)))⟩
end Go.Proofs.Ytmhpmljkmckafaa

/- The law InsideKnown: the walk. -/
import Derived.Test.YthjjhfopmianoaaInT
namespace Go.Proofs.Ythjjhfopmianoaa
set_option linter.unusedVariables false
set_option linter.unusedSimpArgs false
open Go.RowKit

theorem cr_is (p : Pt) (L : List Pt) (r : Nat) (hr : crossN p L = r) (n : Nat) (hn : n ≤ 400) (w : World) (a : Option Addr) (ca : Nat) (h : PRC w a n ca L) : Calls Try.prog 12 #[.agg #[.int .i64 p.1, .int .i64 p.2], .slice a n ca] w fun e w' => e = .returned (.int .i64 (r : Nat)) ∧ Junk w w' := by
  rw [← hr]; exact c_inCross p.1 p.2 w a n ca L h hn
theorem prc_none (w : World) : PRC w none 0 0 [] := ⟨⟨rfl, .inl rfl⟩, ⟨Nat.le_refl _, fun _ => rfl⟩⟩
set_option maxRecDepth 100000 in
set_option maxHeartbeats 8000000 in
theorem l_insideKnown (w : World) : Calls Try.prog 9 #[] w fun e w' => e = .returned (.bool true) ∧ Junk w w' := by
  have HAt := Lib.hid l_inAt
  have HAw := Lib.hid l_inAwake
  have HQ := Lib.hid l_inSquare
  have HI1 := Lib.hid (in_is (0, 0) sqL true (by decide +kernel) 4 (by decide))
  have HI2 := Lib.hid (in_is (2, 0) sqL true (by decide +kernel) 4 (by decide))
  have HI3 := Lib.hid (in_is (4, 4) sqL false (by decide +kernel) 4 (by decide))
  have HI4 := Lib.hid (in_is (5, 1) sqL false (by decide +kernel) 4 (by decide))
  have HC1 := Lib.hid (ct_is (0, 0) (2, 1) (2, -1) true (by decide +kernel))
  have HC2 := Lib.hid (ct_is (0, 0) (0, -1) (0, 1) false (by decide +kernel))
  have HC3 := Lib.hid (ct_is (0, 1) (2, -1) (2, 1) false (by decide +kernel))
  have HD := Lib.hid (cr_is (0, 1) [(2, 0), (2, 2), (4, 2), (4, 0)] 2 (by decide +kernel) 4 (by decide))
  have HI5 := Lib.hid (in_is (0, 1) [(2, 0), (2, 2), (4, 2), (4, 0)] false (by decide +kernel) 4 (by decide))
  have HI6 := Lib.hid (in_is (0, 0) [] false (by decide +kernel) 0 (by decide))
  simp only at HI1 HI2 HI3 HI4 HC1 HC2 HC3 HD HI5 HI6
  generalize sqL = L at *
  unfold pt at HAt
  go_enter Try.func9, Try.ntmps9
  go_upto_region 1 with fail
  go_cut [1] from 1 to 23 (fun x wx => x = .bool true ∧ Cls w wx)
  case first =>
    go_wp2_with (first
      | (go_at_call 28; (with_reducible refine (HQ.out _).mono ?_); rintro e w1 ⟨⟨a4, c4, rfl, hr4⟩, J1, d1, rfl⟩; have HR := Lib.hid hr4; clear hr4)
      | (go_at_call 14; refine (HI1.out _ _ _ (prc_eqh HR.out (by simp only [plus_plus, Array.append_assoc]))).mono ?_; clear HI1 HR; rintro e w1 ⟨rfl, J2, d2, rfl⟩)
      | (go_at_call 14; refine (HI2.out _ _ _ (prc_eqh HR.out (by simp only [plus_plus, Array.append_assoc]))).mono ?_; clear HI2 HR; rintro e w1 ⟨rfl, J2, d2, rfl⟩)
      | (go_at_call 14; refine (HI3.out _ _ _ (prc_eqh HR.out (by simp only [plus_plus, Array.append_assoc]))).mono ?_; clear HI3 HR; rintro e w1 ⟨rfl, J2, d2, rfl⟩)
      | (go_at_call 14; refine (HI4.out _ _ _ (prc_eqh HR.out (by simp only [plus_plus, Array.append_assoc]))).mono ?_; clear HI4 HR; rintro e w1 ⟨rfl, J2, d2, rfl⟩)
      | (go_at_call 25; (with_reducible refine (HAt.out _ _ _).mono ?_); rintro e w1 ⟨rfl, J6, d6, rfl⟩))
    go_meet
    case rel => exact ⟨rfl, cls_of (junk_of_below (by (repeat' (first | (with_reducible exact Below.refl _ _) | (with_reducible assumption) | (with_reducible refine Below.alloc ?_ ?_ _) | (with_reducible refine Below.drew ?_) | (with_reducible refine below_drewN ?_ _) | (with_reducible refine below_plus ?_ ?_ _ _) | (with_reducible refine Below.setCell ?_ ?_ _) | (with_reducible refine Below.setRow ?_ ?_ _) | go_size))))⟩
  case rest =>
  obtain ⟨rfl, J1, d1, rfl⟩ := hcut
  go_upto_region 2 with fail
  go_cut [2] from 2 to 41 (fun x wx => x = .bool true ∧ Cls w wx)
  case first =>
    go_wp2_with (first
      | (go_at_call 10; refine (HC1.out _).mono ?_; clear HC1; rintro e w1 ⟨rfl, J2, d2, rfl⟩)
      | (go_at_call 10; refine (HC2.out _).mono ?_; clear HC2; rintro e w1 ⟨rfl, J2, d2, rfl⟩)
      | (go_at_call 10; refine (HC3.out _).mono ?_; clear HC3; rintro e w1 ⟨rfl, J2, d2, rfl⟩)
      | (go_at_call 25; (with_reducible refine (HAt.out _ _ _).mono ?_); rintro e w1 ⟨rfl, J6, d6, rfl⟩))
    go_meet
    case rel => exact ⟨rfl, cls_of (junk_of_below (by (repeat' (first | (with_reducible exact Below.refl _ _) | (with_reducible assumption) | (with_reducible refine Below.alloc ?_ ?_ _) | (with_reducible refine Below.drew ?_) | (with_reducible refine below_drewN ?_ _) | (with_reducible refine below_plus ?_ ?_ _ _) | (with_reducible refine Below.setCell ?_ ?_ _) | (with_reducible refine Below.setRow ?_ ?_ _) | go_size))))⟩
  case rest =>
  obtain ⟨rfl, J2, d2, rfl⟩ := hcut
  go_upto_region 3 with fail
  go_cut [3] from 3 to 46 (fun x wx => (∃ a, x = .slice a 4 4 ∧ PRC wx a 4 4 [(2, 0), (2, 2), (4, 2), (4, 0)]) ∧ Cls w wx)
  case first =>
    go_wp2_with (go_at_call 25; (with_reducible refine (HAt.out _ _ _).mono ?_); rintro e w1 ⟨rfl, J6, d6, rfl⟩)
    go_meet
    case rel => exact ⟨⟨_, rfl, prc_blt rfl (by simp [pcells]) (by decide) (by simp [Nat.add_assoc])⟩, cls_of (junk_of_below (by (repeat' (first | (with_reducible exact Below.refl _ _) | (with_reducible assumption) | (with_reducible refine Below.alloc ?_ ?_ _) | (with_reducible refine Below.drew ?_) | (with_reducible refine below_drewN ?_ _) | (with_reducible refine below_plus ?_ ?_ _ _) | (with_reducible refine Below.setCell ?_ ?_ _) | (with_reducible refine Below.setRow ?_ ?_ _) | go_size))))⟩
  case rest =>
  obtain ⟨⟨a3, rfl, hr⟩, J3, d3, rfl⟩ := hcut
  have HR := Lib.hid hr
  clear hr
  go_wp2_with (first
    | (go_at_call 17; refine (HAw.out _).mono ?_; rintro e w1 ⟨rfl, J4, d4, rfl⟩)
    | (go_at_call 12; refine (HD.out _ _ _ (HR.out.below (by ((try simp only [← Array.append_assoc]); repeat' (first | (with_reducible exact Below.refl _ _) | (with_reducible assumption) | (with_reducible refine Below.alloc ?_ ?_ _) | (with_reducible refine Below.drew ?_) | (with_reducible refine below_drewN ?_ _) | (with_reducible exact below_d _ _ _ _ _) | (with_reducible refine below_snoc _ _ ?_ ?_) | (with_reducible refine below_plus ?_ ?_ _ _) | (with_reducible refine Below.setCell ?_ ?_ _) | (with_reducible refine Below.setRow ?_ ?_ _) | go_size))))).mono ?_; rintro e w1 ⟨rfl, J5, d5, rfl⟩)
    | (go_at_call 14; refine (HI5.out _ _ _ (HR.out.below (by ((try simp only [← Array.append_assoc]); repeat' (first | (with_reducible exact Below.refl _ _) | (with_reducible assumption) | (with_reducible refine Below.alloc ?_ ?_ _) | (with_reducible refine Below.drew ?_) | (with_reducible refine below_drewN ?_ _) | (with_reducible exact below_d _ _ _ _ _) | (with_reducible refine below_snoc _ _ ?_ ?_) | (with_reducible refine below_plus ?_ ?_ _ _) | (with_reducible refine Below.setCell ?_ ?_ _) | (with_reducible refine Below.setRow ?_ ?_ _) | go_size))))).mono ?_; clear HI5; rintro e w1 ⟨rfl, J7, d7, rfl⟩)
    | (go_at_call 14; refine (HI6.out _ _ _ (prc_none _)).mono ?_; rintro e w1 ⟨rfl, J7, d7, rfl⟩)
    | (go_at_call 25; (with_reducible refine (HAt.out _ _ _).mono ?_); rintro e w1 ⟨rfl, J6, d6, rfl⟩))
  go_ret
  exact ⟨rfl, junk_of_below (by (repeat' (first | (with_reducible exact Below.refl _ _) | (with_reducible assumption) | (with_reducible refine Below.alloc ?_ ?_ _) | (with_reducible refine Below.drew ?_) | (with_reducible refine below_drewN ?_ _) | (with_reducible refine below_plus ?_ ?_ _ _) | (with_reducible refine Below.setCell ?_ ?_ _) | (with_reducible refine Below.setRow ?_ ?_ _) | go_size)))⟩
end Go.Proofs.Ythjjhfopmianoaa

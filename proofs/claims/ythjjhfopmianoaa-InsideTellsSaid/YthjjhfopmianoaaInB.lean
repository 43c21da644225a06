/- The laws' own small functions (apportionlaw10): at, square, awake, join, box. -/
import Derived.Test.YthjjhfopmianoaaInC
import Derived.Test.YthjjhfopmianoaaRgLaw
import Derived.Test.YthjjhfopmianoaaInA
namespace Go.Proofs.Ythjjhfopmianoaa
set_option linter.unusedVariables false
set_option linter.unusedSimpArgs false
open Go.RowKit

theorem l_inAt (x y : Int) (w : World) : Calls Try.prog 25 #[.int .i64 x, .int .i64 y] w fun e w' => e = .returned (pt x y) ∧ Junk w w' := by
  go_enter Try.func25, Try.ntmps25
  go_wp2
  refine bodyPost_ret (results_pt1 rfl _ _ w.heap.size #[.int .i64 x, .int .i64 y] rfl (by simp [go_sem]) rfl) rfl ⟨rfl, junk_of_below (by (repeat' (first | (with_reducible exact Below.refl _ _) | (with_reducible assumption) | (with_reducible refine Below.alloc ?_ ?_ _) | (with_reducible refine Below.drew ?_) | (with_reducible refine below_drewN ?_ _) | (with_reducible refine below_plus ?_ ?_ _ _) | (with_reducible refine Below.setCell ?_ ?_ _) | (with_reducible refine Below.setRow ?_ ?_ _) | go_size)))⟩
set_option maxRecDepth 100000 in
set_option maxHeartbeats 2000000 in
theorem l_inSquare (w : World) : Calls Try.prog 28 #[] w fun e w' => (∃ a' c', e = .returned (.slice a' 4 c') ∧ PRC w' a' 4 c' sqL) ∧ Junk w w' := by
  have HAt := Lib.hid l_inAt
  unfold pt at HAt
  go_enter Try.func28, Try.ntmps28
  go_wp2_with (go_at_call 25; (with_reducible refine (HAt.out _ _ _).mono ?_); rintro e w1 ⟨rfl, J1, d1, rfl⟩)
  go_ret
  refine ⟨⟨_, _, rfl, ?_⟩, junk_of_below (by (repeat' (first | (with_reducible exact Below.refl _ _) | (with_reducible assumption) | (with_reducible refine Below.alloc ?_ ?_ _) | (with_reducible refine Below.drew ?_) | (with_reducible refine below_drewN ?_ _) | (with_reducible refine below_plus ?_ ?_ _ _) | (with_reducible refine Below.setCell ?_ ?_ _) | (with_reducible refine Below.setRow ?_ ?_ _) | go_size)))⟩
  refine prc_blt (L := sqL) (n := 4) rfl ?_ (by decide) ?_
  · simp [pcells, sqL]
  · simp [Nat.add_assoc]
theorem in_is (p : Pt) (L : List Pt) (r : Bool) (hr : inQ p L = r) (n : Nat) (hn : n ≤ 400) (w : World) (a : Option Addr) (ca : Nat) (h : PRC w a n ca L) : Calls Try.prog 14 #[.agg #[.int .i64 p.1, .int .i64 p.2], .slice a n ca] w fun e w' => e = .returned (.bool r) ∧ Junk w w' := by
  rw [← hr]; exact c_inIn p.1 p.2 w a n ca L h hn
theorem ct_is (p a b : Pt) (r : Bool) (hr : countC p a b = r) (w : World) : Calls Try.prog 10 #[.agg #[.int .i64 p.1, .int .i64 p.2], .agg #[.int .i64 a.1, .int .i64 a.2], .agg #[.int .i64 b.1, .int .i64 b.2]] w fun e w' => e = .returned (.bool r) ∧ Junk w w' := by
  rw [← hr]; exact c_inCounts p.1 p.2 a.1 a.2 b.1 b.2 w
set_option maxRecDepth 100000 in
set_option maxHeartbeats 4000000 in
theorem l_inAwake (w : World) : Calls Try.prog 17 #[] w fun e w' => e = .returned (.bool true) ∧ Junk w w' := by
  have HAt := Lib.hid l_inAt
  have HQ := Lib.hid l_inSquare
  have HI1 := Lib.hid (in_is (1, 1) sqL true (by decide +kernel) 4 (by decide))
  have HI2 := Lib.hid (in_is (0, 2) sqL true (by decide +kernel) 4 (by decide))
  have HI3 := Lib.hid (in_is (4, 2) sqL false (by decide +kernel) 4 (by decide))
  have HI4 := Lib.hid (in_is (2, 4) sqL false (by decide +kernel) 4 (by decide))
  have HC := Lib.hid (ct_is (0, 0) (2, -1) (2, 1) true (by decide +kernel))
  simp only at HI1 HI2 HI3 HI4 HC
  generalize sqL = L at *
  unfold pt at HAt
  go_enter Try.func17, Try.ntmps17
  go_wp2_with (first
    | (go_at_call 28; (with_reducible refine (HQ.out _).mono ?_); rintro e w1 ⟨⟨a4, c4, rfl, hr4⟩, J1, d1, rfl⟩; have HR := Lib.hid hr4; clear hr4)
    | (go_at_call 14; refine (HI1.out _ _ _ (prc_eqh HR.out (by simp only [plus_plus, Array.append_assoc]))).mono ?_; clear HI1 HR; rintro e w1 ⟨rfl, J2, d2, rfl⟩)
    | (go_at_call 14; refine (HI2.out _ _ _ (prc_eqh HR.out (by simp only [plus_plus, Array.append_assoc]))).mono ?_; clear HI2 HR; rintro e w1 ⟨rfl, J2, d2, rfl⟩)
    | (go_at_call 14; refine (HI3.out _ _ _ (prc_eqh HR.out (by simp only [plus_plus, Array.append_assoc]))).mono ?_; clear HI3 HR; rintro e w1 ⟨rfl, J2, d2, rfl⟩)
    | (go_at_call 14; refine (HI4.out _ _ _ (prc_eqh HR.out (by simp only [plus_plus, Array.append_assoc]))).mono ?_; clear HI4 HR; rintro e w1 ⟨rfl, J2, d2, rfl⟩)
    | (go_at_call 10; refine (HC.out _).mono ?_; rintro e w1 ⟨rfl, J3, d3, rfl⟩)
    | (go_at_call 25; (with_reducible refine (HAt.out _ _ _).mono ?_); rintro e w1 ⟨rfl, J6, d6, rfl⟩))
  go_ret
  exact ⟨rfl, junk_of_below (by (repeat' (first | (with_reducible exact Below.refl _ _) | (with_reducible assumption) | (with_reducible refine Below.alloc ?_ ?_ _) | (with_reducible refine Below.drew ?_) | (with_reducible refine below_drewN ?_ _) | (with_reducible refine below_plus ?_ ?_ _ _) | (with_reducible refine Below.setCell ?_ ?_ _) | (with_reducible refine Below.setRow ?_ ?_ _) | go_size)))⟩
end Go.Proofs.Ythjjhfopmianoaa

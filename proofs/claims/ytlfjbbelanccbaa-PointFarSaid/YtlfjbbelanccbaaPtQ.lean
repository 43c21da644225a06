/- The law PointFar: the walk. -/
import Derived.Test.YtlfjbbelanccbaaPtJ
import Derived.Test.YtlfjbbelanccbaaLtx
namespace Go.Proofs.Ytlfjbbelanccbaa
set_option linter.unusedVariables false
set_option linter.unusedSimpArgs false
open Go.RowKit

theorem far_turn (d k : Int) (h1 : -1099511627775 ≤ k) (h2 : k ≤ 1099511627775) (h3 : -1099511627775 ≤ k + d) (h4 : k + d ≤ 1099511627775) : turnF (-1099511627775) (-1099511627775) 1099511627775 1099511627775 k (k + d) = sgn d := by
  unfold turnF
  rw [if_pos (by simp [okP, okI, h1, h2, h3, h4]), det_far]
  rcases sgn_cases d with ⟨h, e⟩ | ⟨h, e⟩ | ⟨h, e⟩
  · rw [e, sgn_pos (by omega)]
  · rw [e, sgn_zero (by omega)]
  · rw [e, sgn_neg (by omega)]
theorem far_on (d k : Int) (h1 : -1099511627775 ≤ k) (h2 : k ≤ 1099511627775) (h3 : -1099511627775 ≤ k + d) (h4 : k + d ≤ 1099511627775) : onB k (k + d) (-1099511627775) (-1099511627775) 1099511627775 1099511627775 = (d == 0) := by
  unfold onB
  have h := on_far d k h3 h4
  have h5 : (okP k (k + d) && okP (-1099511627775) (-1099511627775) && okP 1099511627775 1099511627775) = true := by simp [okP, okI, h1, h2, h3, h4]
  rw [h5, Bool.true_and, Bool.eq_iff_iff, decide_eq_true_iff, beq_iff_eq, h]

set_option maxRecDepth 100000 in
set_option maxHeartbeats 4000000 in
theorem l_pointFar (w : World) (d k : Int) (hd : -9223372036854775808 ≤ d ∧ d ≤ 9223372036854775807) (hk : -9223372036854775808 ≤ k ∧ k ≤ 9223372036854775807) :
    Calls Try.prog 7 #[.int .i64 d, .int .i64 k] w fun e w' => e = .returned (.bool true) ∧ Junk w w' := by
  have H9 := Lib.hid l_ptAwake
  have HAt := Lib.hid l_ptAt
  have HT := H9
  have HO := H9
  unfold pt at HAt
  clear hd hk
  by_cases h1 : d < -1099511627775
  · skip
    go_enter Try.func7, Try.ntmps7
    go_wp2_with (first | (go_at_call 29; refine (HAt.out _ _ _).mono ?_; rintro e w1 ⟨rfl, J1, d1, rfl⟩) | (go_at_call 17; (with_reducible refine (HT.out _).mono ?_); rintro e w1 ⟨rfl, J1, d1, rfl⟩) | (go_at_call 19; (with_reducible refine (HO.out _).mono ?_); rintro e w1 ⟨rfl, J1, d1, rfl⟩) | (go_at_call 21; refine (H9.out _).mono ?_; rintro e w1 ⟨rfl, J1, d1, rfl⟩))
    go_ret
    exact ⟨rfl, junk_of_below (by (repeat' (first | (with_reducible exact Below.refl _ _) | (with_reducible assumption) | (with_reducible refine Below.alloc ?_ ?_ _) | (with_reducible refine Below.drew ?_) | (with_reducible refine below_drewN ?_ _) | (with_reducible refine below_plus ?_ ?_ _ _) | (with_reducible refine Below.setCell ?_ ?_ _) | (with_reducible refine Below.setRow ?_ ?_ _) | go_size)))⟩
  by_cases h2 : 1099511627775 < d
  · skip
    go_enter Try.func7, Try.ntmps7
    go_wp2_with (first | (go_at_call 29; refine (HAt.out _ _ _).mono ?_; rintro e w1 ⟨rfl, J1, d1, rfl⟩) | (go_at_call 17; (with_reducible refine (HT.out _).mono ?_); rintro e w1 ⟨rfl, J1, d1, rfl⟩) | (go_at_call 19; (with_reducible refine (HO.out _).mono ?_); rintro e w1 ⟨rfl, J1, d1, rfl⟩) | (go_at_call 21; refine (H9.out _).mono ?_; rintro e w1 ⟨rfl, J1, d1, rfl⟩))
    go_ret
    exact ⟨rfl, junk_of_below (by (repeat' (first | (with_reducible exact Below.refl _ _) | (with_reducible assumption) | (with_reducible refine Below.alloc ?_ ?_ _) | (with_reducible refine Below.drew ?_) | (with_reducible refine below_drewN ?_ _) | (with_reducible refine below_plus ?_ ?_ _ _) | (with_reducible refine Below.setCell ?_ ?_ _) | (with_reducible refine Below.setRow ?_ ?_ _) | go_size)))⟩
  by_cases h3 : k < -1099511627775
  · skip
    go_enter Try.func7, Try.ntmps7
    go_wp2_with (first | (go_at_call 29; refine (HAt.out _ _ _).mono ?_; rintro e w1 ⟨rfl, J1, d1, rfl⟩) | (go_at_call 17; (with_reducible refine (HT.out _).mono ?_); rintro e w1 ⟨rfl, J1, d1, rfl⟩) | (go_at_call 19; (with_reducible refine (HO.out _).mono ?_); rintro e w1 ⟨rfl, J1, d1, rfl⟩) | (go_at_call 21; refine (H9.out _).mono ?_; rintro e w1 ⟨rfl, J1, d1, rfl⟩))
    go_ret
    exact ⟨rfl, junk_of_below (by (repeat' (first | (with_reducible exact Below.refl _ _) | (with_reducible assumption) | (with_reducible refine Below.alloc ?_ ?_ _) | (with_reducible refine Below.drew ?_) | (with_reducible refine below_drewN ?_ _) | (with_reducible refine below_plus ?_ ?_ _ _) | (with_reducible refine Below.setCell ?_ ?_ _) | (with_reducible refine Below.setRow ?_ ?_ _) | go_size)))⟩
  by_cases h4 : 1099511627775 < k
  · skip
    go_enter Try.func7, Try.ntmps7
    go_wp2_with (first | (go_at_call 29; refine (HAt.out _ _ _).mono ?_; rintro e w1 ⟨rfl, J1, d1, rfl⟩) | (go_at_call 17; (with_reducible refine (HT.out _).mono ?_); rintro e w1 ⟨rfl, J1, d1, rfl⟩) | (go_at_call 19; (with_reducible refine (HO.out _).mono ?_); rintro e w1 ⟨rfl, J1, d1, rfl⟩) | (go_at_call 21; refine (H9.out _).mono ?_; rintro e w1 ⟨rfl, J1, d1, rfl⟩))
    go_ret
    exact ⟨rfl, junk_of_below (by (repeat' (first | (with_reducible exact Below.refl _ _) | (with_reducible assumption) | (with_reducible refine Below.alloc ?_ ?_ _) | (with_reducible refine Below.drew ?_) | (with_reducible refine below_drewN ?_ _) | (with_reducible refine below_plus ?_ ?_ _ _) | (with_reducible refine Below.setCell ?_ ?_ _) | (with_reducible refine Below.setRow ?_ ?_ _) | go_size)))⟩
  have hw : IntKind.i64.wrap (k + d) = k + d := by simp [IntKind.wrap, IntKind.signed, IntKind.bits]; omega
  by_cases h5 : k + d < -1099511627775
  · skip
    go_enter Try.func7, Try.ntmps7
    go_wp2_with (first | (go_at_call 29; refine (HAt.out _ _ _).mono ?_; rintro e w1 ⟨rfl, J1, d1, rfl⟩) | (go_at_call 17; (with_reducible refine (HT.out _).mono ?_); rintro e w1 ⟨rfl, J1, d1, rfl⟩) | (go_at_call 19; (with_reducible refine (HO.out _).mono ?_); rintro e w1 ⟨rfl, J1, d1, rfl⟩) | (go_at_call 21; refine (H9.out _).mono ?_; rintro e w1 ⟨rfl, J1, d1, rfl⟩))
    go_ret
    exact ⟨rfl, junk_of_below (by (repeat' (first | (with_reducible exact Below.refl _ _) | (with_reducible assumption) | (with_reducible refine Below.alloc ?_ ?_ _) | (with_reducible refine Below.drew ?_) | (with_reducible refine below_drewN ?_ _) | (with_reducible refine below_plus ?_ ?_ _ _) | (with_reducible refine Below.setCell ?_ ?_ _) | (with_reducible refine Below.setRow ?_ ?_ _) | go_size)))⟩
  by_cases h6 : 1099511627775 < k + d
  · skip
    go_enter Try.func7, Try.ntmps7
    go_wp2_with (first | (go_at_call 29; refine (HAt.out _ _ _).mono ?_; rintro e w1 ⟨rfl, J1, d1, rfl⟩) | (go_at_call 17; (with_reducible refine (HT.out _).mono ?_); rintro e w1 ⟨rfl, J1, d1, rfl⟩) | (go_at_call 19; (with_reducible refine (HO.out _).mono ?_); rintro e w1 ⟨rfl, J1, d1, rfl⟩) | (go_at_call 21; refine (H9.out _).mono ?_; rintro e w1 ⟨rfl, J1, d1, rfl⟩))
    go_ret
    exact ⟨rfl, junk_of_below (by (repeat' (first | (with_reducible exact Below.refl _ _) | (with_reducible assumption) | (with_reducible refine Below.alloc ?_ ?_ _) | (with_reducible refine Below.drew ?_) | (with_reducible refine below_drewN ?_ _) | (with_reducible refine below_plus ?_ ?_ _ _) | (with_reducible refine Below.setCell ?_ ?_ _) | (with_reducible refine Below.setRow ?_ ?_ _) | go_size)))⟩
  have HT := Lib.hid (fun w' => n_ptTurn (-1099511627775) (-1099511627775) 1099511627775 1099511627775 k (k + d) w')
  have HO := Lib.hid (fun w' => n_ptOn k (k + d) (-1099511627775) (-1099511627775) 1099511627775 1099511627775 w')
  rw [far_turn d k (by omega) (by omega) (by omega) (by omega)] at HT
  rw [far_on d k (by omega) (by omega) (by omega) (by omega)] at HO
  unfold pt at HT HO
  rcases sgn_cases d with ⟨h, e⟩ | ⟨h, e⟩ | ⟨h, e⟩
  · rw [e] at HT
    clear e
    have e0 : (d == 0) = false := by rw [beq_eq_false_iff_ne]; omega
    rw [e0] at HO
    have h7 : ¬ d < 0 := by omega
    go_enter Try.func7, Try.ntmps7
    go_wp2_with (first | (go_at_call 29; refine (HAt.out _ _ _).mono ?_; rintro e w1 ⟨rfl, J1, d1, rfl⟩) | (go_at_call 17; (with_reducible refine (HT.out _).mono ?_); rintro e w1 ⟨rfl, J1, d1, rfl⟩) | (go_at_call 19; (with_reducible refine (HO.out _).mono ?_); rintro e w1 ⟨rfl, J1, d1, rfl⟩) | (go_at_call 21; refine (H9.out _).mono ?_; rintro e w1 ⟨rfl, J1, d1, rfl⟩))
    go_ret
    exact ⟨rfl, junk_of_below (by (repeat' (first | (with_reducible exact Below.refl _ _) | (with_reducible assumption) | (with_reducible refine Below.alloc ?_ ?_ _) | (with_reducible refine Below.drew ?_) | (with_reducible refine below_drewN ?_ _) | (with_reducible refine below_plus ?_ ?_ _ _) | (with_reducible refine Below.setCell ?_ ?_ _) | (with_reducible refine Below.setRow ?_ ?_ _) | go_size)))⟩
  · rw [e] at HT
    clear e
    subst h
    rw [show ((0 : Int) == 0) = true from rfl] at HO
    rw [Int.add_zero] at *
    go_enter Try.func7, Try.ntmps7
    go_wp2_with (first | (go_at_call 29; refine (HAt.out _ _ _).mono ?_; rintro e w1 ⟨rfl, J1, d1, rfl⟩) | (go_at_call 17; (with_reducible refine (HT.out _).mono ?_); rintro e w1 ⟨rfl, J1, d1, rfl⟩) | (go_at_call 19; (with_reducible refine (HO.out _).mono ?_); rintro e w1 ⟨rfl, J1, d1, rfl⟩) | (go_at_call 21; refine (H9.out _).mono ?_; rintro e w1 ⟨rfl, J1, d1, rfl⟩))
    go_ret
    exact ⟨rfl, junk_of_below (by (repeat' (first | (with_reducible exact Below.refl _ _) | (with_reducible assumption) | (with_reducible refine Below.alloc ?_ ?_ _) | (with_reducible refine Below.drew ?_) | (with_reducible refine below_drewN ?_ _) | (with_reducible refine below_plus ?_ ?_ _ _) | (with_reducible refine Below.setCell ?_ ?_ _) | (with_reducible refine Below.setRow ?_ ?_ _) | go_size)))⟩
  · rw [e] at HT
    clear e
    have e0 : (d == 0) = false := by rw [beq_eq_false_iff_ne]; omega
    rw [e0] at HO
    have h7 : ¬ 0 < d := by omega
    go_enter Try.func7, Try.ntmps7
    go_wp2_with (first | (go_at_call 29; refine (HAt.out _ _ _).mono ?_; rintro e w1 ⟨rfl, J1, d1, rfl⟩) | (go_at_call 17; (with_reducible refine (HT.out _).mono ?_); rintro e w1 ⟨rfl, J1, d1, rfl⟩) | (go_at_call 19; (with_reducible refine (HO.out _).mono ?_); rintro e w1 ⟨rfl, J1, d1, rfl⟩) | (go_at_call 21; refine (H9.out _).mono ?_; rintro e w1 ⟨rfl, J1, d1, rfl⟩))
    go_ret
    exact ⟨rfl, junk_of_below (by (repeat' (first | (with_reducible exact Below.refl _ _) | (with_reducible assumption) | (with_reducible refine Below.alloc ?_ ?_ _) | (with_reducible refine Below.drew ?_) | (with_reducible refine below_drewN ?_ _) | (with_reducible refine below_plus ?_ ?_ _ _) | (with_reducible refine Below.setCell ?_ ?_ _) | (with_reducible refine Below.setRow ?_ ?_ _) | go_size)))⟩
end Go.Proofs.Ytlfjbbelanccbaa

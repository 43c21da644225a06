/- The laws' day and awake; the laws CivilDays and CivilAdds. Condition: civil's table is as laid. -/
import Derived.Test.YtpfaalpbfdphaaaDoorCivG
namespace Go.Proofs.YtpfaalpbfdphaaaDoor
set_option linter.unusedVariables false
set_option linter.unusedSimpArgs false
open Go.RowKit

theorem l_day (y m d n : Int) (w : World) (ht : CTab w) : Calls Tryd.prog 25 #[.int .i64 y, .int .i64 m, .int .i64 d, .int .i64 n] w fun e w' => e = .returned (.bool (decide ((dayRes y m d).1 = n ∧ (dayRes y m d).2 = 0))) ∧ w = w' := by
  have HD := Lib.hid (n_Day y m d w ht)
  generalize dayRes y m d = p at *
  obtain ⟨a, b⟩ := p
  clear ht
  by_cases c1 : a = n
  · have e1 : (a == n) = true := by rw [c1]; simp
    by_cases c2 : b = 0
    · rw [decide_eq_true ⟨c1, c2⟩]
      have e2 : (b == 0) = true := by rw [c2]; rfl
      clear c1 c2
      go_enter Tryd.func25, Tryd.ntmps25
      go_wp2_with fail
      refine HD.out.mono ?_; rintro e w' ⟨rfl, rfl⟩
      go_wp2
      go_ret
      exact ⟨by simp [*], rfl⟩
    · rw [decide_eq_false (fun h => c2 h.2)]
      have e2 : (b == 0) = false := beq_eq_false_iff_ne.2 c2
      clear c1 c2
      go_enter Tryd.func25, Tryd.ntmps25
      go_wp2_with fail
      refine HD.out.mono ?_; rintro e w' ⟨rfl, rfl⟩
      go_wp2
      go_ret
      exact ⟨by simp [*], rfl⟩
  · rw [decide_eq_false (fun h => c1 h.1)]
    have e1 : (a == n) = false := beq_eq_false_iff_ne.2 c1
    clear c1
    go_enter Tryd.func25, Tryd.ntmps25
    go_wp2_with fail
    refine HD.out.mono ?_; rintro e w' ⟨rfl, rfl⟩
    go_wp2
    go_ret
    exact ⟨by simp [*], rfl⟩

theorem l_day_ok {y m d n : Int} (h : dayRes y m d = (n, 0)) (w : World) (ht : CTab w) : Calls Tryd.prog 25 #[.int .i64 y, .int .i64 m, .int .i64 d, .int .i64 n] w fun e w' => e = .returned (.bool true) ∧ w = w' := by
  have := l_day y m d n w ht
  rwa [decide_eq_true (by rw [h]; exact ⟨rfl, rfl⟩)] at this

theorem v_2024 : Valid 2024 2 29 := by unfold Valid; decide

theorem awake_ok (w : World) (ht : CTab w) : Calls Tryd.prog 18 #[] w fun e w' => e = .returned (.bool true) ∧ Junk w w' := by
  have HT := Lib.hid ht
  have HD := Lib.hid (n_Date 738944 2024 2 29 v_2024 (by decide) w ht)
  have H1 := Lib.hid (l_day_ok (show dayRes 1 1 1 = (0, 0) by decide))
  have H2 := Lib.hid (l_day_ok (show dayRes 2024 2 29 = (738944, 0) by decide))
  have H3 := n_Weekday 738944
  rw [show wkday 738944 = 4 by decide] at H3
  have H3 := Lib.hid H3
  clear ht
  go_enter Tryd.func18, Tryd.ntmps18
  go_wp2_with fail
  refine HD.out.mono ?_; rintro e w' ⟨rfl, J, dr, rfl⟩
  go_wp2_with fail
  refine (H1.out _ (HT.out.below (by (repeat' (first | (with_reducible exact Below.refl _ _) | (with_reducible assumption) | (with_reducible refine Below.alloc ?_ ?_ _) | (with_reducible refine Below.drew ?_) | (with_reducible refine below_drewN ?_ _) | (with_reducible refine below_plus ?_ ?_ _ _) | (with_reducible refine Below.setCell ?_ ?_ _) | (with_reducible refine Below.setRow ?_ ?_ _) | go_size))))).mono ?_; rintro e w' ⟨rfl, rfl⟩
  go_wp2_with fail
  refine (H2.out _ (HT.out.below (by (repeat' (first | (with_reducible exact Below.refl _ _) | (with_reducible assumption) | (with_reducible refine Below.alloc ?_ ?_ _) | (with_reducible refine Below.drew ?_) | (with_reducible refine below_drewN ?_ _) | (with_reducible refine below_plus ?_ ?_ _ _) | (with_reducible refine Below.setCell ?_ ?_ _) | (with_reducible refine Below.setRow ?_ ?_ _) | go_size))))).mono ?_; rintro e w' ⟨rfl, rfl⟩
  go_wp2_with fail
  refine (H3.out _).mono ?_; rintro e w' ⟨rfl, rfl⟩
  go_wp2
  go_ret
  exact ⟨by simp, junk_of_below (by (repeat' (first | (with_reducible exact Below.refl _ _) | (with_reducible assumption) | (with_reducible refine Below.alloc ?_ ?_ _) | (with_reducible refine Below.drew ?_) | (with_reducible refine below_drewN ?_ _) | (with_reducible refine below_plus ?_ ?_ _ _) | (with_reducible refine Below.setCell ?_ ?_ _) | (with_reducible refine Below.setRow ?_ ?_ _) | go_size)))⟩

/-- Both tell the same date, or that there is none. -/
theorem date_both (v : Int) : ∃ y m d e : Int, (∀ w, CTab w → Calls Tryd.prog 12 #[.int .i64 v] w fun e1 w' => e1 = .returned (.tuple #[.agg #[.int .i64 y, .int .i64 m, .int .i64 d], .int .i64 e]) ∧ Junk w w') ∧
    (∀ w, Calls Tryd.prog 13 #[.int .i64 v] w fun e1 w' => e1 = .returned (.tuple #[.agg #[.int .i64 y, .int .i64 m, .int .i64 d], .int .i64 e]) ∧ Junk w w') := by
  by_cases h : 0 ≤ v ∧ v ≤ 3652058
  · obtain ⟨y, m, d, hv, he⟩ := date_exists v.toNat (by omega)
    rw [show ((v.toNat : Nat) : Int) = v by omega] at he
    exact ⟨y, m, d, 0, n_Date v y m d hv he, r_Date v y m d hv he⟩
  · exact ⟨0, 0, 0, 5, fun w _ => n_Date_out v h w, r_Date_out v h⟩
theorem add_both (v k : Int) : ∃ n e : Int, (∀ w, CTab w → Calls Tryd.prog 19 #[.int .i64 v, .int .i64 k] w fun e1 w' => e1 = .returned (.tuple #[.int .i64 n, .int .i64 e]) ∧ Junk w w') ∧
    (∀ w, Calls Tryd.prog 20 #[.int .i64 v, .int .i64 k] w fun e1 w' => e1 = .returned (.tuple #[.int .i64 n, .int .i64 e]) ∧ Junk w w') := by
  by_cases h : 0 ≤ v ∧ v ≤ 3652058
  · obtain ⟨y, m, d, hv, he⟩ := date_exists v.toNat (by omega)
    rw [show ((v.toNat : Nat) : Int) = v by omega] at he
    exact ⟨_, _, n_Add v y m d k hv he, r_Add v y m d k hv he⟩
  · exact ⟨0, 5, fun w _ => n_Add_out v k h w, r_Add_out v k h⟩

set_option maxHeartbeats 1000000 in
theorem l_days (y m d v : Int) (w : World) (ht : CTab w) : Calls Tryd.prog 3 #[.int .i64 y, .int .i64 m, .int .i64 d, .int .i64 v] w fun e w' => e = .returned (.bool true) ∧ Below w.heap.size w w' := by
  have HT := Lib.hid ht
  have D1 := Lib.hid (n_Day y m d)
  have D2 := Lib.hid (r_Day y m d)
  generalize dayRes y m d = p at *
  obtain ⟨a, b⟩ := p
  obtain ⟨y', m', d', e', h1, h2⟩ := date_both v
  have E1 := Lib.hid h1; have E2 := Lib.hid h2
  have L1 := Lib.hid (n_Length y m)
  have L2 := Lib.hid (r_Length y m)
  have W1 := Lib.hid (n_Weekday v)
  have W2 := Lib.hid (r_Weekday v)
  generalize mlen y m = l at *
  generalize wkday v = k at *
  have HA := Lib.hid awake_ok
  clear ht h1 h2
  go_enter Tryd.func3, Tryd.ntmps3
  go_wp2_with fail
  refine (D1.out _ HT.out).mono ?_; rintro e w' ⟨rfl, rfl⟩
  go_wp2_with fail
  refine (D2.out _).mono ?_; rintro e w' ⟨rfl, rfl⟩
  go_wp2_with fail
  refine (E1.out _ HT.out).mono ?_; rintro e w' ⟨rfl, J, dr, rfl⟩
  go_wp2_with fail
  refine (E2.out _).mono ?_; rintro e w' ⟨rfl, J2, dr2, rfl⟩
  go_wp2_with fail
  refine (L1.out _ (HT.out.below (by (repeat' (first | (with_reducible exact Below.refl _ _) | (with_reducible assumption) | (with_reducible refine Below.alloc ?_ ?_ _) | (with_reducible refine Below.drew ?_) | (with_reducible refine below_drewN ?_ _) | (with_reducible refine below_plus ?_ ?_ _ _) | (with_reducible refine Below.setCell ?_ ?_ _) | (with_reducible refine Below.setRow ?_ ?_ _) | go_size))))).mono ?_; rintro e w' ⟨rfl, rfl⟩
  go_wp2_with fail
  refine (L2.out _).mono ?_; rintro e w' ⟨rfl, rfl⟩
  go_wp2_with fail
  refine (W1.out _).mono ?_; rintro e w' ⟨rfl, rfl⟩
  go_wp2_with fail
  refine (W2.out _).mono ?_; rintro e w' ⟨rfl, rfl⟩
  go_wp2_with fail
  refine (HA.out _ (HT.out.below (by (repeat' (first | (with_reducible exact Below.refl _ _) | (with_reducible assumption) | (with_reducible refine Below.alloc ?_ ?_ _) | (with_reducible refine Below.drew ?_) | (with_reducible refine below_drewN ?_ _) | (with_reducible refine below_plus ?_ ?_ _ _) | (with_reducible refine Below.setCell ?_ ?_ _) | (with_reducible refine Below.setRow ?_ ?_ _) | go_size))))).mono ?_; rintro e w' ⟨rfl, J3, dr3, rfl⟩
  go_wp2
  go_ret
  exact ⟨by simp, by (repeat' (first | (with_reducible exact Below.refl _ _) | (with_reducible assumption) | (with_reducible refine Below.alloc ?_ ?_ _) | (with_reducible refine Below.drew ?_) | (with_reducible refine below_drewN ?_ _) | (with_reducible refine below_plus ?_ ?_ _ _) | (with_reducible refine Below.setCell ?_ ?_ _) | (with_reducible refine Below.setRow ?_ ?_ _) | go_size))⟩

set_option maxHeartbeats 1000000 in
theorem l_adds (v k : Int) (w : World) (ht : CTab w) : Calls Tryd.prog 4 #[.int .i64 v, .int .i64 k] w fun e w' => e = .returned (.bool true) ∧ Below w.heap.size w w' := by
  have HT := Lib.hid ht
  obtain ⟨n, e', h1, h2⟩ := add_both v k
  have E1 := Lib.hid h1; have E2 := Lib.hid h2
  have HA := Lib.hid awake_ok
  clear ht h1 h2
  go_enter Tryd.func4, Tryd.ntmps4
  go_wp2_with fail
  refine (E1.out _ HT.out).mono ?_; rintro e w' ⟨rfl, J, dr, rfl⟩
  go_wp2_with fail
  refine (E2.out _).mono ?_; rintro e w' ⟨rfl, J2, dr2, rfl⟩
  go_wp2_with fail
  refine (HA.out _ (HT.out.below (by (repeat' (first | (with_reducible exact Below.refl _ _) | (with_reducible assumption) | (with_reducible refine Below.alloc ?_ ?_ _) | (with_reducible refine Below.drew ?_) | (with_reducible refine below_drewN ?_ _) | (with_reducible refine below_plus ?_ ?_ _ _) | (with_reducible refine Below.setCell ?_ ?_ _) | (with_reducible refine Below.setRow ?_ ?_ _) | go_size))))).mono ?_; rintro e w' ⟨rfl, J3, dr3, rfl⟩
  go_wp2
  go_ret
  exact ⟨by simp, by (repeat' (first | (with_reducible exact Below.refl _ _) | (with_reducible assumption) | (with_reducible refine Below.alloc ?_ ?_ _) | (with_reducible refine Below.drew ?_) | (with_reducible refine below_drewN ?_ _) | (with_reducible refine below_plus ?_ ?_ _ _) | (with_reducible refine Below.setCell ?_ ?_ _) | (with_reducible refine Below.setRow ?_ ?_ _) | go_size))⟩
end Go.Proofs.YtpfaalpbfdphaaaDoor

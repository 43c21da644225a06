/- Contract of apportionref04's Text. -/
import Derived.Test.YtlbbampmonkleaaDoorPerT0
import Derived.Test.YtlbbampmonkleaaDoorPerM
namespace Go.Proofs.YtlbbampmonkleaaDoor
set_option linter.unusedVariables false
set_option linter.unusedSimpArgs false
open Go.RowKit

/-- The text of a period of kind k that begins with month m of the year y. -/
def tx (k : Int) (y m : Nat) : List UInt8 := dgs 4 y ++ (if k = 1 then [45, 77] ++ dgs 2 m else if k = 2 then [45, 81] ++ dgs 1 ((m - 1) / 3 + 1) else if k = 3 then [45, 72] ++ dgs 1 ((m - 1) / 6 + 1) else [])

theorem r_Text_bad (k p : Int) (h : ¬ InCal k p) (w : World) : Calls Tryd.prog 17 #[.int .i64 k, .int .i64 p] w fun e w' => e = .returned (.tuple #[.string ⟨#[]⟩, .int .i64 (spanRes k p).2]) ∧ Junk w w' := by
  have HS := r_begins k p
  have hb := span_bad h
  rw [if_neg hb, if_neg hb] at HS
  have HS := Lib.hid HS
  have e1 : ((spanRes k p).2 != 0) = true := bne_iff_ne.2 hb
  clear h hb
  generalize (spanRes k p).2 = e at *
  go_enter Tryd.func17, Tryd.ntmps17
  go_wp2_with fail
  refine (HS.out _).mono ?_; rintro e w' ⟨rfl, rfl⟩
  go_wp2
  go_ret2
  exact ⟨rfl, junk_of_below (by (repeat' (first | (with_reducible exact Below.refl _ _) | (with_reducible assumption) | (with_reducible refine Below.alloc ?_ ?_ _) | (with_reducible refine Below.drew ?_) | (with_reducible refine below_drewN ?_ _) | (with_reducible refine below_plus ?_ ?_ _ _) | (with_reducible refine Below.setCell ?_ ?_ _) | (with_reducible refine Below.setRow ?_ ?_ _) | go_size)))⟩

set_option maxHeartbeats 2000000 in
theorem r_Text (k p : Int) (h : InCal k p) (y m : Nat) (hy : (y : Int) = p * mon k / 12 + 1) (hm : (m : Int) = p * mon k % 12 + 1) (w : World) :
    Calls Tryd.prog 17 #[.int .i64 k, .int .i64 p] w fun e w' => e = .returned (.tuple #[.string ⟨(tx k y m).toArray⟩, .int .i64 0]) ∧ Junk w w' := by
  have HS := r_begins k p
  have h' := (inCal_iff k p).1 h
  rw [if_pos h', if_pos h', h', ← hy, ← hm] at HS
  have HS := Lib.hid HS
  obtain ⟨_, s0, s1, s2, _⟩ := inCal_bd h
  obtain ⟨_, _, _, _, _, _, q1, q2⟩ := mon_facts h.1
  have y1 : 1 ≤ y ∧ y ≤ 9999 := by omega
  have m1 : 1 ≤ m ∧ m ≤ 12 := by omega
  have H4 : ∀ w, Calls Tryd.prog 35 #[.int .i64 (y : Int), .int .i64 4] w fun e w' => e = .returned (.string ⟨(dgs 4 y).toArray⟩) ∧ Junk w w' := r_digits 4 (by omega) y (by omega)
  have H4 := Lib.hid H4
  have hl4 := dgs_len 4 y
  rcases mon_cases h.1 with ⟨rfl, e⟩ | ⟨rfl, e⟩ | ⟨rfl, e⟩ | ⟨rfl, e⟩
  · have H2 : ∀ w, Calls Tryd.prog 35 #[.int .i64 (m : Int), .int .i64 2] w fun e w' => e = .returned (.string ⟨(dgs 2 m).toArray⟩) ∧ Junk w w' := r_digits 2 (by omega) m (by omega)
    have H2 := Lib.hid H2
    have hl2 := dgs_len 2 m
    have HT := Lib.hid (show dgs 4 y ++ ([45, 77] ++ dgs 2 m) = tx 1 y m from rfl)
    generalize tx 1 y m = T at *
    generalize dgs 4 y = D at *
    generalize dgs 2 m = E at *
    clear h h' hy hm s0 s1 s2 e
    go_enter Tryd.func17, Tryd.ntmps17
    go_wp2_with fail
    refine (HS.out _).mono ?_; rintro e w' ⟨rfl, rfl⟩
    go_wp2_with fail
    refine (H4.out _).mono ?_; rintro e w' ⟨rfl, J, dr, rfl⟩
    go_wp2_with fail
    refine (H2.out _).mono ?_; rintro e w' ⟨rfl, J2, dr2, rfl⟩
    all_goals (go_wp2; go_ret2; exact ⟨ret_str2 (by rw [← HT.out]; simp [ba_app]), junk_of_below (by (repeat' (first | (with_reducible exact Below.refl _ _) | (with_reducible assumption) | (with_reducible refine Below.alloc ?_ ?_ _) | (with_reducible refine Below.drew ?_) | (with_reducible refine below_drewN ?_ _) | (with_reducible refine below_plus ?_ ?_ _ _) | (with_reducible refine Below.setCell ?_ ?_ _) | (with_reducible refine Below.setRow ?_ ?_ _) | go_size)))⟩)
  · obtain ⟨a, ha⟩ : ∃ a : Int, (m : Int) / 3 = a := ⟨_, rfl⟩
    have e1 : (m : Int).tdiv 3 = a := by rw [← ha]; exact Int.tdiv_eq_ediv_of_nonneg (by omega)
    have a0 : 0 ≤ a := by omega
    have a1 : a ≤ 12 := by omega
    have H2 : ∀ w, Calls Tryd.prog 35 #[.int .i64 (((m - 1) / 3 + 1 : Nat) : Int), .int .i64 1] w fun e w' => e = .returned (.string ⟨(dgs 1 ((m - 1) / 3 + 1)).toArray⟩) ∧ Junk w w' := r_digits 1 (by omega) _ (by omega)
    rw [show (((m - 1) / 3 + 1 : Nat) : Int) = a + 1 by rw [e] at hm; omega] at H2
    have H2 := Lib.hid H2
    have hl2 := dgs_len 1 ((m - 1) / 3 + 1)
    have HT := Lib.hid (show dgs 4 y ++ ([45, 81] ++ dgs 1 ((m - 1) / 3 + 1)) = tx 2 y m from rfl)
    generalize tx 2 y m = T at *
    generalize dgs 4 y = D at *
    generalize dgs 1 ((m - 1) / 3 + 1) = E at *
    clear h h' hy hm s0 s1 s2 e ha
    go_enter Tryd.func17, Tryd.ntmps17
    go_wp2_with fail
    refine (HS.out _).mono ?_; rintro e w' ⟨rfl, rfl⟩
    go_wp2_with fail
    refine (H4.out _).mono ?_; rintro e w' ⟨rfl, J, dr, rfl⟩
    go_wp2_with fail
    refine (H2.out _).mono ?_; rintro e w' ⟨rfl, J2, dr2, rfl⟩
    all_goals (go_wp2; go_ret2; exact ⟨ret_str2 (by rw [← HT.out]; simp [ba_app]), junk_of_below (by (repeat' (first | (with_reducible exact Below.refl _ _) | (with_reducible assumption) | (with_reducible refine Below.alloc ?_ ?_ _) | (with_reducible refine Below.drew ?_) | (with_reducible refine below_drewN ?_ _) | (with_reducible refine below_plus ?_ ?_ _ _) | (with_reducible refine Below.setCell ?_ ?_ _) | (with_reducible refine Below.setRow ?_ ?_ _) | go_size)))⟩)
  · obtain ⟨a, ha⟩ : ∃ a : Int, (m : Int) / 6 = a := ⟨_, rfl⟩
    have e1 : (m : Int).tdiv 6 = a := by rw [← ha]; exact Int.tdiv_eq_ediv_of_nonneg (by omega)
    have a0 : 0 ≤ a := by omega
    have a1 : a ≤ 12 := by omega
    have H2 : ∀ w, Calls Tryd.prog 35 #[.int .i64 (((m - 1) / 6 + 1 : Nat) : Int), .int .i64 1] w fun e w' => e = .returned (.string ⟨(dgs 1 ((m - 1) / 6 + 1)).toArray⟩) ∧ Junk w w' := r_digits 1 (by omega) _ (by omega)
    rw [show (((m - 1) / 6 + 1 : Nat) : Int) = a + 1 by rw [e] at hm; omega] at H2
    have H2 := Lib.hid H2
    have hl2 := dgs_len 1 ((m - 1) / 6 + 1)
    have HT := Lib.hid (show dgs 4 y ++ ([45, 72] ++ dgs 1 ((m - 1) / 6 + 1)) = tx 3 y m from rfl)
    generalize tx 3 y m = T at *
    generalize dgs 4 y = D at *
    generalize dgs 1 ((m - 1) / 6 + 1) = E at *
    clear h h' hy hm s0 s1 s2 e ha
    go_enter Tryd.func17, Tryd.ntmps17
    go_wp2_with fail
    refine (HS.out _).mono ?_; rintro e w' ⟨rfl, rfl⟩
    go_wp2_with fail
    refine (H4.out _).mono ?_; rintro e w' ⟨rfl, J, dr, rfl⟩
    go_wp2_with fail
    refine (H2.out _).mono ?_; rintro e w' ⟨rfl, J2, dr2, rfl⟩
    all_goals (go_wp2; go_ret2; exact ⟨ret_str2 (by rw [← HT.out]; simp [ba_app]), junk_of_below (by (repeat' (first | (with_reducible exact Below.refl _ _) | (with_reducible assumption) | (with_reducible refine Below.alloc ?_ ?_ _) | (with_reducible refine Below.drew ?_) | (with_reducible refine below_drewN ?_ _) | (with_reducible refine below_plus ?_ ?_ _ _) | (with_reducible refine Below.setCell ?_ ?_ _) | (with_reducible refine Below.setRow ?_ ?_ _) | go_size)))⟩)
  · have HT := Lib.hid (show dgs 4 y ++ [] = tx 4 y m from rfl)
    generalize tx 4 y m = T at *
    generalize dgs 4 y = D at *
    clear h h' hy hm s0 s1 s2 e
    go_enter Tryd.func17, Tryd.ntmps17
    go_wp2_with fail
    refine (HS.out _).mono ?_; rintro e w' ⟨rfl, rfl⟩
    go_wp2_with fail
    refine (H4.out _).mono ?_; rintro e w' ⟨rfl, J, dr, rfl⟩
    go_wp2
    go_ret2
    exact ⟨ret_str2 (by rw [← HT.out]; simp), junk_of_below (by (repeat' (first | (with_reducible exact Below.refl _ _) | (with_reducible assumption) | (with_reducible refine Below.alloc ?_ ?_ _) | (with_reducible refine Below.drew ?_) | (with_reducible refine below_drewN ?_ _) | (with_reducible refine below_plus ?_ ?_ _ _) | (with_reducible refine Below.setCell ?_ ?_ _) | (with_reducible refine Below.setRow ?_ ?_ _) | go_size)))⟩
end Go.Proofs.YtlbbampmonkleaaDoor

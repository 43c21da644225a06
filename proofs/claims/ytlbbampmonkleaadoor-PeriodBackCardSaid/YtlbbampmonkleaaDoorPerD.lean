/- Contracts of Of, of period and of apportionref04. Condition: civil's table is as laid. -/
import Derived.Test.YtlbbampmonkleaaDoorPerC
namespace Go.Proofs.YtlbbampmonkleaaDoor
set_option linter.unusedVariables false
set_option linter.unusedSimpArgs false
open Go.RowKit

theorem n_Of_arg (k v : Int) (hk : ¬ (1 ≤ k ∧ k ≤ 4)) (w : World) : Calls Tryd.prog 9 #[.int .i64 k, .int .i64 v] w fun e w' => e = .returned (.tuple #[.int .i64 0, .int .i64 2]) ∧ Junk w w' := by
  have HM := n_monthsOf k
  rw [decide_eq_false hk] at HM
  have HM := Lib.hid HM
  clear hk
  go_enter Tryd.func9, Tryd.ntmps9
  go_wp2_with fail
  refine (HM.out _).mono ?_; rintro e w' ⟨rfl, J, dr, rfl⟩
  go_wp2
  go_ret2
  exact ⟨rfl, junk_of_below (by (repeat' (first | (with_reducible exact Below.refl _ _) | (with_reducible assumption) | (with_reducible refine Below.alloc ?_ ?_ _) | (with_reducible refine Below.drew ?_) | (with_reducible refine below_drewN ?_ _) | (with_reducible refine below_plus ?_ ?_ _ _) | (with_reducible refine Below.setCell ?_ ?_ _) | (with_reducible refine Below.setRow ?_ ?_ _) | go_size)))⟩

theorem n_Of_out (k v : Int) (hk : 1 ≤ k ∧ k ≤ 4) (hv : ¬ (0 ≤ v ∧ v ≤ 3652058)) (w : World) : Calls Tryd.prog 9 #[.int .i64 k, .int .i64 v] w fun e w' => e = .returned (.tuple #[.int .i64 0, .int .i64 5]) ∧ Junk w w' := by
  have HM := n_monthsOf k
  rw [decide_eq_true hk] at HM
  have HM := Lib.hid HM
  have HD := Lib.hid (n_Date_out v hv)
  clear hk hv
  go_enter Tryd.func9, Tryd.ntmps9
  go_wp2_with fail
  refine (HM.out _).mono ?_; rintro e w' ⟨rfl, J, dr, rfl⟩
  go_wp2_with fail
  refine (HD.out _).mono ?_; rintro e w' ⟨rfl, J2, dr2, rfl⟩
  go_wp2
  go_ret2
  exact ⟨rfl, junk_of_below (by (repeat' (first | (with_reducible exact Below.refl _ _) | (with_reducible assumption) | (with_reducible refine Below.alloc ?_ ?_ _) | (with_reducible refine Below.drew ?_) | (with_reducible refine below_drewN ?_ _) | (with_reducible refine below_plus ?_ ?_ _ _) | (with_reducible refine Below.setCell ?_ ?_ _) | (with_reducible refine Below.setRow ?_ ?_ _) | go_size)))⟩

theorem n_Of (k v y m d : Int) (hk : 1 ≤ k ∧ k ≤ 4) (hv : Valid y m d) (he : dayOf y m d = v) (w : World) (ht : CTab w) : Calls Tryd.prog 9 #[.int .i64 k, .int .i64 v] w fun e w' => e = .returned (.tuple #[.int .i64 ((12 * (y - 1) + m - 1) / mon k), .int .i64 0]) ∧ Junk w w' := by
  have HM := n_monthsOf k
  rw [decide_eq_true hk] at HM
  have HM := Lib.hid HM
  have HD := Lib.hid (n_Date v y m d hv he)
  have HT := Lib.hid ht
  obtain ⟨y0, y1, m0, m1, _, _⟩ := hv
  obtain ⟨_, _, _, _, _, k0, k1, k2⟩ := mon_facts hk
  generalize mon k = q at *
  obtain ⟨a, ha⟩ : ∃ a, 12 * (y - 1) + m - 1 = a := ⟨_, rfl⟩
  have ha2 : (y - 1) * 12 + m - 1 = a := by omega
  obtain ⟨r, hr⟩ : ∃ r, a / q = r := ⟨_, rfl⟩
  have e1 : a.tdiv q = r := by rw [← hr]; exact Int.tdiv_eq_ediv_of_nonneg (by omega)
  have r0 : 0 ≤ r := by rw [← hr]; exact Int.ediv_nonneg (by omega) (by omega)
  have r1 : r ≤ a := by rw [← hr]; exact Int.ediv_le_self _ (by omega)
  rw [ha, hr]
  clear hr he hk
  go_enter Tryd.func9, Tryd.ntmps9
  go_wp2_with fail
  refine (HM.out _).mono ?_; rintro e w' ⟨rfl, J, dr, rfl⟩
  go_wp2_with fail
  refine (HD.out _ (HT.out.below (by (repeat' (first | (with_reducible exact Below.refl _ _) | (with_reducible assumption) | (with_reducible refine Below.alloc ?_ ?_ _) | (with_reducible refine Below.drew ?_) | (with_reducible refine below_drewN ?_ _) | (with_reducible refine below_plus ?_ ?_ _ _) | (with_reducible refine Below.setCell ?_ ?_ _) | (with_reducible refine Below.setRow ?_ ?_ _) | go_size))))).mono ?_; rintro e w' ⟨rfl, J2, dr2, rfl⟩
  go_wp2
  go_ret2
  exact ⟨rfl, junk_of_below (by (repeat' (first | (with_reducible exact Below.refl _ _) | (with_reducible assumption) | (with_reducible refine Below.alloc ?_ ?_ _) | (with_reducible refine Below.drew ?_) | (with_reducible refine below_drewN ?_ _) | (with_reducible refine below_plus ?_ ?_ _ _) | (with_reducible refine Below.setCell ?_ ?_ _) | (with_reducible refine Below.setRow ?_ ?_ _) | go_size)))⟩

theorem r_Of_arg (k v : Int) (hk : ¬ (1 ≤ k ∧ k ≤ 4)) (w : World) : Calls Tryd.prog 10 #[.int .i64 k, .int .i64 v] w fun e w' => e = .returned (.tuple #[.int .i64 0, .int .i64 2]) ∧ Junk w w' := by
  have HM := r_months k
  rw [mon_none hk] at HM
  have HM := Lib.hid HM
  clear hk
  go_enter Tryd.func10, Tryd.ntmps10
  go_wp2_with fail
  refine (HM.out _).mono ?_; rintro e w' ⟨rfl, rfl⟩
  go_wp2
  go_ret2
  exact ⟨rfl, junk_of_below (by (repeat' (first | (with_reducible exact Below.refl _ _) | (with_reducible assumption) | (with_reducible refine Below.alloc ?_ ?_ _) | (with_reducible refine Below.drew ?_) | (with_reducible refine below_drewN ?_ _) | (with_reducible refine below_plus ?_ ?_ _ _) | (with_reducible refine Below.setCell ?_ ?_ _) | (with_reducible refine Below.setRow ?_ ?_ _) | go_size)))⟩

theorem r_Of_out (k v : Int) (hk : 1 ≤ k ∧ k ≤ 4) (hv : ¬ (0 ≤ v ∧ v ≤ 3652058)) (w : World) : Calls Tryd.prog 10 #[.int .i64 k, .int .i64 v] w fun e w' => e = .returned (.tuple #[.int .i64 0, .int .i64 5]) ∧ Junk w w' := by
  have HM := Lib.hid (r_months k)
  have HD := Lib.hid (r_Date_out v hv)
  obtain ⟨_, _, _, _, _, k0, k1, k2⟩ := mon_facts hk
  have k3 : (mon k == 0) = false := beq_eq_false_iff_ne.2 k0
  generalize mon k = q at *
  clear hk hv
  go_enter Tryd.func10, Tryd.ntmps10
  go_wp2_with fail
  refine (HM.out _).mono ?_; rintro e w' ⟨rfl, rfl⟩
  go_wp2_with fail
  refine (HD.out _).mono ?_; rintro e w' ⟨rfl, J2, dr2, rfl⟩
  go_wp2
  go_ret2
  exact ⟨rfl, junk_of_below (by (repeat' (first | (with_reducible exact Below.refl _ _) | (with_reducible assumption) | (with_reducible refine Below.alloc ?_ ?_ _) | (with_reducible refine Below.drew ?_) | (with_reducible refine below_drewN ?_ _) | (with_reducible refine below_plus ?_ ?_ _ _) | (with_reducible refine Below.setCell ?_ ?_ _) | (with_reducible refine Below.setRow ?_ ?_ _) | go_size)))⟩

theorem r_Of (k v y m d : Int) (hk : 1 ≤ k ∧ k ≤ 4) (hv : Valid y m d) (he : dayOf y m d = v) (w : World) : Calls Tryd.prog 10 #[.int .i64 k, .int .i64 v] w fun e w' => e = .returned (.tuple #[.int .i64 ((12 * (y - 1) + m - 1) / mon k), .int .i64 0]) ∧ Junk w w' := by
  have HM := Lib.hid (r_months k)
  have HD := Lib.hid (r_Date v y m d hv he)
  obtain ⟨y0, y1, m0, m1, _, _⟩ := hv
  obtain ⟨_, _, _, _, _, k0, k1, k2⟩ := mon_facts hk
  have k3 : (mon k == 0) = false := beq_eq_false_iff_ne.2 k0
  generalize mon k = q at *
  obtain ⟨a, ha⟩ : ∃ a, 12 * (y - 1) + m - 1 = a := ⟨_, rfl⟩
  obtain ⟨r, hr⟩ : ∃ r, a / q = r := ⟨_, rfl⟩
  have e1 : a.tdiv q = r := by rw [← hr]; exact Int.tdiv_eq_ediv_of_nonneg (by omega)
  have r0 : 0 ≤ r := by rw [← hr]; exact Int.ediv_nonneg (by omega) (by omega)
  have r1 : r ≤ a := by rw [← hr]; exact Int.ediv_le_self _ (by omega)
  rw [ha, hr]
  clear hr he hk
  go_enter Tryd.func10, Tryd.ntmps10
  go_wp2_with fail
  refine (HM.out _).mono ?_; rintro e w' ⟨rfl, rfl⟩
  go_wp2_with fail
  refine (HD.out _).mono ?_; rintro e w' ⟨rfl, J2, dr2, rfl⟩
  go_wp2
  go_ret2
  exact ⟨rfl, junk_of_below (by (repeat' (first | (with_reducible exact Below.refl _ _) | (with_reducible assumption) | (with_reducible refine Below.alloc ?_ ?_ _) | (with_reducible refine Below.drew ?_) | (with_reducible refine below_drewN ?_ _) | (with_reducible refine below_plus ?_ ?_ _ _) | (with_reducible refine Below.setCell ?_ ?_ _) | (with_reducible refine Below.setRow ?_ ?_ _) | go_size)))⟩
end Go.Proofs.YtlbbampmonkleaaDoor

/- Contracts of Add, of civil and of apportionref03. Condition: civil's table is as laid. -/
import Derived.Test.YtpfaalpbfdphaaaDoorCivF
namespace Go.Proofs.YtpfaalpbfdphaaaDoor
set_option linter.unusedVariables false
set_option linter.unusedSimpArgs false
open Go.RowKit

/-- What Add answers from a date. -/
def addRes (y m d k : Int) : Int × Int :=
  if k < -200000 ∨ 200000 < k ∨ 12 * y + m - 1 + k < 12 ∨ 120000 ≤ 12 * y + m - 1 + k then (0, 5) else
  (dayOf ((12 * y + m - 1 + k) / 12) ((12 * y + m - 1 + k) % 12 + 1) (min d (mlen ((12 * y + m - 1 + k) / 12) ((12 * y + m - 1 + k) % 12 + 1))), 0)

theorem day_ok {y m d : Int} (hv : Valid y m d) : dayRes y m d = (dayOf y m d, 0) := if_pos ⟨hv.2.2.2.2.1, hv.2.2.2.2.2⟩
theorem add_valid {y m d k : Int} (hv : Valid y m d) (h : ¬ (k < -200000 ∨ 200000 < k ∨ 12 * y + m - 1 + k < 12 ∨ 120000 ≤ 12 * y + m - 1 + k)) :
    Valid ((12 * y + m - 1 + k) / 12) ((12 * y + m - 1 + k) % 12 + 1) (min d (mlen ((12 * y + m - 1 + k) / 12) ((12 * y + m - 1 + k) % 12 + 1))) := by
  obtain ⟨y0, y1, m0, m1, d0, d1⟩ := hv
  have h1 := mlen_bd ((12 * y + m - 1 + k) / 12) ((12 * y + m - 1 + k) % 12 + 1) (by omega) (by omega) (by omega) (by omega)
  exact ⟨by omega, by omega, by omega, by omega, by omega, by omega⟩

theorem n_Add_out (v k : Int) (h : ¬ (0 ≤ v ∧ v ≤ 3652058)) (w : World) : Calls Tryd.prog 19 #[.int .i64 v, .int .i64 k] w fun e w' => e = .returned (.tuple #[.int .i64 0, .int .i64 5]) ∧ Junk w w' := by
  have HD := Lib.hid (n_Date_out v h)
  clear h
  go_enter Tryd.func19, Tryd.ntmps19
  go_wp2_with fail
  refine (HD.out _).mono ?_; rintro e w' ⟨rfl, J, dr, rfl⟩
  go_wp2
  go_ret2
  exact ⟨rfl, junk_of_below (by (repeat' (first | (with_reducible exact Below.refl _ _) | (with_reducible assumption) | (with_reducible refine Below.alloc ?_ ?_ _) | (with_reducible refine Below.drew ?_) | (with_reducible refine below_drewN ?_ _) | (with_reducible refine below_plus ?_ ?_ _ _) | (with_reducible refine Below.setCell ?_ ?_ _) | (with_reducible refine Below.setRow ?_ ?_ _) | go_size)))⟩

set_option maxHeartbeats 1000000 in
theorem n_Add (v y m d k : Int) (hv : Valid y m d) (he : dayOf y m d = v) (w : World) (ht : CTab w) : Calls Tryd.prog 19 #[.int .i64 v, .int .i64 k] w fun e w' => e = .returned (.tuple #[.int .i64 (addRes y m d k).1, .int .i64 (addRes y m d k).2]) ∧ Junk w w' := by
  have HD := Lib.hid (n_Date v y m d hv he)
  have HT := Lib.hid ht
  have hvv := hv
  obtain ⟨y0, y1, m0, m1, d0, d1⟩ := hv
  unfold addRes
  by_cases c1 : k < -200000
  · rw [if_pos (by omega)]
    clear ht hvv d1
    go_enter Tryd.func19, Tryd.ntmps19
    go_wp2_with fail
    refine (HD.out _ HT.out).mono ?_; rintro e w' ⟨rfl, J, dr, rfl⟩
    go_wp2
    go_ret2
    exact ⟨rfl, junk_of_below (by (repeat' (first | (with_reducible exact Below.refl _ _) | (with_reducible assumption) | (with_reducible refine Below.alloc ?_ ?_ _) | (with_reducible refine Below.drew ?_) | (with_reducible refine below_drewN ?_ _) | (with_reducible refine below_plus ?_ ?_ _ _) | (with_reducible refine Below.setCell ?_ ?_ _) | (with_reducible refine Below.setRow ?_ ?_ _) | go_size)))⟩
  by_cases c2 : 200000 < k
  · rw [if_pos (by omega)]
    clear ht hvv d1
    go_enter Tryd.func19, Tryd.ntmps19
    go_wp2_with fail
    refine (HD.out _ HT.out).mono ?_; rintro e w' ⟨rfl, J, dr, rfl⟩
    go_wp2
    go_ret2
    exact ⟨rfl, junk_of_below (by (repeat' (first | (with_reducible exact Below.refl _ _) | (with_reducible assumption) | (with_reducible refine Below.alloc ?_ ?_ _) | (with_reducible refine Below.drew ?_) | (with_reducible refine below_drewN ?_ _) | (with_reducible refine below_plus ?_ ?_ _ _) | (with_reducible refine Below.setCell ?_ ?_ _) | (with_reducible refine Below.setRow ?_ ?_ _) | go_size)))⟩
  obtain ⟨s, hs⟩ : ∃ s, (y - 1) * 12 + m - 1 + k = s := ⟨_, rfl⟩
  have hm31 := (mlen_bd y m y0 y1 m0 m1).2
  have d31 : d ≤ 31 := by omega
  by_cases c3 : s < 0
  · rw [if_pos (by omega)]
    have s1 : -300000 ≤ s := by omega
    clear ht hvv d1 hm31
    go_enter Tryd.func19, Tryd.ntmps19
    go_wp2_with fail
    refine (HD.out _ HT.out).mono ?_; rintro e w' ⟨rfl, J, dr, rfl⟩
    go_wp2
    go_ret2
    exact ⟨rfl, junk_of_below (by (repeat' (first | (with_reducible exact Below.refl _ _) | (with_reducible assumption) | (with_reducible refine Below.alloc ?_ ?_ _) | (with_reducible refine Below.drew ?_) | (with_reducible refine below_drewN ?_ _) | (with_reducible refine below_plus ?_ ?_ _ _) | (with_reducible refine Below.setCell ?_ ?_ _) | (with_reducible refine Below.setRow ?_ ?_ _) | go_size)))⟩
  by_cases c4 : 119988 ≤ s
  · rw [if_pos (by omega)]
    clear ht hvv d1 hm31
    go_enter Tryd.func19, Tryd.ntmps19
    go_wp2_with fail
    refine (HD.out _ HT.out).mono ?_; rintro e w' ⟨rfl, J, dr, rfl⟩
    go_wp2
    go_ret2
    exact ⟨rfl, junk_of_below (by (repeat' (first | (with_reducible exact Below.refl _ _) | (with_reducible assumption) | (with_reducible refine Below.alloc ?_ ?_ _) | (with_reducible refine Below.drew ?_) | (with_reducible refine below_drewN ?_ _) | (with_reducible refine below_plus ?_ ?_ _ _) | (with_reducible refine Below.setCell ?_ ?_ _) | (with_reducible refine Below.setRow ?_ ?_ _) | go_size)))⟩
  have hc : ¬ (k < -200000 ∨ 200000 < k ∨ 12 * y + m - 1 + k < 12 ∨ 120000 ≤ 12 * y + m - 1 + k) := by omega
  rw [if_neg hc]
  have ha := add_valid hvv hc
  obtain ⟨p, hp⟩ : ∃ p, p = s / 12 := ⟨_, rfl⟩
  obtain ⟨r, hr⟩ : ∃ r, r = s % 12 := ⟨_, rfl⟩
  have e1 : s.tdiv 12 = p := by rw [hp]; exact Int.tdiv_eq_ediv_of_nonneg (by omega)
  have e2 : s.tmod 12 = r := by rw [hr]; exact Int.tmod_eq_emod_of_nonneg (by omega)
  rw [show (12 * y + m - 1 + k) / 12 = p + 1 by omega, show (12 * y + m - 1 + k) % 12 = r by omega] at ha ⊢
  have hres := day_ok ha
  have HL := Lib.hid (fun w (h : CTab w) => n_Length (p + 1) (r + 1) w h)
  have p0 : 0 ≤ p := by omega
  have p9 : p ≤ 9998 := by omega
  have r0 : 0 ≤ r := by omega
  have r9 : r ≤ 11 := by omega
  have HG := Lib.hid (fun x w (h : CTab w) => n_Day (p + 1) (r + 1) x w h)
  have hl31 := mlen_bd (p + 1) (r + 1) (by omega) (by omega) (by omega) (by omega)
  obtain ⟨l0, l1⟩ := hl31
  generalize mlen (p + 1) (r + 1) = l at *
  by_cases c5 : d ≤ l
  · rw [Int.min_eq_left c5] at hres ⊢
    have HGd := HG.out d
    rw [hres] at HGd
    have HGd := Lib.hid HGd
    generalize dayOf (p + 1) (r + 1) d = x at *
    clear ht hvv d1 hm31 hp hr ha hres hc HG
    go_enter Tryd.func19, Tryd.ntmps19
    go_wp2_with fail
    refine (HD.out _ HT.out).mono ?_; rintro e w' ⟨rfl, J, dr, rfl⟩
    go_wp2_with fail
    go_quiet (first | (refine Calls.quiet_of_same ((HL.out _ (HT.out.below ?_)).mono (fun _ _ h => ⟨h.1, h.2.symm⟩)); (repeat' (first | (with_reducible exact Below.refl _ _) | (with_reducible assumption) | (with_reducible refine Below.alloc ?_ ?_ _) | (with_reducible refine Below.drew ?_) | (with_reducible refine below_drewN ?_ _) | (with_reducible refine below_plus ?_ ?_ _ _) | (with_reducible refine Below.setCell ?_ ?_ _) | (with_reducible refine Below.setRow ?_ ?_ _) | go_size))) | (refine Calls.quiet_of_same ((HGd.out _ (HT.out.below ?_)).mono (fun _ _ h => ⟨h.1, h.2.symm⟩)); (repeat' (first | (with_reducible exact Below.refl _ _) | (with_reducible assumption) | (with_reducible refine Below.alloc ?_ ?_ _) | (with_reducible refine Below.drew ?_) | (with_reducible refine below_drewN ?_ _) | (with_reducible refine below_plus ?_ ?_ _ _) | (with_reducible refine Below.setCell ?_ ?_ _) | (with_reducible refine Below.setRow ?_ ?_ _) | go_size))))
    go_wp2
    go_ret2
    exact ⟨rfl, junk_of_below (by (repeat' (first | (with_reducible exact Below.refl _ _) | (with_reducible assumption) | (with_reducible refine Below.alloc ?_ ?_ _) | (with_reducible refine Below.drew ?_) | (with_reducible refine below_drewN ?_ _) | (with_reducible refine below_plus ?_ ?_ _ _) | (with_reducible refine Below.setCell ?_ ?_ _) | (with_reducible refine Below.setRow ?_ ?_ _) | go_size)))⟩
  · rw [Int.min_eq_right (by omega)] at hres ⊢
    have HGd := HG.out l
    rw [hres] at HGd
    have HGd := Lib.hid HGd
    generalize dayOf (p + 1) (r + 1) l = x at *
    clear ht hvv d1 hm31 hp hr ha hres hc HG
    go_enter Tryd.func19, Tryd.ntmps19
    go_wp2_with fail
    refine (HD.out _ HT.out).mono ?_; rintro e w' ⟨rfl, J, dr, rfl⟩
    go_wp2_with fail
    go_quiet (first | (refine Calls.quiet_of_same ((HL.out _ (HT.out.below ?_)).mono (fun _ _ h => ⟨h.1, h.2.symm⟩)); (repeat' (first | (with_reducible exact Below.refl _ _) | (with_reducible assumption) | (with_reducible refine Below.alloc ?_ ?_ _) | (with_reducible refine Below.drew ?_) | (with_reducible refine below_drewN ?_ _) | (with_reducible refine below_plus ?_ ?_ _ _) | (with_reducible refine Below.setCell ?_ ?_ _) | (with_reducible refine Below.setRow ?_ ?_ _) | go_size))) | (refine Calls.quiet_of_same ((HGd.out _ (HT.out.below ?_)).mono (fun _ _ h => ⟨h.1, h.2.symm⟩)); (repeat' (first | (with_reducible exact Below.refl _ _) | (with_reducible assumption) | (with_reducible refine Below.alloc ?_ ?_ _) | (with_reducible refine Below.drew ?_) | (with_reducible refine below_drewN ?_ _) | (with_reducible refine below_plus ?_ ?_ _ _) | (with_reducible refine Below.setCell ?_ ?_ _) | (with_reducible refine Below.setRow ?_ ?_ _) | go_size))))
    go_wp2
    go_ret2
    exact ⟨rfl, junk_of_below (by (repeat' (first | (with_reducible exact Below.refl _ _) | (with_reducible assumption) | (with_reducible refine Below.alloc ?_ ?_ _) | (with_reducible refine Below.drew ?_) | (with_reducible refine below_drewN ?_ _) | (with_reducible refine below_plus ?_ ?_ _ _) | (with_reducible refine Below.setCell ?_ ?_ _) | (with_reducible refine Below.setRow ?_ ?_ _) | go_size)))⟩

/-! apportionref03's. -/
theorem r_Add_out (v k : Int) (h : ¬ (0 ≤ v ∧ v ≤ 3652058)) (w : World) : Calls Tryd.prog 20 #[.int .i64 v, .int .i64 k] w fun e w' => e = .returned (.tuple #[.int .i64 0, .int .i64 5]) ∧ Junk w w' := by
  have HD := Lib.hid (r_Date_out v h)
  clear h
  go_enter Tryd.func20, Tryd.ntmps20
  go_wp2_with fail
  refine (HD.out _).mono ?_; rintro e w' ⟨rfl, J, dr, rfl⟩
  go_wp2
  go_ret2
  exact ⟨rfl, junk_of_below (by (repeat' (first | (with_reducible exact Below.refl _ _) | (with_reducible assumption) | (with_reducible refine Below.alloc ?_ ?_ _) | (with_reducible refine Below.drew ?_) | (with_reducible refine below_drewN ?_ _) | (with_reducible refine below_plus ?_ ?_ _ _) | (with_reducible refine Below.setCell ?_ ?_ _) | (with_reducible refine Below.setRow ?_ ?_ _) | go_size)))⟩

set_option maxHeartbeats 1000000 in
theorem r_Add (v y m d k : Int) (hv : Valid y m d) (he : dayOf y m d = v) (w : World) : Calls Tryd.prog 20 #[.int .i64 v, .int .i64 k] w fun e w' => e = .returned (.tuple #[.int .i64 (addRes y m d k).1, .int .i64 (addRes y m d k).2]) ∧ Junk w w' := by
  have HD := Lib.hid (r_Date v y m d hv he)
  have hvv := hv
  obtain ⟨y0, y1, m0, m1, d0, d1⟩ := hv
  unfold addRes
  by_cases c1 : k < -200000
  · rw [if_pos (by omega)]
    clear hvv d1
    go_enter Tryd.func20, Tryd.ntmps20
    go_wp2_with fail
    refine (HD.out _).mono ?_; rintro e w' ⟨rfl, J, dr, rfl⟩
    go_wp2
    go_ret2
    exact ⟨rfl, junk_of_below (by (repeat' (first | (with_reducible exact Below.refl _ _) | (with_reducible assumption) | (with_reducible refine Below.alloc ?_ ?_ _) | (with_reducible refine Below.drew ?_) | (with_reducible refine below_drewN ?_ _) | (with_reducible refine below_plus ?_ ?_ _ _) | (with_reducible refine Below.setCell ?_ ?_ _) | (with_reducible refine Below.setRow ?_ ?_ _) | go_size)))⟩
  by_cases c2 : 200000 < k
  · rw [if_pos (by omega)]
    clear hvv d1
    go_enter Tryd.func20, Tryd.ntmps20
    go_wp2_with fail
    refine (HD.out _).mono ?_; rintro e w' ⟨rfl, J, dr, rfl⟩
    go_wp2
    go_ret2
    exact ⟨rfl, junk_of_below (by (repeat' (first | (with_reducible exact Below.refl _ _) | (with_reducible assumption) | (with_reducible refine Below.alloc ?_ ?_ _) | (with_reducible refine Below.drew ?_) | (with_reducible refine below_drewN ?_ _) | (with_reducible refine below_plus ?_ ?_ _ _) | (with_reducible refine Below.setCell ?_ ?_ _) | (with_reducible refine Below.setRow ?_ ?_ _) | go_size)))⟩
  obtain ⟨s, hs⟩ : ∃ s, 12 * y + m - 1 + k = s := ⟨_, rfl⟩
  have hm31 := (mlen_bd y m y0 y1 m0 m1).2
  have d31 : d ≤ 31 := by omega
  by_cases c3 : s < 12
  · rw [if_pos (by omega)]
    have s1 : -300000 ≤ s := by omega
    clear hvv d1 hm31
    go_enter Tryd.func20, Tryd.ntmps20
    go_wp2_with fail
    refine (HD.out _).mono ?_; rintro e w' ⟨rfl, J, dr, rfl⟩
    go_wp2
    go_ret2
    exact ⟨rfl, junk_of_below (by (repeat' (first | (with_reducible exact Below.refl _ _) | (with_reducible assumption) | (with_reducible refine Below.alloc ?_ ?_ _) | (with_reducible refine Below.drew ?_) | (with_reducible refine below_drewN ?_ _) | (with_reducible refine below_plus ?_ ?_ _ _) | (with_reducible refine Below.setCell ?_ ?_ _) | (with_reducible refine Below.setRow ?_ ?_ _) | go_size)))⟩
  by_cases c4 : 120000 ≤ s
  · rw [if_pos (by omega)]
    clear hvv d1 hm31
    go_enter Tryd.func20, Tryd.ntmps20
    go_wp2_with fail
    refine (HD.out _).mono ?_; rintro e w' ⟨rfl, J, dr, rfl⟩
    go_wp2
    go_ret2
    exact ⟨rfl, junk_of_below (by (repeat' (first | (with_reducible exact Below.refl _ _) | (with_reducible assumption) | (with_reducible refine Below.alloc ?_ ?_ _) | (with_reducible refine Below.drew ?_) | (with_reducible refine below_drewN ?_ _) | (with_reducible refine below_plus ?_ ?_ _ _) | (with_reducible refine Below.setCell ?_ ?_ _) | (with_reducible refine Below.setRow ?_ ?_ _) | go_size)))⟩
  have hc : ¬ (k < -200000 ∨ 200000 < k ∨ 12 * y + m - 1 + k < 12 ∨ 120000 ≤ 12 * y + m - 1 + k) := by omega
  rw [if_neg hc]
  have ha := add_valid hvv hc
  obtain ⟨p, hp⟩ : ∃ p, p = s / 12 := ⟨_, rfl⟩
  obtain ⟨r, hr⟩ : ∃ r, r = s % 12 := ⟨_, rfl⟩
  have e1 : s.tdiv 12 = p := by rw [hp]; exact Int.tdiv_eq_ediv_of_nonneg (by omega)
  have e2 : s.tmod 12 = r := by rw [hr]; exact Int.tmod_eq_emod_of_nonneg (by omega)
  rw [show (12 * y + m - 1 + k) / 12 = p by omega, show (12 * y + m - 1 + k) % 12 = r by omega] at ha ⊢
  have hres := day_ok ha
  have HL := Lib.hid (fun w => r_Length p (r + 1) w)
  have p0 : 0 ≤ p := by omega
  have p9 : p ≤ 9999 := by omega
  have r0 : 0 ≤ r := by omega
  have r9 : r ≤ 11 := by omega
  have HG := Lib.hid (fun x w => r_Day p (r + 1) x w)
  have hl31 := mlen_bd p (r + 1) (by omega) (by omega) (by omega) (by omega)
  obtain ⟨l0, l1⟩ := hl31
  generalize mlen p (r + 1) = l at *
  by_cases c5 : d ≤ l
  · rw [Int.min_eq_left c5] at hres ⊢
    have HGd := HG.out d
    rw [hres] at HGd
    have HGd := Lib.hid HGd
    generalize dayOf p (r + 1) d = x at *
    clear hvv d1 hm31 hp hr ha hres hc HG
    go_enter Tryd.func20, Tryd.ntmps20
    go_wp2_with fail
    refine (HD.out _).mono ?_; rintro e w' ⟨rfl, J, dr, rfl⟩
    go_wp2_with fail
    go_quiet (first | (refine Calls.quiet_of_same ((HL.out _).mono (fun _ _ h => ⟨h.1, h.2.symm⟩))) | (refine Calls.quiet_of_same ((HGd.out _).mono (fun _ _ h => ⟨h.1, h.2.symm⟩))))
    go_wp2
    go_ret2
    exact ⟨rfl, junk_of_below (by (repeat' (first | (with_reducible exact Below.refl _ _) | (with_reducible assumption) | (with_reducible refine Below.alloc ?_ ?_ _) | (with_reducible refine Below.drew ?_) | (with_reducible refine below_drewN ?_ _) | (with_reducible refine below_plus ?_ ?_ _ _) | (with_reducible refine Below.setCell ?_ ?_ _) | (with_reducible refine Below.setRow ?_ ?_ _) | go_size)))⟩
  · rw [Int.min_eq_right (by omega)] at hres ⊢
    have HGd := HG.out l
    rw [hres] at HGd
    have HGd := Lib.hid HGd
    generalize dayOf p (r + 1) l = x at *
    clear hvv d1 hm31 hp hr ha hres hc HG
    go_enter Tryd.func20, Tryd.ntmps20
    go_wp2_with fail
    refine (HD.out _).mono ?_; rintro e w' ⟨rfl, J, dr, rfl⟩
    go_wp2_with fail
    go_quiet (first | (refine Calls.quiet_of_same ((HL.out _).mono (fun _ _ h => ⟨h.1, h.2.symm⟩))) | (refine Calls.quiet_of_same ((HGd.out _).mono (fun _ _ h => ⟨h.1, h.2.symm⟩))))
    go_wp2
    go_ret2
    exact ⟨rfl, junk_of_below (by (repeat' (first | (with_reducible exact Below.refl _ _) | (with_reducible assumption) | (with_reducible refine Below.alloc ?_ ?_ _) | (with_reducible refine Below.drew ?_) | (with_reducible refine below_drewN ?_ _) | (with_reducible refine below_plus ?_ ?_ _ _) | (with_reducible refine Below.setCell ?_ ?_ _) | (with_reducible refine Below.setRow ?_ ?_ _) | go_size)))⟩
end Go.Proofs.YtpfaalpbfdphaaaDoor

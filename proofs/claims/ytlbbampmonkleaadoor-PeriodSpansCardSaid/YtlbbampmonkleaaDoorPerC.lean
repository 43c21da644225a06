/- Contracts of First, Last, Of, of period and of apportionref04. Condition: civil's table is as laid. -/
import Derived.Test.YtlbbampmonkleaaDoorPerB
namespace Go.Proofs.YtlbbampmonkleaaDoor
set_option linter.unusedVariables false
set_option linter.unusedSimpArgs false
open Go.RowKit

/-- The year and the month of the month with a number. -/
def yOf (n : Int) : Int := n / 12 + 1
def mOf (n : Int) : Int := n % 12 + 1
def firstRes (k p : Int) : Int × Int := if (spanRes k p).2 = 0 then dayRes (yOf (p * mon k)) (mOf (p * mon k)) 1 else (0, (spanRes k p).2)
def lastRes (k p : Int) : Int × Int := if (spanRes k p).2 = 0 then dayRes (yOf (p * mon k + (mon k - 1))) (mOf (p * mon k + (mon k - 1))) (mlen (yOf (p * mon k + (mon k - 1))) (mOf (p * mon k + (mon k - 1)))) else (0, (spanRes k p).2)

theorem span_bad {k p : Int} (h : ¬ InCal k p) : (spanRes k p).2 ≠ 0 := fun h' => h ((inCal_iff k p).2 h')

set_option maxHeartbeats 1000000 in
theorem n_First (k p : Int) (w : World) (ht : CTab w) : Calls Tryd.prog 11 #[.int .i64 k, .int .i64 p] w fun e w' => e = .returned (.tuple #[.int .i64 (firstRes k p).1, .int .i64 (firstRes k p).2]) ∧ Junk w w' := by
  have HS := Lib.hid (n_spanOf k p)
  have HT := Lib.hid ht
  unfold firstRes
  by_cases h : InCal k p
  · rw [if_pos ((inCal_iff k p).1 h)]
    rw [span_ok h] at HS
    obtain ⟨p0, s0, s1, s2, p1⟩ := inCal_bd h
    obtain ⟨_, _, _, _, _, _, m1, m2⟩ := mon_facts h.1
    generalize mon k = m at *
    have HN := Lib.hid (n_month k m p 0 (p * m) (by omega) p0 (by omega) s0 (by omega))
    have HD := Lib.hid (n_Day (yOf (p * m)) (mOf (p * m)) 1)
    unfold yOf mOf at *
    generalize dayRes (p * m / 12 + 1) (p * m % 12 + 1) 1 = r at *
    generalize p * m / 12 + 1 = y at *
    generalize p * m % 12 + 1 = mm at *
    clear h s0 s1 s2
    go_enter Tryd.func11, Tryd.ntmps11
    go_wp2_with fail
    refine (HS.out _).mono ?_; rintro e w' ⟨rfl, J, dr, rfl⟩
    go_wp2_with fail
    refine (HN.out _).mono ?_; rintro e w' ⟨rfl, J2, dr2, rfl⟩
    go_wp2_with fail
    refine (HD.out _ (HT.out.below (by (repeat' (first | (with_reducible exact Below.refl _ _) | (with_reducible assumption) | (with_reducible refine Below.alloc ?_ ?_ _) | (with_reducible refine Below.drew ?_) | (with_reducible refine below_drewN ?_ _) | (with_reducible refine below_plus ?_ ?_ _ _) | (with_reducible refine Below.setCell ?_ ?_ _) | (with_reducible refine Below.setRow ?_ ?_ _) | go_size))))).mono ?_; rintro e w' ⟨rfl, rfl⟩
    go_wp2
    go_ret2
    exact ⟨rfl, junk_of_below (by (repeat' (first | (with_reducible exact Below.refl _ _) | (with_reducible assumption) | (with_reducible refine Below.alloc ?_ ?_ _) | (with_reducible refine Below.drew ?_) | (with_reducible refine below_drewN ?_ _) | (with_reducible refine below_plus ?_ ?_ _ _) | (with_reducible refine Below.setCell ?_ ?_ _) | (with_reducible refine Below.setRow ?_ ?_ _) | go_size)))⟩
  · have hb := span_bad h
    rw [if_neg hb]
    have e1 : ((spanRes k p).2 != 0) = true := bne_iff_ne.2 hb
    clear h hb
    generalize spanRes k p = s at *
    obtain ⟨⟨a, b, c⟩, e⟩ := s
    go_enter Tryd.func11, Tryd.ntmps11
    go_wp2_with fail
    refine (HS.out _).mono ?_; rintro e w' ⟨rfl, J, dr, rfl⟩
    go_wp2
    go_ret2
    exact ⟨rfl, junk_of_below (by (repeat' (first | (with_reducible exact Below.refl _ _) | (with_reducible assumption) | (with_reducible refine Below.alloc ?_ ?_ _) | (with_reducible refine Below.drew ?_) | (with_reducible refine below_drewN ?_ _) | (with_reducible refine below_plus ?_ ?_ _ _) | (with_reducible refine Below.setCell ?_ ?_ _) | (with_reducible refine Below.setRow ?_ ?_ _) | go_size)))⟩

set_option maxHeartbeats 1000000 in
theorem n_Last (k p : Int) (w : World) (ht : CTab w) : Calls Tryd.prog 13 #[.int .i64 k, .int .i64 p] w fun e w' => e = .returned (.tuple #[.int .i64 (lastRes k p).1, .int .i64 (lastRes k p).2]) ∧ Junk w w' := by
  have HS := Lib.hid (n_spanOf k p)
  have HT := Lib.hid ht
  unfold lastRes
  by_cases h : InCal k p
  · rw [if_pos ((inCal_iff k p).1 h)]
    rw [span_ok h] at HS
    obtain ⟨p0, s0, s1, s2, p1⟩ := inCal_bd h
    obtain ⟨_, _, _, _, _, _, m1, m2⟩ := mon_facts h.1
    generalize mon k = m at *
    have HN := Lib.hid (n_month k m p (m - 1) (p * m + (m - 1)) rfl p0 (by omega) s0 (by omega))
    generalize p * m + (m - 1) = n at *
    have HL := Lib.hid (n_Length (yOf n) (mOf n))
    have HD := Lib.hid (n_Day (yOf n) (mOf n) (mlen (yOf n) (mOf n)))
    unfold yOf mOf at *
    generalize dayRes (n / 12 + 1) (n % 12 + 1) (mlen (n / 12 + 1) (n % 12 + 1)) = r at *
    generalize mlen (n / 12 + 1) (n % 12 + 1) = l at *
    generalize n / 12 + 1 = y at *
    generalize n % 12 + 1 = mm at *
    clear h s0 s1 s2
    go_enter Tryd.func13, Tryd.ntmps13
    go_wp2_with fail
    refine (HS.out _).mono ?_; rintro e w' ⟨rfl, J, dr, rfl⟩
    go_wp2_with fail
    refine (HN.out _).mono ?_; rintro e w' ⟨rfl, J2, dr2, rfl⟩
    go_wp2_with fail
    refine (HL.out _ (HT.out.below (by (repeat' (first | (with_reducible exact Below.refl _ _) | (with_reducible assumption) | (with_reducible refine Below.alloc ?_ ?_ _) | (with_reducible refine Below.drew ?_) | (with_reducible refine below_drewN ?_ _) | (with_reducible refine below_plus ?_ ?_ _ _) | (with_reducible refine Below.setCell ?_ ?_ _) | (with_reducible refine Below.setRow ?_ ?_ _) | go_size))))).mono ?_; rintro e w' ⟨rfl, rfl⟩
    go_wp2_with fail
    refine (HD.out _ (HT.out.below (by (repeat' (first | (with_reducible exact Below.refl _ _) | (with_reducible assumption) | (with_reducible refine Below.alloc ?_ ?_ _) | (with_reducible refine Below.drew ?_) | (with_reducible refine below_drewN ?_ _) | (with_reducible refine below_plus ?_ ?_ _ _) | (with_reducible refine Below.setCell ?_ ?_ _) | (with_reducible refine Below.setRow ?_ ?_ _) | go_size))))).mono ?_; rintro e w' ⟨rfl, rfl⟩
    go_wp2
    go_ret2
    exact ⟨rfl, junk_of_below (by (repeat' (first | (with_reducible exact Below.refl _ _) | (with_reducible assumption) | (with_reducible refine Below.alloc ?_ ?_ _) | (with_reducible refine Below.drew ?_) | (with_reducible refine below_drewN ?_ _) | (with_reducible refine below_plus ?_ ?_ _ _) | (with_reducible refine Below.setCell ?_ ?_ _) | (with_reducible refine Below.setRow ?_ ?_ _) | go_size)))⟩
  · have hb := span_bad h
    rw [if_neg hb]
    have e1 : ((spanRes k p).2 != 0) = true := bne_iff_ne.2 hb
    clear h hb
    generalize spanRes k p = s at *
    obtain ⟨⟨a, b, c⟩, e⟩ := s
    go_enter Tryd.func13, Tryd.ntmps13
    go_wp2_with fail
    refine (HS.out _).mono ?_; rintro e w' ⟨rfl, J, dr, rfl⟩
    go_wp2
    go_ret2
    exact ⟨rfl, junk_of_below (by (repeat' (first | (with_reducible exact Below.refl _ _) | (with_reducible assumption) | (with_reducible refine Below.alloc ?_ ?_ _) | (with_reducible refine Below.drew ?_) | (with_reducible refine below_drewN ?_ _) | (with_reducible refine below_plus ?_ ?_ _ _) | (with_reducible refine Below.setCell ?_ ?_ _) | (with_reducible refine Below.setRow ?_ ?_ _) | go_size)))⟩

set_option maxHeartbeats 1000000 in
theorem r_First (k p : Int) (w : World) : Calls Tryd.prog 12 #[.int .i64 k, .int .i64 p] w fun e w' => e = .returned (.tuple #[.int .i64 (firstRes k p).1, .int .i64 (firstRes k p).2]) ∧ w = w' := by
  have HS := r_begins k p
  unfold firstRes
  by_cases h : InCal k p
  · have h' := (inCal_iff k p).1 h
    rw [if_pos h']
    rw [if_pos h', if_pos h', h'] at HS
    have HS := Lib.hid HS
    have HD := Lib.hid (r_Day (yOf (p * mon k)) (mOf (p * mon k)) 1)
    unfold yOf mOf at *
    generalize dayRes (p * mon k / 12 + 1) (p * mon k % 12 + 1) 1 = r at *
    generalize p * mon k / 12 + 1 = y at *
    generalize p * mon k % 12 + 1 = mm at *
    clear h h'
    go_enter Tryd.func12, Tryd.ntmps12
    go_wp2_with fail
    refine (HS.out _).mono ?_; rintro e w' ⟨rfl, rfl⟩
    go_wp2_with fail
    refine (HD.out _).mono ?_; rintro e w' ⟨rfl, rfl⟩
    go_wp2
    go_ret2
    exact ⟨rfl, rfl⟩
  · have hb := span_bad h
    rw [if_neg hb]
    rw [if_neg hb, if_neg hb] at HS
    have HS := Lib.hid HS
    have e1 : ((spanRes k p).2 != 0) = true := bne_iff_ne.2 hb
    clear h hb
    generalize (spanRes k p).2 = e at *
    go_enter Tryd.func12, Tryd.ntmps12
    go_wp2_with fail
    refine (HS.out _).mono ?_; rintro e w' ⟨rfl, rfl⟩
    go_wp2
    go_ret2
    exact ⟨rfl, rfl⟩

theorem month_last {p m : Int} (h0 : 0 ≤ p * m) (m1 : 1 ≤ m) (h : (p * m) % 12 + m ≤ 12) : yOf (p * m + (m - 1)) = p * m / 12 + 1 ∧ mOf (p * m + (m - 1)) = p * m % 12 + 1 + m - 1 := by
  unfold yOf mOf
  generalize p * m = s at *
  omega

set_option maxHeartbeats 1000000 in
theorem r_Last (k p : Int) (w : World) : Calls Tryd.prog 14 #[.int .i64 k, .int .i64 p] w fun e w' => e = .returned (.tuple #[.int .i64 (lastRes k p).1, .int .i64 (lastRes k p).2]) ∧ w = w' := by
  have HS := r_begins k p
  have HM := Lib.hid (r_months k)
  unfold lastRes
  by_cases h : InCal k p
  · have h' := (inCal_iff k p).1 h
    rw [if_pos h']
    rw [if_pos h', if_pos h', h'] at HS
    have HS := Lib.hid HS
    obtain ⟨p0, s0, s1, s2, p1⟩ := inCal_bd h
    obtain ⟨_, _, _, _, _, _, m1, m2⟩ := mon_facts h.1
    obtain ⟨a1, a2⟩ := month_last s0 m1 s2
    rw [a1, a2]
    clear a1 a2
    have HL := Lib.hid (r_Length (p * mon k / 12 + 1) (p * mon k % 12 + 1 + mon k - 1))
    have HD := Lib.hid (r_Day (p * mon k / 12 + 1) (p * mon k % 12 + 1 + mon k - 1) (mlen (p * mon k / 12 + 1) (p * mon k % 12 + 1 + mon k - 1)))
    have b0 : 1 ≤ p * mon k % 12 + 1 := by omega
    have b1 : p * mon k % 12 + 1 ≤ 12 := by omega
    generalize mon k = m at *
    generalize p * m / 12 + 1 = y at *
    generalize hb : p * m % 12 + 1 = b at *
    obtain ⟨mm, hmm⟩ : ∃ mm, b + m - 1 = mm := ⟨_, rfl⟩
    rw [hmm] at HL HD ⊢
    generalize dayRes y mm (mlen y mm) = r at *
    generalize mlen y mm = l at *
    clear h h' hb s0 s1 s2
    go_enter Tryd.func14, Tryd.ntmps14
    go_wp2_with fail
    refine (HS.out _).mono ?_; rintro e w' ⟨rfl, rfl⟩
    go_wp2_with fail
    refine (HM.out _).mono ?_; rintro e w' ⟨rfl, rfl⟩
    go_wp2_with fail
    refine (HL.out _).mono ?_; rintro e w' ⟨rfl, rfl⟩
    go_wp2_with fail
    refine (HD.out _).mono ?_; rintro e w' ⟨rfl, rfl⟩
    go_wp2
    go_ret2
    exact ⟨rfl, rfl⟩
  · have hb := span_bad h
    rw [if_neg hb]
    rw [if_neg hb, if_neg hb] at HS
    have HS := Lib.hid HS
    have e1 : ((spanRes k p).2 != 0) = true := bne_iff_ne.2 hb
    clear h hb
    generalize (spanRes k p).2 = e at *
    go_enter Tryd.func14, Tryd.ntmps14
    go_wp2_with fail
    refine (HS.out _).mono ?_; rintro e w' ⟨rfl, rfl⟩
    go_wp2
    go_ret2
    exact ⟨rfl, rfl⟩
end Go.Proofs.YtlbbampmonkleaaDoor

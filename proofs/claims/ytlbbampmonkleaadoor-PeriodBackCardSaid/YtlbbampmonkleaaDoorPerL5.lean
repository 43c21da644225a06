/- The law PeriodBack. Condition: civil's and strconv's tables are as laid. -/
import Derived.Test.YtlbbampmonkleaaDoorPerN2
namespace Go.Proofs.YtlbbampmonkleaaDoor
set_option linter.unusedVariables false
set_option linter.unusedSimpArgs false
open Go.RowKit

set_option maxHeartbeats 4000000 in
theorem l_back (k n : Int) (L : List UInt8) (w : World) (ht : Tabs w) : Calls Tryd.prog 7 #[.int .i64 k, .int .i64 n, .string ⟨L.toArray⟩] w fun e w' => e = .returned (.bool true) ∧ Below w.heap.size w w' := by
  have HT := Lib.hid ht
  have HA := Lib.hid awake_ok
  have F1 := n_First k n
  by_cases hI : InCal k n
  · obtain ⟨_, s0, s1, _, _⟩ := inCal_bd hI
    have hy : (((n * mon k / 12 + 1).toNat : Nat) : Int) = n * mon k / 12 + 1 := by omega
    have hm : (((n * mon k % 12 + 1).toNat : Nat) : Int) = n * mon k % 12 + 1 := by omega
    obtain ⟨hp, hpl⟩ := text_parse hI hy hm
    have O1 := n_Text k n hI _ _ hy hm
    generalize tx k (n * mon k / 12 + 1).toNat (n * mon k % 12 + 1).toNat = T at *
    have O1 := Lib.hid O1
    have P1 := Lib.hid (parse_at T (by omega) k n 0 0 hp)
    rw [first_ok hI] at F1
    generalize mday (n * mon k) = v at *
    have F1 := Lib.hid F1
    clear hy hm hp s0 s1 hI ht
    by_cases hl : 100 < L.length
    · skip
      go_enter Tryd.func7, Tryd.ntmps7
      go_wp2_with fail
      refine (HA.out _ HT.out).mono ?_; rintro e w' ⟨rfl, J, dr, rfl⟩
      go_wp2_with fail
      refine (O1.out _ (HT.out.below (by (repeat' (first | (with_reducible exact Below.refl _ _) | (with_reducible assumption) | (with_reducible refine Below.alloc ?_ ?_ _) | (with_reducible refine Below.drew ?_) | (with_reducible refine below_drewN ?_ _) | (with_reducible refine below_plus ?_ ?_ _ _) | (with_reducible refine Below.setCell ?_ ?_ _) | (with_reducible refine Below.setRow ?_ ?_ _) | go_size)))).2).mono ?_; rintro e w' ⟨rfl, J2, dr2, rfl⟩
      go_wp2_with fail
      refine (F1.out _ (HT.out.below (by (repeat' (first | (with_reducible exact Below.refl _ _) | (with_reducible assumption) | (with_reducible refine Below.alloc ?_ ?_ _) | (with_reducible refine Below.drew ?_) | (with_reducible refine below_drewN ?_ _) | (with_reducible refine below_plus ?_ ?_ _ _) | (with_reducible refine Below.setCell ?_ ?_ _) | (with_reducible refine Below.setRow ?_ ?_ _) | go_size)))).1).mono ?_; rintro e w' ⟨rfl, J3, dr3, rfl⟩
      go_wp2_with fail
      refine (P1.out _).mono ?_; rintro e w' ⟨rfl, J4, dr4, rfl⟩
      go_wp2
      go_ret
      exact ⟨by first | (simp; done) | (simp [*]; done) | (simp; omega), by (repeat' (first | (with_reducible exact Below.refl _ _) | (with_reducible assumption) | (with_reducible refine Below.alloc ?_ ?_ _) | (with_reducible refine Below.drew ?_) | (with_reducible refine below_drewN ?_ _) | (with_reducible refine below_plus ?_ ?_ _ _) | (with_reducible refine Below.setCell ?_ ?_ _) | (with_reducible refine Below.setRow ?_ ?_ _) | go_size))⟩
    obtain ⟨⟨a, b, e, d⟩, hr⟩ : ∃ r, parseP L = r := ⟨_, rfl⟩
    have P2 := Lib.hid (parse_at L (by omega) a b e d hr)
    rcases parse_text hr with ⟨e1, rfl, rfl, d0, d1⟩ | ⟨rfl, hi, y, m, hy, hm, hT⟩
    · have e2 : (e != 0) = true := bne_iff_ne.2 e1
      clear hr e1
      go_enter Tryd.func7, Tryd.ntmps7
      go_wp2_with fail
      refine (HA.out _ HT.out).mono ?_; rintro e w' ⟨rfl, J, dr, rfl⟩
      go_wp2_with fail
      refine (O1.out _ (HT.out.below (by (repeat' (first | (with_reducible exact Below.refl _ _) | (with_reducible assumption) | (with_reducible refine Below.alloc ?_ ?_ _) | (with_reducible refine Below.drew ?_) | (with_reducible refine below_drewN ?_ _) | (with_reducible refine below_plus ?_ ?_ _ _) | (with_reducible refine Below.setCell ?_ ?_ _) | (with_reducible refine Below.setRow ?_ ?_ _) | go_size)))).2).mono ?_; rintro e w' ⟨rfl, J2, dr2, rfl⟩
      go_wp2_with fail
      refine (F1.out _ (HT.out.below (by (repeat' (first | (with_reducible exact Below.refl _ _) | (with_reducible assumption) | (with_reducible refine Below.alloc ?_ ?_ _) | (with_reducible refine Below.drew ?_) | (with_reducible refine below_drewN ?_ _) | (with_reducible refine below_plus ?_ ?_ _ _) | (with_reducible refine Below.setCell ?_ ?_ _) | (with_reducible refine Below.setRow ?_ ?_ _) | go_size)))).1).mono ?_; rintro e w' ⟨rfl, J3, dr3, rfl⟩
      go_wp2_with fail
      refine (P1.out _).mono ?_; rintro e w' ⟨rfl, J4, dr4, rfl⟩
      go_wp2_with fail
      refine (P2.out _).mono ?_; rintro e w' ⟨rfl, J5, dr5, rfl⟩
      go_wp2
      go_ret
      exact ⟨by first | (simp; done) | (simp [*]; done) | (simp; omega), by (repeat' (first | (with_reducible exact Below.refl _ _) | (with_reducible assumption) | (with_reducible refine Below.alloc ?_ ?_ _) | (with_reducible refine Below.drew ?_) | (with_reducible refine below_drewN ?_ _) | (with_reducible refine below_plus ?_ ?_ _ _) | (with_reducible refine Below.setCell ?_ ?_ _) | (with_reducible refine Below.setRow ?_ ?_ _) | go_size))⟩
    · have T2 := Lib.hid (l_text a b _ (Lib.hid (text_at a b y m L hi hy hm hT)))
      clear hr hi hy hm hT
      go_enter Tryd.func7, Tryd.ntmps7
      go_wp2_with fail
      refine (HA.out _ HT.out).mono ?_; rintro e w' ⟨rfl, J, dr, rfl⟩
      go_wp2_with fail
      refine (O1.out _ (HT.out.below (by (repeat' (first | (with_reducible exact Below.refl _ _) | (with_reducible assumption) | (with_reducible refine Below.alloc ?_ ?_ _) | (with_reducible refine Below.drew ?_) | (with_reducible refine below_drewN ?_ _) | (with_reducible refine below_plus ?_ ?_ _ _) | (with_reducible refine Below.setCell ?_ ?_ _) | (with_reducible refine Below.setRow ?_ ?_ _) | go_size)))).2).mono ?_; rintro e w' ⟨rfl, J2, dr2, rfl⟩
      go_wp2_with fail
      refine (F1.out _ (HT.out.below (by (repeat' (first | (with_reducible exact Below.refl _ _) | (with_reducible assumption) | (with_reducible refine Below.alloc ?_ ?_ _) | (with_reducible refine Below.drew ?_) | (with_reducible refine below_drewN ?_ _) | (with_reducible refine below_plus ?_ ?_ _ _) | (with_reducible refine Below.setCell ?_ ?_ _) | (with_reducible refine Below.setRow ?_ ?_ _) | go_size)))).1).mono ?_; rintro e w' ⟨rfl, J3, dr3, rfl⟩
      go_wp2_with fail
      refine (P1.out _).mono ?_; rintro e w' ⟨rfl, J4, dr4, rfl⟩
      go_wp2_with fail
      refine (P2.out _).mono ?_; rintro e w' ⟨rfl, J5, dr5, rfl⟩
      go_wp2_with fail
      refine (T2.out _ (HT.out.below (by (repeat' (first | (with_reducible exact Below.refl _ _) | (with_reducible assumption) | (with_reducible refine Below.alloc ?_ ?_ _) | (with_reducible refine Below.drew ?_) | (with_reducible refine below_drewN ?_ _) | (with_reducible refine below_plus ?_ ?_ _ _) | (with_reducible refine Below.setCell ?_ ?_ _) | (with_reducible refine Below.setRow ?_ ?_ _) | go_size))))).mono ?_; rintro e w' ⟨rfl, J6, dr6, rfl⟩
      go_wp2
      go_ret
      exact ⟨by first | (simp; done) | (simp [*]; done) | (simp; omega), by (repeat' (first | (with_reducible exact Below.refl _ _) | (with_reducible assumption) | (with_reducible refine Below.alloc ?_ ?_ _) | (with_reducible refine Below.drew ?_) | (with_reducible refine below_drewN ?_ _) | (with_reducible refine below_plus ?_ ?_ _ _) | (with_reducible refine Below.setCell ?_ ?_ _) | (with_reducible refine Below.setRow ?_ ?_ _) | go_size))⟩
  · have O1 := Lib.hid (n_Text_bad k n hI)
    have hb := span_bad hI
    rw [show firstRes k n = (0, (spanRes k n).2) from if_neg hb] at F1
    have F1 := Lib.hid F1
    have e0 : ((spanRes k n).2 == 0) = false := beq_eq_false_iff_ne.2 hb
    generalize (spanRes k n).2 = z at *
    clear hb hI ht
    by_cases hl : 100 < L.length
    · skip
      go_enter Tryd.func7, Tryd.ntmps7
      go_wp2_with fail
      refine (HA.out _ HT.out).mono ?_; rintro e w' ⟨rfl, J, dr, rfl⟩
      go_wp2_with fail
      refine (O1.out _).mono ?_; rintro e w' ⟨rfl, J2, dr2, rfl⟩
      go_wp2_with fail
      refine (F1.out _ (HT.out.below (by (repeat' (first | (with_reducible exact Below.refl _ _) | (with_reducible assumption) | (with_reducible refine Below.alloc ?_ ?_ _) | (with_reducible refine Below.drew ?_) | (with_reducible refine below_drewN ?_ _) | (with_reducible refine below_plus ?_ ?_ _ _) | (with_reducible refine Below.setCell ?_ ?_ _) | (with_reducible refine Below.setRow ?_ ?_ _) | go_size)))).1).mono ?_; rintro e w' ⟨rfl, J3, dr3, rfl⟩
      go_wp2
      go_ret
      exact ⟨by first | (simp; done) | (simp [*]; done) | (simp; omega), by (repeat' (first | (with_reducible exact Below.refl _ _) | (with_reducible assumption) | (with_reducible refine Below.alloc ?_ ?_ _) | (with_reducible refine Below.drew ?_) | (with_reducible refine below_drewN ?_ _) | (with_reducible refine below_plus ?_ ?_ _ _) | (with_reducible refine Below.setCell ?_ ?_ _) | (with_reducible refine Below.setRow ?_ ?_ _) | go_size))⟩
    obtain ⟨⟨a, b, e, d⟩, hr⟩ : ∃ r, parseP L = r := ⟨_, rfl⟩
    have P2 := Lib.hid (parse_at L (by omega) a b e d hr)
    rcases parse_text hr with ⟨e1, rfl, rfl, d0, d1⟩ | ⟨rfl, hi, y, m, hy, hm, hT⟩
    · have e2 : (e != 0) = true := bne_iff_ne.2 e1
      clear hr e1
      go_enter Tryd.func7, Tryd.ntmps7
      go_wp2_with fail
      refine (HA.out _ HT.out).mono ?_; rintro e w' ⟨rfl, J, dr, rfl⟩
      go_wp2_with fail
      refine (O1.out _).mono ?_; rintro e w' ⟨rfl, J2, dr2, rfl⟩
      go_wp2_with fail
      refine (F1.out _ (HT.out.below (by (repeat' (first | (with_reducible exact Below.refl _ _) | (with_reducible assumption) | (with_reducible refine Below.alloc ?_ ?_ _) | (with_reducible refine Below.drew ?_) | (with_reducible refine below_drewN ?_ _) | (with_reducible refine below_plus ?_ ?_ _ _) | (with_reducible refine Below.setCell ?_ ?_ _) | (with_reducible refine Below.setRow ?_ ?_ _) | go_size)))).1).mono ?_; rintro e w' ⟨rfl, J3, dr3, rfl⟩
      go_wp2_with fail
      refine (P2.out _).mono ?_; rintro e w' ⟨rfl, J5, dr5, rfl⟩
      go_wp2
      go_ret
      exact ⟨by first | (simp; done) | (simp [*]; done) | (simp; omega), by (repeat' (first | (with_reducible exact Below.refl _ _) | (with_reducible assumption) | (with_reducible refine Below.alloc ?_ ?_ _) | (with_reducible refine Below.drew ?_) | (with_reducible refine below_drewN ?_ _) | (with_reducible refine below_plus ?_ ?_ _ _) | (with_reducible refine Below.setCell ?_ ?_ _) | (with_reducible refine Below.setRow ?_ ?_ _) | go_size))⟩
    · have T2 := Lib.hid (l_text a b _ (Lib.hid (text_at a b y m L hi hy hm hT)))
      clear hr hi hy hm hT
      go_enter Tryd.func7, Tryd.ntmps7
      go_wp2_with fail
      refine (HA.out _ HT.out).mono ?_; rintro e w' ⟨rfl, J, dr, rfl⟩
      go_wp2_with fail
      refine (O1.out _).mono ?_; rintro e w' ⟨rfl, J2, dr2, rfl⟩
      go_wp2_with fail
      refine (F1.out _ (HT.out.below (by (repeat' (first | (with_reducible exact Below.refl _ _) | (with_reducible assumption) | (with_reducible refine Below.alloc ?_ ?_ _) | (with_reducible refine Below.drew ?_) | (with_reducible refine below_drewN ?_ _) | (with_reducible refine below_plus ?_ ?_ _ _) | (with_reducible refine Below.setCell ?_ ?_ _) | (with_reducible refine Below.setRow ?_ ?_ _) | go_size)))).1).mono ?_; rintro e w' ⟨rfl, J3, dr3, rfl⟩
      go_wp2_with fail
      refine (P2.out _).mono ?_; rintro e w' ⟨rfl, J5, dr5, rfl⟩
      go_wp2_with fail
      refine (T2.out _ (HT.out.below (by (repeat' (first | (with_reducible exact Below.refl _ _) | (with_reducible assumption) | (with_reducible refine Below.alloc ?_ ?_ _) | (with_reducible refine Below.drew ?_) | (with_reducible refine below_drewN ?_ _) | (with_reducible refine below_plus ?_ ?_ _ _) | (with_reducible refine Below.setCell ?_ ?_ _) | (with_reducible refine Below.setRow ?_ ?_ _) | go_size))))).mono ?_; rintro e w' ⟨rfl, J6, dr6, rfl⟩
      go_wp2
      go_ret
      exact ⟨by first | (simp; done) | (simp [*]; done) | (simp; omega), by (repeat' (first | (with_reducible exact Below.refl _ _) | (with_reducible assumption) | (with_reducible refine Below.alloc ?_ ?_ _) | (with_reducible refine Below.drew ?_) | (with_reducible refine below_drewN ?_ _) | (with_reducible refine below_plus ?_ ?_ _ _) | (with_reducible refine Below.setCell ?_ ?_ _) | (with_reducible refine Below.setRow ?_ ?_ _) | go_size))⟩
end Go.Proofs.YtlbbampmonkleaaDoor

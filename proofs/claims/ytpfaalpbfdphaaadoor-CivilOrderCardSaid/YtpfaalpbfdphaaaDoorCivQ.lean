/- The law CivilOrder. Condition: civil's table is as laid. -/
import Derived.Test.YtpfaalpbfdphaaaDoorCivO
namespace Go.Proofs.YtpfaalpbfdphaaaDoor
set_option linter.unusedVariables false
set_option linter.unusedSimpArgs false
open Go.RowKit

theorem wk_next (a : Int) (h0 : 0 ≤ a) (h1 : a < 3652058) : ∃ k0 k1 : Int, wkday a = k0 ∧ wkday (a + 1) = k1 ∧ (k1 != k0 % 7 + 1) = false ∧ 0 ≤ k0 ∧ k0 ≤ 7 ∧ 0 ≤ k1 ∧ k1 ≤ 7 := by
  refine ⟨a % 7 + 1, (a + 1) % 7 + 1, if_pos ⟨h0, by omega⟩, if_pos ⟨by omega, by omega⟩, ?_, by omega, by omega, by omega, by omega⟩
  rw [bne_eq_false_iff_eq]; omega

set_option maxRecDepth 100000 in
set_option maxHeartbeats 16000000 in
theorem l_order (a b : Int) (w : World) (ht : CTab w) :
    Calls Tryd.prog 7 #[.int .i64 a, .int .i64 b] w fun e w' => e = .returned (.bool true) ∧ Below w.heap.size w w' := by
  have HT := Lib.hid ht
  have HK := Lib.hid known_ok
  by_cases c1 : a < 0
  · clear ht
    go_enter Tryd.func7, Tryd.ntmps7
    go_wp2_with fail
    refine (HK.out _ HT.out).mono ?_; rintro e_ w_ ⟨rfl, J0, d0, rfl⟩
    go_wp2
    go_ret
    exact ⟨by simp, by (repeat' (first | (with_reducible exact Below.refl _ _) | (with_reducible assumption) | (with_reducible refine Below.alloc ?_ ?_ _) | (with_reducible refine Below.drew ?_) | (with_reducible refine below_drewN ?_ _) | (with_reducible refine below_plus ?_ ?_ _ _) | (with_reducible refine Below.setCell ?_ ?_ _) | (with_reducible refine Below.setRow ?_ ?_ _) | go_size))⟩
  by_cases c2 : b < 0
  · clear ht
    go_enter Tryd.func7, Tryd.ntmps7
    go_wp2_with fail
    refine (HK.out _ HT.out).mono ?_; rintro e_ w_ ⟨rfl, J0, d0, rfl⟩
    go_wp2
    go_ret
    exact ⟨by simp, by (repeat' (first | (with_reducible exact Below.refl _ _) | (with_reducible assumption) | (with_reducible refine Below.alloc ?_ ?_ _) | (with_reducible refine Below.drew ?_) | (with_reducible refine below_drewN ?_ _) | (with_reducible refine below_plus ?_ ?_ _ _) | (with_reducible refine Below.setCell ?_ ?_ _) | (with_reducible refine Below.setRow ?_ ?_ _) | go_size))⟩
  by_cases c3 : 3652058 < a
  · clear ht
    go_enter Tryd.func7, Tryd.ntmps7
    go_wp2_with fail
    refine (HK.out _ HT.out).mono ?_; rintro e_ w_ ⟨rfl, J0, d0, rfl⟩
    go_wp2
    go_ret
    exact ⟨by simp, by (repeat' (first | (with_reducible exact Below.refl _ _) | (with_reducible assumption) | (with_reducible refine Below.alloc ?_ ?_ _) | (with_reducible refine Below.drew ?_) | (with_reducible refine below_drewN ?_ _) | (with_reducible refine below_plus ?_ ?_ _ _) | (with_reducible refine Below.setCell ?_ ?_ _) | (with_reducible refine Below.setRow ?_ ?_ _) | go_size))⟩
  by_cases c4 : 3652058 < b
  · clear ht
    go_enter Tryd.func7, Tryd.ntmps7
    go_wp2_with fail
    refine (HK.out _ HT.out).mono ?_; rintro e_ w_ ⟨rfl, J0, d0, rfl⟩
    go_wp2
    go_ret
    exact ⟨by simp, by (repeat' (first | (with_reducible exact Below.refl _ _) | (with_reducible assumption) | (with_reducible refine Below.alloc ?_ ?_ _) | (with_reducible refine Below.drew ?_) | (with_reducible refine below_drewN ?_ _) | (with_reducible refine below_plus ?_ ?_ _ _) | (with_reducible refine Below.setCell ?_ ?_ _) | (with_reducible refine Below.setRow ?_ ?_ _) | go_size))⟩
  have a0 : 0 ≤ a := by omega
  have a9 : a ≤ 3652058 := by omega
  obtain ⟨y, m, d, hv, he⟩ := date_nat a ⟨a0, a9⟩
  obtain ⟨y', m', d', hv', he'⟩ := date_nat b ⟨by omega, by omega⟩
  have DA := Lib.hid (n_Date a y m d hv he)
  have DB := Lib.hid (n_Date b y' m' d' hv' he')
  have YA := Lib.hid (l_day_ok (show dayRes y m d = (a, 0) by rw [day_ok hv, he]))
  have HLT := Lib.hid (show Later y m d y' m' d' ↔ b < a by rw [later_iff hv hv', he, he'])
  have HGT := Lib.hid (show Later y' m' d' y m d ↔ a < b by rw [later_iff hv' hv, he, he'])
  have HEQ := Lib.hid (show a = b → (y = y' ∧ m = m' ∧ d = d') from fun h => by
    have := date_unique hv hv' (by rw [he, he', h]); omega)
  have HNE := Lib.hid (show (y = y' ∧ m = m' ∧ d = d') → a = b from fun h => by
    obtain ⟨rfl, rfl, rfl⟩ := h; rw [← he, ← he'])
  have HN := Lib.hid (show a < 3652058 → ∃ y2 m2 d2 : Nat, (∀ w, CTab w → Calls Tryd.prog 12 #[.int .i64 (a + 1)] w fun e w' => e = .returned (.tuple #[.agg #[.int .i64 y2, .int .i64 m2, .int .i64 d2], .int .i64 0]) ∧ Junk w w') ∧ ((y2 = y ∧ m2 = m ∧ d2 = d + 1) ∨ (y2 = y ∧ m2 = m + 1 ∧ d2 = 1 ∧ (d : Int) = mlen y m) ∨ (y2 = y + 1 ∧ m2 = 1 ∧ d2 = 1 ∧ m = 12 ∧ d = 31)) from fun h => by
    obtain ⟨y2, m2, d2, hv2, he2, hn⟩ := next_date hv (by omega)
    obtain ⟨Y, rfl⟩ : ∃ Y : Nat, y2 = Y := ⟨y2.toNat, by have := hv2.1; omega⟩
    obtain ⟨M, rfl⟩ : ∃ M : Nat, m2 = M := ⟨m2.toNat, by have := hv2.2.2.1; omega⟩
    obtain ⟨D, rfl⟩ : ∃ D : Nat, d2 = D := ⟨d2.toNat, by have := hv2.2.2.2.2.1; omega⟩
    refine ⟨Y, M, D, n_Date (a + 1) Y M D hv2 (by rw [he2, he]), ?_⟩
    unfold Next at hn
    omega)
  have H4 := Lib.hid (show (y : Int) ≤ 9599 → ∀ w, CTab w → Calls Tryd.prog 25 #[.int .i64 (y + 400), .int .i64 m, .int .i64 d, .int .i64 (a + 146097)] w fun e w' => e = .returned (.bool true) ∧ w = w' from fun h => by
    obtain ⟨h1, h2⟩ := day_400 hv h
    exact l_day_ok (by rw [day_ok h1, h2, he]))
  have hy : 1 ≤ (y : Int) ∧ (y : Int) ≤ 9999 := ⟨hv.1, hv.2.1⟩
  have hm : 1 ≤ (m : Int) ∧ (m : Int) ≤ 12 := ⟨hv.2.2.1, hv.2.2.2.1⟩
  have hd : 1 ≤ (d : Int) ∧ (d : Int) ≤ 31 := ⟨hv.2.2.2.2.1, by have := (mlen_bd y m hy.1 hy.2 hm.1 hm.2).2; have := hv.2.2.2.2.2; omega⟩
  have HL := Lib.hid (n_Length y m)
  have HLB := Lib.hid (mlen_bd y m hy.1 hy.2 hm.1 hm.2)
  obtain ⟨y0, y9⟩ := hy
  obtain ⟨m0, m9⟩ := hm
  obtain ⟨dd0, dd9⟩ := hd
  obtain ⟨lat, hlat⟩ : ∃ lat, decide (b < a) = lat := ⟨_, rfl⟩
  clear ht hv hv' he he'
  go_enter Tryd.func7, Tryd.ntmps7
  go_wp2_with fail
  refine (HK.out _ HT.out).mono ?_; rintro e_ w_ ⟨rfl, J0, d0, rfl⟩
  go_wp2_with fail
  refine (DA.out _ (HT.out.below (by (repeat' (first | (with_reducible exact Below.refl _ _) | (with_reducible assumption) | (with_reducible refine Below.alloc ?_ ?_ _) | (with_reducible refine Below.drew ?_) | (with_reducible refine below_drewN ?_ _) | (with_reducible refine below_plus ?_ ?_ _ _) | (with_reducible refine Below.setCell ?_ ?_ _) | (with_reducible refine Below.setRow ?_ ?_ _) | go_size))))).mono ?_; rintro e_ w_ ⟨rfl, J1, d1, rfl⟩
  go_wp2_with fail
  refine (DB.out _ (HT.out.below (by (repeat' (first | (with_reducible exact Below.refl _ _) | (with_reducible assumption) | (with_reducible refine Below.alloc ?_ ?_ _) | (with_reducible refine Below.drew ?_) | (with_reducible refine below_drewN ?_ _) | (with_reducible refine below_plus ?_ ?_ _ _) | (with_reducible refine Below.setCell ?_ ?_ _) | (with_reducible refine Below.setRow ?_ ?_ _) | go_size))))).mono ?_; rintro e_ w_ ⟨rfl, J2, d2, rfl⟩
  go_wp2_with fail
  refine (YA.out _ (HT.out.below (by (repeat' (first | (with_reducible exact Below.refl _ _) | (with_reducible assumption) | (with_reducible refine Below.alloc ?_ ?_ _) | (with_reducible refine Below.drew ?_) | (with_reducible refine below_drewN ?_ _) | (with_reducible refine below_plus ?_ ?_ _ _) | (with_reducible refine Below.setCell ?_ ?_ _) | (with_reducible refine Below.setRow ?_ ?_ _) | go_size))))).mono ?_; rintro e_ w_ ⟨rfl, rfl⟩
  go_upto_region 8 with fail
  go_cut [10] from 57 (fun t wx => t = .bool lat ∧ ((((w.plus (J0 ++ J1) d1).alloc (.cells #[.int .i64 y, .int .i64 m, .int .i64 d] 26)).plus J2 d2).alloc (.cells #[.int .i64 y', .int .i64 m', .int .i64 d'] 26)) = wx)
  case first =>
    have HLAT := Lib.hid hlat
    clear hlat
    have hT : Later y m d y' m' d' → lat = true := fun h => by rw [← HLAT.out]; exact decide_eq_true (HLT.out.1 h)
    have hF : ¬ Later y m d y' m' d' → lat = false := fun h => by rw [← HLAT.out]; exact decide_eq_false (fun g => h (HLT.out.2 g))
    unfold Later at hT hF
    by_cases e1 : y' < y
    · obtain rfl := hT (by omega)
      clear hT hF
      go_wp2_with fail
      go_meet
      case rel => exact ⟨by simp [*], rfl⟩
    by_cases e2 : y = y'
    · subst e2
      by_cases e3 : m' < m
      · obtain rfl := hT (by omega)
        clear hT hF
        go_wp2_with fail
        go_meet
        case rel => exact ⟨by simp [*], rfl⟩
      by_cases e4 : m = m'
      · subst e4
        by_cases e5 : d' < d
        · obtain rfl := hT (by omega)
          clear hT hF
          go_wp2_with fail
          go_meet
          case rel => exact ⟨by simp [*], rfl⟩
        · obtain rfl := hF (by omega)
          clear hT hF
          go_wp2_with fail
          go_meet
          case rel => exact ⟨by simp [*], rfl⟩
      · obtain rfl := hF (by omega)
        have e4' : ((m : Int) == m') = false := by rw [beq_eq_false_iff_ne]; omega
        clear hT hF
        go_wp2_with fail
        go_meet
        case rel => exact ⟨by simp [*], rfl⟩
    · obtain rfl := hF (by omega)
      have e2' : ((y : Int) == y') = false := by rw [beq_eq_false_iff_ne]; omega
      clear hT hF
      go_wp2_with fail
      go_meet
      case rel => exact ⟨by simp [*], rfl⟩
  case rest =>
    obtain ⟨rfl, rfl⟩ := hcut
    go_upto_region 9 with fail
    go_cut [103] from 90 (fun t wx => t = .bool false ∧ ((((w.plus (J0 ++ J1) d1).alloc (.cells #[.int .i64 y, .int .i64 m, .int .i64 d] 26)).plus J2 d2).alloc (.cells #[.int .i64 y', .int .i64 m', .int .i64 d'] 26)) = wx)
    case first =>
      by_cases hab : a = b
      · obtain ⟨rfl, rfl, rfl⟩ := HEQ.out hab
        have e0 : (a == b) = true := by rw [hab]; simp
        clear hab
        go_wp2_with fail
        go_meet
        case rel => exact ⟨by simp [*], rfl⟩
      · have e0 : (a == b) = false := beq_eq_false_iff_ne.2 hab
        have hne : ¬ (y = y' ∧ m = m' ∧ d = d') := fun h => hab (HNE.out h)
        by_cases e2 : y = y'
        · subst e2
          by_cases e4 : m = m'
          · subst e4
            have e5 : ((d : Int) == d') = false := by rw [beq_eq_false_iff_ne]; omega
            clear hab hne
            go_wp2_with fail
            go_meet
            case rel => exact ⟨by simp [*], rfl⟩
          · have e4' : ((m : Int) == m') = false := by rw [beq_eq_false_iff_ne]; omega
            clear hab hne
            go_wp2_with fail
            go_meet
            case rel => exact ⟨by simp [*], rfl⟩
        · have e2' : ((y : Int) == y') = false := by rw [beq_eq_false_iff_ne]; omega
          clear hab hne
          go_wp2_with fail
          go_meet
          case rel => exact ⟨by simp [*], rfl⟩
    case rest =>
      obtain ⟨rfl, rfl⟩ := hcut
      by_cases hl : a < 3652058
      · obtain ⟨y2, m2, d2, hD, hn⟩ := HN.out hl
        have DZ := Lib.hid hD
        have HNX := Lib.hid hn
        obtain ⟨k0, k1, hk0, hk1, hk, k00, k09, k10, k19⟩ := wk_next a a0 hl
        have W0 := Lib.hid (wk_of hk0); have W1 := Lib.hid (wk_of hk1)
        clear hD hn hk0 hk1
        go_wp2_with fail
        refine (DZ.out _ (HT.out.below (by (repeat' (first | (with_reducible exact Below.refl _ _) | (with_reducible assumption) | (with_reducible refine Below.alloc ?_ ?_ _) | (with_reducible refine Below.drew ?_) | (with_reducible refine below_drewN ?_ _) | (with_reducible refine below_plus ?_ ?_ _ _) | (with_reducible refine Below.setCell ?_ ?_ _) | (with_reducible refine Below.setRow ?_ ?_ _) | go_size))))).mono ?_; rintro e_ w_ ⟨rfl, J3, d3, rfl⟩
        go_upto_region 13 with fail
        go_cut [13] from 112 (fun t wx => t = .bool true ∧ ∃ n, ((((((w.plus (J0 ++ J1) d1).alloc (.cells #[.int .i64 y, .int .i64 m, .int .i64 d] 26)).plus J2 d2).alloc (.cells #[.int .i64 y', .int .i64 m', .int .i64 d'] 26)).plus J3 d3).alloc (.cells #[.int .i64 y2, .int .i64 m2, .int .i64 d2] 26)).drewN n = wx)
        case first =>
          have HTW := Lib.hid (show ∀ n, CTab (((((((w.plus (J0 ++ J1) d1).alloc (.cells #[.int .i64 y, .int .i64 m, .int .i64 d] 26)).plus J2 d2).alloc (.cells #[.int .i64 y', .int .i64 m', .int .i64 d'] 26)).plus J3 d3).alloc (.cells #[.int .i64 y2, .int .i64 m2, .int .i64 d2] 26)).drewN n) from fun n => HT.out.below (by (repeat' (first | (with_reducible exact Below.refl _ _) | (with_reducible assumption) | (with_reducible refine Below.alloc ?_ ?_ _) | (with_reducible refine Below.drew ?_) | (with_reducible refine below_drewN ?_ _) | (with_reducible refine below_plus ?_ ?_ _ _) | (with_reducible refine Below.setCell ?_ ?_ _) | (with_reducible refine Below.setRow ?_ ?_ _) | go_size))))
          rcases HNX.out with ⟨h1, h2, h3⟩ | ⟨h1, h2, h3, h4⟩ | ⟨h1, h2, h3, h4, h5⟩
          · subst h1 h2
            have q3 : ((d2 : Int) == (d : Int) + 1) = true := by rw [beq_iff_eq]; omega
            clear h3
            go_quiet (fail)
            go_wp2_with fail
            go_meet
            case rel => exact ⟨by simp [*], _, rfl⟩
          · subst h1
            have q2 : ((m2 : Int) == (m : Int)) = false := by rw [beq_eq_false_iff_ne]; omega
            have q2' : ((m2 : Int) == (m : Int) + 1) = true := by rw [beq_iff_eq]; omega
            have q3 : ((d2 : Int) == 1) = true := by rw [beq_iff_eq]; omega
            obtain ⟨l0, l1⟩ := HLB.out
            generalize mlen y2 m = l at *
            have q4 : ((d : Int) == l) = true := by rw [beq_iff_eq]; exact h4
            clear h2 h3 h4
            go_quiet (refine Calls.quiet_of_same ((HL.out _ (HTW.out _)).mono (fun _ _ h => ⟨h.1, h.2.symm⟩)))
            go_wp2_with fail
            go_meet
            case rel => exact ⟨by simp [*], _, rfl⟩
          · have q1 : ((y2 : Int) == (y : Int)) = false := by rw [beq_eq_false_iff_ne]; omega
            have q1' : ((y2 : Int) == (y : Int) + 1) = true := by rw [beq_iff_eq]; omega
            have q2 : ((m2 : Int) == 1) = true := by rw [beq_iff_eq]; omega
            have q3 : ((d2 : Int) == 1) = true := by rw [beq_iff_eq]; omega
            have q4 : ((m : Int) == 12) = true := by rw [beq_iff_eq]; omega
            have q5 : ((d : Int) == 31) = true := by rw [beq_iff_eq]; omega
            clear h1 h2 h3 h4 h5
            go_quiet (fail)
            go_wp2_with fail
            go_meet
            case rel => exact ⟨by simp [*], _, rfl⟩
        case rest =>
          obtain ⟨rfl, nq, rfl⟩ := hcut
          go_wp2_with fail
          refine (W1.out _).mono ?_; rintro e_ w_ ⟨rfl, rfl⟩
          go_wp2_with fail
          refine (W0.out _).mono ?_; rintro e_ w_ ⟨rfl, rfl⟩
          by_cases h9 : 9599 < (y : Int)
          · go_wp2_with fail
            go_ret
            exact ⟨by simp [*], by (repeat' (first | (with_reducible exact Below.refl _ _) | (with_reducible assumption) | (with_reducible refine Below.alloc ?_ ?_ _) | (with_reducible refine Below.drew ?_) | (with_reducible refine below_drewN ?_ _) | (with_reducible refine below_plus ?_ ?_ _ _) | (with_reducible refine Below.setCell ?_ ?_ _) | (with_reducible refine Below.setRow ?_ ?_ _) | go_size))⟩
          · have H4y := Lib.hid (H4.out (by omega))
            go_wp2_with fail
            refine (H4y.out _ (HT.out.below (by (repeat' (first | (with_reducible exact Below.refl _ _) | (with_reducible assumption) | (with_reducible refine Below.alloc ?_ ?_ _) | (with_reducible refine Below.drew ?_) | (with_reducible refine below_drewN ?_ _) | (with_reducible refine below_plus ?_ ?_ _ _) | (with_reducible refine Below.setCell ?_ ?_ _) | (with_reducible refine Below.setRow ?_ ?_ _) | go_size))))).mono ?_; rintro e_ w_ ⟨rfl, rfl⟩
            go_wp2_with fail
            go_ret
            exact ⟨by simp [*], by (repeat' (first | (with_reducible exact Below.refl _ _) | (with_reducible assumption) | (with_reducible refine Below.alloc ?_ ?_ _) | (with_reducible refine Below.drew ?_) | (with_reducible refine below_drewN ?_ _) | (with_reducible refine below_plus ?_ ?_ _ _) | (with_reducible refine Below.setCell ?_ ?_ _) | (with_reducible refine Below.setRow ?_ ?_ _) | go_size))⟩
      · have hl2 : ¬ a < 3652058 := hl
        by_cases h9 : 9599 < (y : Int)
        · go_wp2_with fail
          go_ret
          exact ⟨by simp [*], by (repeat' (first | (with_reducible exact Below.refl _ _) | (with_reducible assumption) | (with_reducible refine Below.alloc ?_ ?_ _) | (with_reducible refine Below.drew ?_) | (with_reducible refine below_drewN ?_ _) | (with_reducible refine below_plus ?_ ?_ _ _) | (with_reducible refine Below.setCell ?_ ?_ _) | (with_reducible refine Below.setRow ?_ ?_ _) | go_size))⟩
        · have H4y := Lib.hid (H4.out (by omega))
          go_wp2_with fail
          refine (H4y.out _ (HT.out.below (by (repeat' (first | (with_reducible exact Below.refl _ _) | (with_reducible assumption) | (with_reducible refine Below.alloc ?_ ?_ _) | (with_reducible refine Below.drew ?_) | (with_reducible refine below_drewN ?_ _) | (with_reducible refine below_plus ?_ ?_ _ _) | (with_reducible refine Below.setCell ?_ ?_ _) | (with_reducible refine Below.setRow ?_ ?_ _) | go_size))))).mono ?_; rintro e_ w_ ⟨rfl, rfl⟩
          go_wp2_with fail
          go_ret
          exact ⟨by simp [*], by (repeat' (first | (with_reducible exact Below.refl _ _) | (with_reducible assumption) | (with_reducible refine Below.alloc ?_ ?_ _) | (with_reducible refine Below.drew ?_) | (with_reducible refine below_drewN ?_ _) | (with_reducible refine below_plus ?_ ?_ _ _) | (with_reducible refine Below.setCell ?_ ?_ _) | (with_reducible refine Below.setRow ?_ ?_ _) | go_size))⟩
end Go.Proofs.YtpfaalpbfdphaaaDoor

/- The law CivilMonths. Condition: civil's table is as laid. -/
import Derived.Test.YtpfaalpbfdphaaaDoorCivO
namespace Go.Proofs.YtpfaalpbfdphaaaDoor
set_option linter.unusedVariables false
set_option linter.unusedSimpArgs false
open Go.RowKit

/-- What months come to, that are added at once or one after the other. -/
theorem add_add {y m d k j : Int} (hv : Valid y m d) (hk0 : -100000 ≤ k) (hk1 : k ≤ 100000) (hj0 : -100000 ≤ j) (hj1 : j ≤ 100000)
    (h : ¬ (12 * y + m - 1 + k < 12 ∨ 120000 ≤ 12 * y + m - 1 + k)) :
    ∃ Y M D l b c g x : Int, Valid Y M D ∧ dayOf Y M D = b ∧ addRes y m d k = (b, 0) ∧ 12 * Y + M - 1 = 12 * y + m - 1 + k ∧ mlen Y M = l ∧ D = min d l ∧ addRes Y M D j = (c, g) ∧ addRes y m d (k + j) = (x, g) ∧ c ≤ x ∧ (D = d → c = x) := by
  have hc : ¬ (k < -200000 ∨ 200000 < k ∨ 12 * y + m - 1 + k < 12 ∨ 120000 ≤ 12 * y + m - 1 + k) := by omega
  have hv2 := add_valid hv hc
  obtain ⟨n, hn⟩ : ∃ n, n = 12 * y + m - 1 + k := ⟨_, rfl⟩
  have ha : addRes y m d k = (dayOf (n / 12) (n % 12 + 1) (min d (mlen (n / 12) (n % 12 + 1))), 0) := by unfold addRes; rw [if_neg hc, ← hn]
  rw [← hn] at hv2
  have hN : 12 * (n / 12) + (n % 12 + 1) - 1 = n := by omega
  have hl : mlen (n / 12) (n % 12 + 1) ≤ 31 ∧ 28 ≤ mlen (n / 12) (n % 12 + 1) := by
    obtain ⟨q0, q1, q2, q3, q4, q5⟩ := hv2
    exact ⟨(mlen_bd _ _ q0 q1 q2 q3).2, (mlen_bd _ _ q0 q1 q2 q3).1⟩
  generalize n / 12 = Y at *
  generalize n % 12 + 1 = M at *
  by_cases ho : 12 * y + m - 1 + (k + j) < 12 ∨ 120000 ≤ 12 * y + m - 1 + (k + j)
  · refine ⟨Y, M, _, _, _, 0, 5, 0, hv2, rfl, ha, by omega, rfl, rfl, ?_, ?_, by omega, fun _ => rfl⟩
    · unfold addRes; rw [if_pos (by omega)]
    · unfold addRes; rw [if_pos (by omega)]
  · obtain ⟨N, hNN⟩ : ∃ N, N = 12 * y + m - 1 + (k + j) := ⟨_, rfl⟩
    refine ⟨Y, M, _, _, _, dayOf (N / 12) (N % 12 + 1) (min (min d (mlen Y M)) (mlen (N / 12) (N % 12 + 1))), 0, dayOf (N / 12) (N % 12 + 1) (min d (mlen (N / 12) (N % 12 + 1))), hv2, rfl, ha, by omega, rfl, rfl, ?_, ?_, ?_, ?_⟩
    · unfold addRes; rw [if_neg (by omega), show 12 * Y + M - 1 + j = N by omega]
    · unfold addRes; rw [if_neg (by omega), ← hNN]
    · unfold dayOf; omega
    · intro e; unfold dayOf; omega

set_option maxRecDepth 100000 in
set_option maxHeartbeats 16000000 in
theorem l_months (a k j : Int) (w : World) (ht : CTab w) :
    Calls Tryd.prog 8 #[.int .i64 a, .int .i64 k, .int .i64 j] w fun e w' => e = .returned (.bool true) ∧ Below w.heap.size w w' := by
  have HT := Lib.hid ht
  have HK := Lib.hid awake_ok
  by_cases c1 : a < 0
  · clear ht
    go_enter Tryd.func8, Tryd.ntmps8
    go_wp2_with fail
    refine (HK.out _ HT.out).mono ?_; rintro e_ w_ ⟨rfl, J0, d0, rfl⟩
    go_wp2
    go_ret
    exact ⟨by simp, by (repeat' (first | (with_reducible exact Below.refl _ _) | (with_reducible assumption) | (with_reducible refine Below.alloc ?_ ?_ _) | (with_reducible refine Below.drew ?_) | (with_reducible refine below_drewN ?_ _) | (with_reducible refine below_plus ?_ ?_ _ _) | (with_reducible refine Below.setCell ?_ ?_ _) | (with_reducible refine Below.setRow ?_ ?_ _) | go_size))⟩
  by_cases c2 : 3652058 < a
  · clear ht
    go_enter Tryd.func8, Tryd.ntmps8
    go_wp2_with fail
    refine (HK.out _ HT.out).mono ?_; rintro e_ w_ ⟨rfl, J0, d0, rfl⟩
    go_wp2
    go_ret
    exact ⟨by simp, by (repeat' (first | (with_reducible exact Below.refl _ _) | (with_reducible assumption) | (with_reducible refine Below.alloc ?_ ?_ _) | (with_reducible refine Below.drew ?_) | (with_reducible refine below_drewN ?_ _) | (with_reducible refine below_plus ?_ ?_ _ _) | (with_reducible refine Below.setCell ?_ ?_ _) | (with_reducible refine Below.setRow ?_ ?_ _) | go_size))⟩
  by_cases c3 : k < -100000
  · clear ht
    go_enter Tryd.func8, Tryd.ntmps8
    go_wp2_with fail
    refine (HK.out _ HT.out).mono ?_; rintro e_ w_ ⟨rfl, J0, d0, rfl⟩
    go_wp2
    go_ret
    exact ⟨by simp, by (repeat' (first | (with_reducible exact Below.refl _ _) | (with_reducible assumption) | (with_reducible refine Below.alloc ?_ ?_ _) | (with_reducible refine Below.drew ?_) | (with_reducible refine below_drewN ?_ _) | (with_reducible refine below_plus ?_ ?_ _ _) | (with_reducible refine Below.setCell ?_ ?_ _) | (with_reducible refine Below.setRow ?_ ?_ _) | go_size))⟩
  by_cases c4 : 100000 < k
  · clear ht
    go_enter Tryd.func8, Tryd.ntmps8
    go_wp2_with fail
    refine (HK.out _ HT.out).mono ?_; rintro e_ w_ ⟨rfl, J0, d0, rfl⟩
    go_wp2
    go_ret
    exact ⟨by simp, by (repeat' (first | (with_reducible exact Below.refl _ _) | (with_reducible assumption) | (with_reducible refine Below.alloc ?_ ?_ _) | (with_reducible refine Below.drew ?_) | (with_reducible refine below_drewN ?_ _) | (with_reducible refine below_plus ?_ ?_ _ _) | (with_reducible refine Below.setCell ?_ ?_ _) | (with_reducible refine Below.setRow ?_ ?_ _) | go_size))⟩
  by_cases c5 : j < -100000
  · clear ht
    go_enter Tryd.func8, Tryd.ntmps8
    go_wp2_with fail
    refine (HK.out _ HT.out).mono ?_; rintro e_ w_ ⟨rfl, J0, d0, rfl⟩
    go_wp2
    go_ret
    exact ⟨by simp, by (repeat' (first | (with_reducible exact Below.refl _ _) | (with_reducible assumption) | (with_reducible refine Below.alloc ?_ ?_ _) | (with_reducible refine Below.drew ?_) | (with_reducible refine below_drewN ?_ _) | (with_reducible refine below_plus ?_ ?_ _ _) | (with_reducible refine Below.setCell ?_ ?_ _) | (with_reducible refine Below.setRow ?_ ?_ _) | go_size))⟩
  by_cases c6 : 100000 < j
  · clear ht
    go_enter Tryd.func8, Tryd.ntmps8
    go_wp2_with fail
    refine (HK.out _ HT.out).mono ?_; rintro e_ w_ ⟨rfl, J0, d0, rfl⟩
    go_wp2
    go_ret
    exact ⟨by simp, by (repeat' (first | (with_reducible exact Below.refl _ _) | (with_reducible assumption) | (with_reducible refine Below.alloc ?_ ?_ _) | (with_reducible refine Below.drew ?_) | (with_reducible refine below_drewN ?_ _) | (with_reducible refine below_plus ?_ ?_ _ _) | (with_reducible refine Below.setCell ?_ ?_ _) | (with_reducible refine Below.setRow ?_ ?_ _) | go_size))⟩
  obtain ⟨y, m, d, hv, he⟩ := date_nat a ⟨by omega, by omega⟩
  have DA := Lib.hid (n_Date a y m d hv he)
  have AK := n_Add a y m d k hv he
  have AS := n_Add a y m d (k + j) hv he
  have hy : 1 ≤ (y : Int) ∧ (y : Int) ≤ 9999 := ⟨hv.1, hv.2.1⟩
  have hm : 1 ≤ (m : Int) ∧ (m : Int) ≤ 12 := ⟨hv.2.2.1, hv.2.2.2.1⟩
  have hd : 1 ≤ (d : Int) ∧ (d : Int) ≤ 31 := ⟨hv.2.2.2.2.1, by have := (mlen_bd y m hy.1 hy.2 hm.1 hm.2).2; have := hv.2.2.2.2.2; omega⟩
  obtain ⟨y0, y9⟩ := hy
  obtain ⟨m0, m9⟩ := hm
  obtain ⟨dd0, dd9⟩ := hd
  by_cases ho : 12 * (y : Int) + m - 1 + k < 12 ∨ 120000 ≤ 12 * (y : Int) + m - 1 + k
  · rw [show addRes y m d k = (0, 5) from if_pos (by omega)] at AK
    have AB := Lib.hid AK
    obtain ⟨n, hn⟩ : ∃ n, 12 * (y : Int) + m - 1 + k = n := ⟨_, rfl⟩
    rw [hn] at ho
    clear ht hv he AS
    by_cases h12 : n < 12
    · clear ho
      go_enter Tryd.func8, Tryd.ntmps8
      go_wp2_with fail
      refine (HK.out _ HT.out).mono ?_; rintro e_ w_ ⟨rfl, J0, d0, rfl⟩
      go_wp2_with fail
      refine (DA.out _ (HT.out.below (by (repeat' (first | (with_reducible exact Below.refl _ _) | (with_reducible assumption) | (with_reducible refine Below.alloc ?_ ?_ _) | (with_reducible refine Below.drew ?_) | (with_reducible refine below_drewN ?_ _) | (with_reducible refine below_plus ?_ ?_ _ _) | (with_reducible refine Below.setCell ?_ ?_ _) | (with_reducible refine Below.setRow ?_ ?_ _) | go_size))))).mono ?_; rintro e_ w_ ⟨rfl, J1, d1, rfl⟩
      go_wp2_with fail
      refine (AB.out _ (HT.out.below (by (repeat' (first | (with_reducible exact Below.refl _ _) | (with_reducible assumption) | (with_reducible refine Below.alloc ?_ ?_ _) | (with_reducible refine Below.drew ?_) | (with_reducible refine below_drewN ?_ _) | (with_reducible refine below_plus ?_ ?_ _ _) | (with_reducible refine Below.setCell ?_ ?_ _) | (with_reducible refine Below.setRow ?_ ?_ _) | go_size))))).mono ?_; rintro e_ w_ ⟨rfl, J2, d2, rfl⟩
      go_wp2_with fail
      go_ret
      exact ⟨by simp [*], by (repeat' (first | (with_reducible exact Below.refl _ _) | (with_reducible assumption) | (with_reducible refine Below.alloc ?_ ?_ _) | (with_reducible refine Below.drew ?_) | (with_reducible refine below_drewN ?_ _) | (with_reducible refine below_plus ?_ ?_ _ _) | (with_reducible refine Below.setCell ?_ ?_ _) | (with_reducible refine Below.setRow ?_ ?_ _) | go_size))⟩
    · have h13 : 120000 ≤ n := by omega
      clear ho
      go_enter Tryd.func8, Tryd.ntmps8
      go_wp2_with fail
      refine (HK.out _ HT.out).mono ?_; rintro e_ w_ ⟨rfl, J0, d0, rfl⟩
      go_wp2_with fail
      refine (DA.out _ (HT.out.below (by (repeat' (first | (with_reducible exact Below.refl _ _) | (with_reducible assumption) | (with_reducible refine Below.alloc ?_ ?_ _) | (with_reducible refine Below.drew ?_) | (with_reducible refine below_drewN ?_ _) | (with_reducible refine below_plus ?_ ?_ _ _) | (with_reducible refine Below.setCell ?_ ?_ _) | (with_reducible refine Below.setRow ?_ ?_ _) | go_size))))).mono ?_; rintro e_ w_ ⟨rfl, J1, d1, rfl⟩
      go_wp2_with fail
      refine (AB.out _ (HT.out.below (by (repeat' (first | (with_reducible exact Below.refl _ _) | (with_reducible assumption) | (with_reducible refine Below.alloc ?_ ?_ _) | (with_reducible refine Below.drew ?_) | (with_reducible refine below_drewN ?_ _) | (with_reducible refine below_plus ?_ ?_ _ _) | (with_reducible refine Below.setCell ?_ ?_ _) | (with_reducible refine Below.setRow ?_ ?_ _) | go_size))))).mono ?_; rintro e_ w_ ⟨rfl, J2, d2, rfl⟩
      go_wp2_with fail
      go_ret
      exact ⟨by simp [*], by (repeat' (first | (with_reducible exact Below.refl _ _) | (with_reducible assumption) | (with_reducible refine Below.alloc ?_ ?_ _) | (with_reducible refine Below.drew ?_) | (with_reducible refine below_drewN ?_ _) | (with_reducible refine below_plus ?_ ?_ _ _) | (with_reducible refine Below.setCell ?_ ?_ _) | (with_reducible refine Below.setRow ?_ ?_ _) | go_size))⟩
  · obtain ⟨Y, M, D, l, b, c, g, x, hV, hb, hA, hN, hl, hD, hA2, hA3, hcx, hcx2⟩ := add_add hv (by omega) (by omega) (by omega) (by omega : j ≤ 100000) ho
    rw [hA] at AK; rw [hA3] at AS
    have AB := Lib.hid AK; have AC := Lib.hid AS
    have AD := Lib.hid (add_of hV hb hA2)
    have DB := Lib.hid (n_Date b Y M D hV hb)
    have HL := n_Length Y M
    rw [hl] at HL
    have HL := Lib.hid HL
    obtain ⟨n, hn⟩ : ∃ n, 12 * (y : Int) + m - 1 + k = n := ⟨_, rfl⟩
    rw [hn] at hN
    obtain ⟨Y0, Y9, M0, M9, D0, D9⟩ := hV
    have hl31 := mlen_bd Y M Y0 Y9 M0 M9
    rw [hl] at hl31 D9
    obtain ⟨l0, l1⟩ := hl31
    have HD := Lib.hid hD
    have hn0 : 12 ≤ n := by omega
    have hn9 : n < 120000 := by omega
    have HX2 := Lib.hid hcx2
    clear ht hv he hA hA2 hA3 hb hl ho hD hcx2
    have hx : ¬ x < c := by omega
    by_cases hdl : (d : Int) ≤ l
    · obtain rfl : D = d := by have := HD.out; omega
      obtain rfl : c = x := HX2.out rfl
      go_enter Tryd.func8, Tryd.ntmps8
      go_wp2_with fail
      refine (HK.out _ HT.out).mono ?_; rintro e_ w_ ⟨rfl, J0, d0, rfl⟩
      go_wp2_with fail
      refine (DA.out _ (HT.out.below (by (repeat' (first | (with_reducible exact Below.refl _ _) | (with_reducible assumption) | (with_reducible refine Below.alloc ?_ ?_ _) | (with_reducible refine Below.drew ?_) | (with_reducible refine below_drewN ?_ _) | (with_reducible refine below_plus ?_ ?_ _ _) | (with_reducible refine Below.setCell ?_ ?_ _) | (with_reducible refine Below.setRow ?_ ?_ _) | go_size))))).mono ?_; rintro e_ w_ ⟨rfl, J1, d1, rfl⟩
      go_wp2_with fail
      refine (AB.out _ (HT.out.below (by (repeat' (first | (with_reducible exact Below.refl _ _) | (with_reducible assumption) | (with_reducible refine Below.alloc ?_ ?_ _) | (with_reducible refine Below.drew ?_) | (with_reducible refine below_drewN ?_ _) | (with_reducible refine below_plus ?_ ?_ _ _) | (with_reducible refine Below.setCell ?_ ?_ _) | (with_reducible refine Below.setRow ?_ ?_ _) | go_size))))).mono ?_; rintro e_ w_ ⟨rfl, J2, d2, rfl⟩
      go_wp2_with fail
      refine (DB.out _ (HT.out.below (by (repeat' (first | (with_reducible exact Below.refl _ _) | (with_reducible assumption) | (with_reducible refine Below.alloc ?_ ?_ _) | (with_reducible refine Below.drew ?_) | (with_reducible refine below_drewN ?_ _) | (with_reducible refine below_plus ?_ ?_ _ _) | (with_reducible refine Below.setCell ?_ ?_ _) | (with_reducible refine Below.setRow ?_ ?_ _) | go_size))))).mono ?_; rintro e_ w_ ⟨rfl, J3, d3, rfl⟩
      go_upto_region 10 with fail
      go_quiet ((refine Calls.quiet_of_same ((HL.out _ (HT.out.below ?_)).mono (fun _ _ h => ⟨h.1, h.2.symm⟩)); (repeat' (first | (with_reducible exact Below.refl _ _) | (with_reducible assumption) | (with_reducible refine Below.alloc ?_ ?_ _) | (with_reducible refine Below.drew ?_) | (with_reducible refine below_drewN ?_ _) | (with_reducible refine below_plus ?_ ?_ _ _) | (with_reducible refine Below.setCell ?_ ?_ _) | (with_reducible refine Below.setRow ?_ ?_ _) | go_size))))
      by_cases hg : g = 0
      · subst hg
        go_wp2_with fail
        refine (AD.out _ (HT.out.below (by (repeat' (first | (with_reducible exact Below.refl _ _) | (with_reducible assumption) | (with_reducible refine Below.alloc ?_ ?_ _) | (with_reducible refine Below.drew ?_) | (with_reducible refine below_drewN ?_ _) | (with_reducible refine below_plus ?_ ?_ _ _) | (with_reducible refine Below.setCell ?_ ?_ _) | (with_reducible refine Below.setRow ?_ ?_ _) | go_size))))).mono ?_; rintro e_ w_ ⟨rfl, J4, d4, rfl⟩
        go_wp2_with fail
        refine (AC.out _ (HT.out.below (by (repeat' (first | (with_reducible exact Below.refl _ _) | (with_reducible assumption) | (with_reducible refine Below.alloc ?_ ?_ _) | (with_reducible refine Below.drew ?_) | (with_reducible refine below_drewN ?_ _) | (with_reducible refine below_plus ?_ ?_ _ _) | (with_reducible refine Below.setCell ?_ ?_ _) | (with_reducible refine Below.setRow ?_ ?_ _) | go_size))))).mono ?_; rintro e_ w_ ⟨rfl, J5, d5, rfl⟩
        go_wp2_with fail
        go_ret
        exact ⟨by simp [*], by (repeat' (first | (with_reducible exact Below.refl _ _) | (with_reducible assumption) | (with_reducible refine Below.alloc ?_ ?_ _) | (with_reducible refine Below.drew ?_) | (with_reducible refine below_drewN ?_ _) | (with_reducible refine below_plus ?_ ?_ _ _) | (with_reducible refine Below.setCell ?_ ?_ _) | (with_reducible refine Below.setRow ?_ ?_ _) | go_size))⟩
      · have hg1 : (g == 0) = false := beq_eq_false_iff_ne.2 hg
        go_wp2_with fail
        refine (AD.out _ (HT.out.below (by (repeat' (first | (with_reducible exact Below.refl _ _) | (with_reducible assumption) | (with_reducible refine Below.alloc ?_ ?_ _) | (with_reducible refine Below.drew ?_) | (with_reducible refine below_drewN ?_ _) | (with_reducible refine below_plus ?_ ?_ _ _) | (with_reducible refine Below.setCell ?_ ?_ _) | (with_reducible refine Below.setRow ?_ ?_ _) | go_size))))).mono ?_; rintro e_ w_ ⟨rfl, J4, d4, rfl⟩
        go_wp2_with fail
        refine (AC.out _ (HT.out.below (by (repeat' (first | (with_reducible exact Below.refl _ _) | (with_reducible assumption) | (with_reducible refine Below.alloc ?_ ?_ _) | (with_reducible refine Below.drew ?_) | (with_reducible refine below_drewN ?_ _) | (with_reducible refine below_plus ?_ ?_ _ _) | (with_reducible refine Below.setCell ?_ ?_ _) | (with_reducible refine Below.setRow ?_ ?_ _) | go_size))))).mono ?_; rintro e_ w_ ⟨rfl, J5, d5, rfl⟩
        go_wp2_with fail
        go_ret
        exact ⟨by simp [*], by (repeat' (first | (with_reducible exact Below.refl _ _) | (with_reducible assumption) | (with_reducible refine Below.alloc ?_ ?_ _) | (with_reducible refine Below.drew ?_) | (with_reducible refine below_drewN ?_ _) | (with_reducible refine below_plus ?_ ?_ _ _) | (with_reducible refine Below.setCell ?_ ?_ _) | (with_reducible refine Below.setRow ?_ ?_ _) | go_size))⟩
    · obtain rfl : D = l := by have := HD.out; omega
      have hne : (D == (d : Int)) = false := by rw [beq_eq_false_iff_ne]; omega
      go_enter Tryd.func8, Tryd.ntmps8
      go_wp2_with fail
      refine (HK.out _ HT.out).mono ?_; rintro e_ w_ ⟨rfl, J0, d0, rfl⟩
      go_wp2_with fail
      refine (DA.out _ (HT.out.below (by (repeat' (first | (with_reducible exact Below.refl _ _) | (with_reducible assumption) | (with_reducible refine Below.alloc ?_ ?_ _) | (with_reducible refine Below.drew ?_) | (with_reducible refine below_drewN ?_ _) | (with_reducible refine below_plus ?_ ?_ _ _) | (with_reducible refine Below.setCell ?_ ?_ _) | (with_reducible refine Below.setRow ?_ ?_ _) | go_size))))).mono ?_; rintro e_ w_ ⟨rfl, J1, d1, rfl⟩
      go_wp2_with fail
      refine (AB.out _ (HT.out.below (by (repeat' (first | (with_reducible exact Below.refl _ _) | (with_reducible assumption) | (with_reducible refine Below.alloc ?_ ?_ _) | (with_reducible refine Below.drew ?_) | (with_reducible refine below_drewN ?_ _) | (with_reducible refine below_plus ?_ ?_ _ _) | (with_reducible refine Below.setCell ?_ ?_ _) | (with_reducible refine Below.setRow ?_ ?_ _) | go_size))))).mono ?_; rintro e_ w_ ⟨rfl, J2, d2, rfl⟩
      go_wp2_with fail
      refine (DB.out _ (HT.out.below (by (repeat' (first | (with_reducible exact Below.refl _ _) | (with_reducible assumption) | (with_reducible refine Below.alloc ?_ ?_ _) | (with_reducible refine Below.drew ?_) | (with_reducible refine below_drewN ?_ _) | (with_reducible refine below_plus ?_ ?_ _ _) | (with_reducible refine Below.setCell ?_ ?_ _) | (with_reducible refine Below.setRow ?_ ?_ _) | go_size))))).mono ?_; rintro e_ w_ ⟨rfl, J3, d3, rfl⟩
      go_upto_region 10 with fail
      go_quiet ((refine Calls.quiet_of_same ((HL.out _ (HT.out.below ?_)).mono (fun _ _ h => ⟨h.1, h.2.symm⟩)); (repeat' (first | (with_reducible exact Below.refl _ _) | (with_reducible assumption) | (with_reducible refine Below.alloc ?_ ?_ _) | (with_reducible refine Below.drew ?_) | (with_reducible refine below_drewN ?_ _) | (with_reducible refine below_plus ?_ ?_ _ _) | (with_reducible refine Below.setCell ?_ ?_ _) | (with_reducible refine Below.setRow ?_ ?_ _) | go_size))))
      by_cases hg : g = 0
      · subst hg
        go_wp2_with fail
        refine (AD.out _ (HT.out.below (by (repeat' (first | (with_reducible exact Below.refl _ _) | (with_reducible assumption) | (with_reducible refine Below.alloc ?_ ?_ _) | (with_reducible refine Below.drew ?_) | (with_reducible refine below_drewN ?_ _) | (with_reducible refine below_plus ?_ ?_ _ _) | (with_reducible refine Below.setCell ?_ ?_ _) | (with_reducible refine Below.setRow ?_ ?_ _) | go_size))))).mono ?_; rintro e_ w_ ⟨rfl, J4, d4, rfl⟩
        go_wp2_with fail
        refine (AC.out _ (HT.out.below (by (repeat' (first | (with_reducible exact Below.refl _ _) | (with_reducible assumption) | (with_reducible refine Below.alloc ?_ ?_ _) | (with_reducible refine Below.drew ?_) | (with_reducible refine below_drewN ?_ _) | (with_reducible refine below_plus ?_ ?_ _ _) | (with_reducible refine Below.setCell ?_ ?_ _) | (with_reducible refine Below.setRow ?_ ?_ _) | go_size))))).mono ?_; rintro e_ w_ ⟨rfl, J5, d5, rfl⟩
        go_wp2_with fail
        go_ret
        exact ⟨by simp [*], by (repeat' (first | (with_reducible exact Below.refl _ _) | (with_reducible assumption) | (with_reducible refine Below.alloc ?_ ?_ _) | (with_reducible refine Below.drew ?_) | (with_reducible refine below_drewN ?_ _) | (with_reducible refine below_plus ?_ ?_ _ _) | (with_reducible refine Below.setCell ?_ ?_ _) | (with_reducible refine Below.setRow ?_ ?_ _) | go_size))⟩
      · have hg1 : (g == 0) = false := beq_eq_false_iff_ne.2 hg
        go_wp2_with fail
        refine (AD.out _ (HT.out.below (by (repeat' (first | (with_reducible exact Below.refl _ _) | (with_reducible assumption) | (with_reducible refine Below.alloc ?_ ?_ _) | (with_reducible refine Below.drew ?_) | (with_reducible refine below_drewN ?_ _) | (with_reducible refine below_plus ?_ ?_ _ _) | (with_reducible refine Below.setCell ?_ ?_ _) | (with_reducible refine Below.setRow ?_ ?_ _) | go_size))))).mono ?_; rintro e_ w_ ⟨rfl, J4, d4, rfl⟩
        go_wp2_with fail
        refine (AC.out _ (HT.out.below (by (repeat' (first | (with_reducible exact Below.refl _ _) | (with_reducible assumption) | (with_reducible refine Below.alloc ?_ ?_ _) | (with_reducible refine Below.drew ?_) | (with_reducible refine below_drewN ?_ _) | (with_reducible refine below_plus ?_ ?_ _ _) | (with_reducible refine Below.setCell ?_ ?_ _) | (with_reducible refine Below.setRow ?_ ?_ _) | go_size))))).mono ?_; rintro e_ w_ ⟨rfl, J5, d5, rfl⟩
        go_wp2_with fail
        go_ret
        exact ⟨by simp [*], by (repeat' (first | (with_reducible exact Below.refl _ _) | (with_reducible assumption) | (with_reducible refine Below.alloc ?_ ?_ _) | (with_reducible refine Below.drew ?_) | (with_reducible refine below_drewN ?_ _) | (with_reducible refine below_plus ?_ ?_ _ _) | (with_reducible refine Below.setCell ?_ ?_ _) | (with_reducible refine Below.setRow ?_ ?_ _) | go_size))⟩
end Go.Proofs.YtpfaalpbfdphaaaDoor

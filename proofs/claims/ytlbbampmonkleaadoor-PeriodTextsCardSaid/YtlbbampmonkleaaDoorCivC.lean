/- Contracts of apportionref03.Length; of isDay, daysBefore, yearOf. -/
import Derived.Test.YtlbbampmonkleaaDoorCivB
namespace Go.Proofs.YtlbbampmonkleaaDoor
set_option linter.unusedVariables false
set_option linter.unusedSimpArgs false
open Go.RowKit

set_option maxHeartbeats 1000000 in
theorem r_Length (y m : Int) (w : World) : Calls Tryd.prog 33 #[.int .i64 y, .int .i64 m] w fun e w' => e = .returned (.int .i64 (mlen y m)) ∧ w = w' := by
  by_cases c1 : y < 1
  · rw [mlen_out y m (by omega)]
    go_enter Tryd.func33, Tryd.ntmps33
    go_wp2
    go_ret
    exact ⟨rfl, rfl⟩
  by_cases c2 : 9999 < y
  · rw [mlen_out y m (by omega)]
    go_enter Tryd.func33, Tryd.ntmps33
    go_wp2
    go_ret
    exact ⟨rfl, rfl⟩
  by_cases c3 : m < 1
  · rw [mlen_out y m (by omega)]
    go_enter Tryd.func33, Tryd.ntmps33
    go_wp2
    go_ret
    exact ⟨rfl, rfl⟩
  by_cases c4 : 12 < m
  · rw [mlen_out y m (by omega)]
    go_enter Tryd.func33, Tryd.ntmps33
    go_wp2
    go_ret
    exact ⟨rfl, rfl⟩
  have hm := mlen_in y m (by omega) (by omega) (by omega) (by omega)
  have HL := Lib.hid (fun w => r_leap y (by omega) (by omega) w)
  have hl := leapI_cases y
  rcases month_cases m (by omega) (by omega) with rfl | rfl | rfl | rfl | rfl | rfl | rfl | rfl | rfl | rfl | rfl | rfl
  case inr.inl =>
    rcases hl with ⟨h, h', _⟩ | ⟨h, h', _⟩ <;> rw [h'] at hm <;> rw [h] at HL <;> clear h h'
    · rw [show mlen y 2 = 29 by rw [hm]; rfl]
      clear hm
      go_enter Tryd.func33, Tryd.ntmps33
      go_wp2_with fail
      refine (HL.out _).mono ?_; rintro e w' ⟨rfl, rfl⟩
      go_wp2
      go_ret
      exact ⟨rfl, rfl⟩
    · rw [show mlen y 2 = 28 by rw [hm]; rfl]
      clear hm
      go_enter Tryd.func33, Tryd.ntmps33
      go_wp2_with fail
      refine (HL.out _).mono ?_; rintro e w' ⟨rfl, rfl⟩
      go_wp2
      go_ret
      exact ⟨rfl, rfl⟩
  all_goals
    simp at hm
    rw [hm]
    clear hm hl HL
    go_enter Tryd.func33, Tryd.ntmps33
    go_wp2
    go_ret
    exact ⟨rfl, rfl⟩

theorem n_isDay (v : Int) (w : World) : Calls Tryd.prog 41 #[.int .i64 v] w fun e w' => e = .returned (.bool (decide (0 ≤ v ∧ v ≤ 3652058))) ∧ w = w' := by
  by_cases c1 : v < 0
  · rw [decide_eq_false (by omega)]
    have c1' : ¬ 0 ≤ v := by omega
    go_enter Tryd.func41, Tryd.ntmps41
    go_wp2
    go_ret
    exact ⟨by simp [*], rfl⟩
  · have c1' : 0 ≤ v := by omega
    by_cases c2 : v ≤ 3652058
    · rw [decide_eq_true (by omega)]
      go_enter Tryd.func41, Tryd.ntmps41
      go_wp2
      go_ret
      exact ⟨by simp [*], rfl⟩
    · rw [decide_eq_false (by omega)]
      go_enter Tryd.func41, Tryd.ntmps41
      go_wp2
      go_ret
      exact ⟨by simp [*], rfl⟩

theorem n_daysBefore (y : Int) (y0 : 1 ≤ y) (y1 : y ≤ 9999) (w : World) : Calls Tryd.prog 44 #[.int .i64 y] w fun e w' => e = .returned (.int .i64 (aheadY y)) ∧ w = w' := by
  obtain ⟨x, hx⟩ : ∃ x, y - 1 = x := ⟨_, rfl⟩
  obtain ⟨a, ha⟩ : ∃ a, a = x / 4 := ⟨_, rfl⟩
  obtain ⟨b, hb⟩ : ∃ b, b = x / 100 := ⟨_, rfl⟩
  obtain ⟨c, hc⟩ : ∃ c, c = x / 400 := ⟨_, rfl⟩
  have e1 : x.tdiv 4 = a := by rw [ha]; exact Int.tdiv_eq_ediv_of_nonneg (by omega)
  have e2 : x.tdiv 100 = b := by rw [hb]; exact Int.tdiv_eq_ediv_of_nonneg (by omega)
  have e3 : x.tdiv 400 = c := by rw [hc]; exact Int.tdiv_eq_ediv_of_nonneg (by omega)
  have hr : x * 365 + a - b + c = aheadY y := by unfold aheadY; rw [hx, ← ha, ← hb, ← hc]; omega
  have HR := Lib.hid hr
  have a0 : 0 ≤ a := by omega
  have a1 : a ≤ 9999 := by omega
  have b0 : 0 ≤ b := by omega
  have b1 : b ≤ 9999 := by omega
  have d0 : 0 ≤ c := by omega
  have d1 : c ≤ 9999 := by omega
  have x0 : 0 ≤ x := by omega
  have x1 : x ≤ 9998 := by omega
  clear ha hb hc hr
  go_enter Tryd.func44, Tryd.ntmps44
  go_wp2
  go_ret
  exact ⟨ret1 HR.out, rfl⟩

theorem year_parts (y r v : Int) (y0 : 1 ≤ y) (r0 : 0 ≤ r) (r1 : r < 365 + leapI y) (hv : v = aheadY y + r) :
    ∃ e d1 q1 c d2 f d3 q2 k, v / 146097 = e ∧ v % 146097 = d1 ∧ d1 / 36524 = q1 ∧ min q1 3 = c ∧ d1 - c * 36524 = d2 ∧ d2 / 1461 = f ∧ d2 % 1461 = d3 ∧ d3 / 365 = q2 ∧ min q2 3 = k ∧ d3 - k * 365 = r ∧
      400 * e + 100 * c + 4 * f + k + 1 = y ∧ 0 ≤ d1 ∧ d1 < 146097 ∧ 0 ≤ c ∧ c ≤ 3 ∧ 0 ≤ d2 ∧ d2 < 36525 ∧ 0 ≤ f ∧ f ≤ 24 ∧ 0 ≤ d3 ∧ d3 < 1461 ∧ 0 ≤ k ∧ k ≤ 3 := by
  obtain ⟨e, c, f, k, hx, c0, c1, f0, f1, k0, k1⟩ : ∃ e c f k : Int, y = 400 * e + 100 * c + 4 * f + k + 1 ∧ 0 ≤ c ∧ c ≤ 3 ∧ 0 ≤ f ∧ f ≤ 24 ∧ 0 ≤ k ∧ k ≤ 3 := ⟨(y - 1) / 400, (y - 1) % 400 / 100, (y - 1) % 100 / 4, (y - 1) % 4, by omega, by omega, by omega, by omega, by omega, by omega, by omega⟩
  have ha : aheadY y = 146097 * e + 36524 * c + 1461 * f + 365 * k := by
    unfold aheadY
    have h1 : (y - 1) / 4 = 100 * e + 25 * c + f := by omega
    have h2 : (y - 1) / 100 = 4 * e + c := by omega
    have h3 : (y - 1) / 400 = e := by omega
    rw [h1, h2, h3]; omega
  have hr : r ≤ 364 ∨ (r = 365 ∧ k = 3 ∧ (f < 24 ∨ c = 3)) := by
    rcases leapI_cases y with ⟨_, h, h1, h2⟩ | ⟨_, h, _⟩
    · rw [h] at r1
      by_cases h365 : r = 365
      · refine .inr ⟨h365, by omega, ?_⟩
        rcases h2 with h2 | h2 <;> omega
      · exact .inl (by omega)
    · rw [h] at r1; exact .inl (by omega)
  have g1 : 1461 * f + 365 * k + r < 36524 ∨ (1461 * f + 365 * k + r = 36524 ∧ c = 3) := by omega
  have g2 : v / 146097 = e := by omega
  have g3 : v % 146097 = 36524 * c + 1461 * f + 365 * k + r := by omega
  have g4 : min ((36524 * c + 1461 * f + 365 * k + r) / 36524) 3 = c := by omega
  have g5 : (1461 * f + 365 * k + r) / 1461 = f := by omega
  have g6 : (1461 * f + 365 * k + r) % 1461 = 365 * k + r := by omega
  have g7 : min ((365 * k + r) / 365) 3 = k := by omega
  exact ⟨e, 36524 * c + 1461 * f + 365 * k + r, _, c, 1461 * f + 365 * k + r, f, 365 * k + r, _, k, g2, g3, rfl, g4, by omega, g5, g6, rfl, g7, by omega, by omega, by omega, by omega, c0, c1, by omega, by omega, f0, f1, by omega, by omega, k0, k1⟩

set_option maxHeartbeats 1000000 in
theorem n_yearOf (y r v : Int) (y0 : 1 ≤ y) (y1 : y ≤ 9999) (r0 : 0 ≤ r) (r1 : r < 365 + leapI y) (hv : v = aheadY y + r) (w : World) :
    Calls Tryd.prog 42 #[.int .i64 v] w fun e w' => e = .returned (.tuple #[.int .i64 y, .int .i64 r]) ∧ w = w' := by
  obtain ⟨e, d1, q1, c, d2, f, d3, q2, k, h1, h2, h3, h4, h5, h6, h7, h8, h9, h10, h11, b1, b2, b3, b4, b5, b6, b7, b8, b9, b10, b11, b12⟩ := year_parts y r v y0 r0 r1 hv
  have v0 : 0 ≤ v := by rw [hv]; have := ahead_mono 1 y y0; have e1 : aheadY 1 = 0 := by decide
                        omega
  have e0 : 0 ≤ e := by omega
  have e9 : e ≤ 24 := by omega
  have t1 : v.tdiv 146097 = e := by rw [← h1]; exact Int.tdiv_eq_ediv_of_nonneg v0
  have t2 : v.tmod 146097 = d1 := by rw [← h2]; exact Int.tmod_eq_emod_of_nonneg v0
  have t3 : d1.tdiv 36524 = q1 := by rw [← h3]; exact Int.tdiv_eq_ediv_of_nonneg b1
  have t4 : d2.tdiv 1461 = f := by rw [← h6]; exact Int.tdiv_eq_ediv_of_nonneg b5
  have t5 : d2.tmod 1461 = d3 := by rw [← h7]; exact Int.tmod_eq_emod_of_nonneg b5
  have t6 : d3.tdiv 365 = q2 := by rw [← h8]; exact Int.tdiv_eq_ediv_of_nonneg b9
  have HY := Lib.hid h11
  have q0 : 0 ≤ q1 := by omega
  have q9 : q1 ≤ 4 := by omega
  have p0 : 0 ≤ q2 := by omega
  have p9 : q2 ≤ 4 := by omega
  have r9 : r ≤ 366 := by have := leapI_bd y; omega
  clear hv h1 h2 h3 h6 h7 h8 h11 r1
  by_cases k1 : q1 ≤ 3
  · obtain rfl : q1 = c := by omega
    by_cases k2 : q2 ≤ 3
    · obtain rfl : q2 = k := by omega
      clear h4 h9
      go_enter Tryd.func42, Tryd.ntmps42
      go_wp2
      go_ret2
      exact ⟨ret2 HY.out rfl, rfl⟩
    · obtain rfl : k = 3 := by omega
      have h10 : d3 - 1095 = r := by omega
      have HY2 := Lib.hid (show 400 * e + 100 * q1 + 4 * f + 4 = y by have := HY.out; omega)
      clear h4 h9
      go_enter Tryd.func42, Tryd.ntmps42
      go_wp2
      go_ret2
      exact ⟨ret2 (by have := HY2.out; omega) rfl, rfl⟩
  · obtain rfl : c = 3 := by omega
    have h5 : d1 - 109572 = d2 := by omega
    by_cases k2 : q2 ≤ 3
    · obtain rfl : q2 = k := by omega
      clear h4 h9
      go_enter Tryd.func42, Tryd.ntmps42
      go_wp2
      go_ret2
      exact ⟨ret2 (by have := HY.out; omega) rfl, rfl⟩
    · obtain rfl : k = 3 := by omega
      have h10 : d3 - 1095 = r := by omega
      clear h4 h9
      go_enter Tryd.func42, Tryd.ntmps42
      go_wp2
      go_ret2
      exact ⟨ret2 (by have := HY.out; omega) rfl, rfl⟩
end Go.Proofs.YtlbbampmonkleaaDoor

/- Contracts of Day and ahead, of civil and of apportionref03. Condition: civil's table is as laid. -/
import Derived.Test.YtlbbampmonkleaaDoorCivC
namespace Go.Proofs.YtlbbampmonkleaaDoor
set_option linter.unusedVariables false
set_option linter.unusedSimpArgs false
open Go.RowKit

def dayRes (y m d : Int) : Int × Int := if 1 ≤ d ∧ d ≤ mlen y m then (dayOf y m d, 0) else (0, 2)

theorem before_one (y : Int) : beforeM y 1 = 0 := rfl

set_option maxHeartbeats 1000000 in
theorem n_Day (y m d : Int) (w : World) (ht : CTab w) : Calls Tryd.prog 29 #[.int .i64 y, .int .i64 m, .int .i64 d] w fun e w' => e = .returned (.tuple #[.int .i64 (dayRes y m d).1, .int .i64 (dayRes y m d).2]) ∧ w = w' := by
  unfold dayRes
  have HL := Lib.hid (fun k w (h : CTab w) => n_Length y k w h)
  have HT := Lib.hid ht
  by_cases c1 : d < 1
  · rw [if_neg (by omega)]
    go_enter Tryd.func29, Tryd.ntmps29
    go_wp2
    go_ret2
    exact ⟨rfl, rfl⟩
  by_cases c2 : mlen y m < d
  · rw [if_neg (by omega)]
    generalize hk : mlen y m = k at *
    have HK := Lib.hid hk
    clear hk ht
    go_enter Tryd.func29, Tryd.ntmps29
    go_wp2_with fail
    refine (HL.out _ _ HT.out).mono ?_; rintro e w' ⟨rfl, rfl⟩
    rw [HK.out]
    go_wp2
    go_ret2
    exact ⟨rfl, rfl⟩
  rw [if_pos (by omega)]
  have hv : Valid y m d := (valid_iff y m d).2 ⟨by omega, by omega⟩
  obtain ⟨y0, y1, m0, m1, d0, d1⟩ := hv
  have HB := Lib.hid (n_daysBefore y y0 y1)
  have HA := Lib.hid (show 0 ≤ aheadY y ∧ aheadY y ≤ 3652059 by
    have h1 := ahead_mono 1 y y0
    have h2 := ahead_mono y 9999 y1
    have e1 : aheadY 1 = 0 := by decide
    have e2 : aheadY 9999 = 3651694 := by decide
    omega)
  obtain ⟨k, hk⟩ : ∃ k, mlen y m = k := ⟨_, rfl⟩
  rw [hk] at c2 d1
  have HK := Lib.hid hk
  have hk31 := (mlen_bd y m y0 y1 m0 m1).2
  rw [hk] at hk31
  clear hk ht
  unfold dayOf
  obtain ⟨a0, a1⟩ := HA.out
  generalize hq : (aheadY y + beforeM y m + d - 1) = q0v
  have HQ := Lib.hid hq
  clear hq
  generalize aheadY y = a at *
  go_enter Tryd.func29, Tryd.ntmps29
  go_wp2_with fail
  refine (HL.out _ _ HT.out).mono ?_; rintro e w' ⟨rfl, rfl⟩
  rw [HK.out]
  go_wp2_with fail
  refine (HB.out _).mono ?_; rintro e w' ⟨rfl, rfl⟩
  go_wp2_with fail
  go_loopw [8, 9] (fun s i wr => ∃ q b : Int, i = .int .i64 q ∧ 1 ≤ q ∧ q ≤ m ∧ beforeM y q = b ∧ s = .int .i64 (a + d - 1 + b) ∧ wr = w) (fun _ i _ => (m - intOf i).toNat)
  case atStart => exact ⟨1, 0, rfl, by omega, m0, before_one y, by go_num, rfl⟩
  case round =>
    obtain ⟨q, b, rfl, q0, q1, hb, rfl, rfl⟩ := hrel
    obtain ⟨b0, b1⟩ := before_bd y q q0 (by omega)
    rw [hb] at b0 b1
    by_cases hlt : q < m
    · have hs := before_succ y q y0 y1 q0 (by omega)
      obtain ⟨l0, l1⟩ := mlen_bd y q y0 y1 q0 (by omega)
      rw [hb] at hs
      have HLq := Lib.hid (HL.out q)
      generalize mlen y q = l at *
      have HS := Lib.hid hs
      clear hs hb
      go_wp2_with fail
      refine (HLq.out _ HT.out).mono ?_; rintro e w' ⟨rfl, rfl⟩
      go_wp2_with fail
      go_roundw
      case rel => exact ⟨q + 1, b + l, by go_num, by omega, by omega, HS.out, by go_num, trivial⟩
      case measure => simp [intOf]; omega
    · obtain rfl : q = m := by omega
      have HQ2 := Lib.hid (show a + d - 1 + b = q0v by have := HQ.out; omega)
      go_wp2_with fail
      go_ret2
      exact ⟨ret2 HQ2.out rfl, rfl⟩

/-! apportionref03's. -/
theorem ahead_at (q : Int) : aheadY (q * 400 + 1) = q * 146097 := by unfold aheadY; omega

set_option maxHeartbeats 1000000 in
theorem r_ahead (y : Int) (y0 : 1 ≤ y) (y1 : y ≤ 9999) (w : World) : Calls Tryd.prog 45 #[.int .i64 y] w fun e w' => e = .returned (.int .i64 (aheadY y)) ∧ w = w' := by
  have HL := Lib.hid (fun k (h0 : 1 ≤ k) (h1 : k ≤ 99999) w => r_leap k h0 h1 w)
  obtain ⟨x, hx⟩ : ∃ x, y - 1 = x := ⟨_, rfl⟩
  obtain ⟨c, hc⟩ : ∃ c, c = x / 400 := ⟨_, rfl⟩
  have e3 : x.tdiv 400 = c := by rw [hc]; exact Int.tdiv_eq_ediv_of_nonneg (by omega)
  have c0 : 0 ≤ c := by omega
  have c1 : c ≤ 24 := by omega
  have HX := Lib.hid hx
  have HA := Lib.hid (fun z (h0 : 1 ≤ z) (h1 : z ≤ y) => (show 0 ≤ aheadY z ∧ aheadY z ≤ 3652059 by
    have h1 := ahead_mono 1 z h0
    have h2 := ahead_mono z 9999 (by omega)
    have e1 : aheadY 1 = 0 := by decide
    have e2 : aheadY 9999 = 3651694 := by decide
    omega))
  have cy : c * 400 + 1 ≤ y := by omega
  clear hc
  go_enter Tryd.func45, Tryd.ntmps45
  go_wp2_with fail
  go_loopw [3, 4] (fun s i wr => ∃ z a : Int, i = .int .i64 z ∧ 1 ≤ z ∧ z ≤ y ∧ aheadY z = a ∧ s = .int .i64 a ∧ wr = w) (fun _ i _ => (y - intOf i).toNat)
  case atStart => exact ⟨c * 400 + 1, c * 146097, rfl, by omega, cy, ahead_at c, rfl, rfl⟩
  case round =>
    obtain ⟨z, a, rfl, z0, z1, ha, rfl, rfl⟩ := hrel
    obtain ⟨a0, a1⟩ := HA.out z z0 z1
    rw [ha] at a0 a1
    by_cases hlt : z < y
    · have hs := ahead_succ z
      have HLz := Lib.hid (HL.out z z0 (by omega))
      have HA2 := Lib.hid ha
      rcases leapI_cases z with ⟨h, h', _⟩ | ⟨h, h', _⟩ <;> rw [h', ha] at hs <;> rw [h] at HLz <;> have HS := Lib.hid hs <;> clear hs h h' ha
      · go_wp2_with fail
        refine (HLz.out _).mono ?_; rintro e w' ⟨rfl, rfl⟩
        go_wp2_with fail
        go_roundw
        case rel => exact ⟨z + 1, a + 365 + 1, by go_num, by omega, by omega, HS.out, by go_num, trivial⟩
        case measure => simp [intOf]; omega
      · go_wp2_with fail
        refine (HLz.out _).mono ?_; rintro e w' ⟨rfl, rfl⟩
        go_wp2_with fail
        go_roundw
        case rel => exact ⟨z + 1, a + 365 + 0, by go_num, by omega, by omega, HS.out, by go_num, trivial⟩
        case measure => simp [intOf]; omega
    · obtain rfl : z = y := by omega
      have HA2 := Lib.hid ha
      clear ha
      go_wp2_with fail
      go_ret
      exact ⟨ret1 HA2.out.symm, rfl⟩

set_option maxHeartbeats 1000000 in
theorem r_Day (y m d : Int) (w : World) : Calls Tryd.prog 31 #[.int .i64 y, .int .i64 m, .int .i64 d] w fun e w' => e = .returned (.tuple #[.int .i64 (dayRes y m d).1, .int .i64 (dayRes y m d).2]) ∧ w = w' := by
  unfold dayRes
  have HL := Lib.hid (fun k w => r_Length y k w)
  by_cases c1 : d < 1
  · rw [if_neg (by omega)]
    go_enter Tryd.func31, Tryd.ntmps31
    go_wp2
    go_ret2
    exact ⟨rfl, rfl⟩
  by_cases c2 : mlen y m < d
  · rw [if_neg (by omega)]
    generalize hk : mlen y m = k at *
    have HK := Lib.hid hk
    clear hk
    go_enter Tryd.func31, Tryd.ntmps31
    go_wp2_with fail
    refine (HL.out _ _).mono ?_; rintro e w' ⟨rfl, rfl⟩
    rw [HK.out]
    go_wp2
    go_ret2
    exact ⟨rfl, rfl⟩
  rw [if_pos (by omega)]
  have hv : Valid y m d := (valid_iff y m d).2 ⟨by omega, by omega⟩
  obtain ⟨y0, y1, m0, m1, d0, d1⟩ := hv
  have HB := Lib.hid (r_ahead y y0 y1)
  have HA := Lib.hid (show 0 ≤ aheadY y ∧ aheadY y ≤ 3652059 by
    have h1 := ahead_mono 1 y y0
    have h2 := ahead_mono y 9999 y1
    have e1 : aheadY 1 = 0 := by decide
    have e2 : aheadY 9999 = 3651694 := by decide
    omega)
  obtain ⟨k, hk⟩ : ∃ k, mlen y m = k := ⟨_, rfl⟩
  rw [hk] at c2 d1
  have HK := Lib.hid hk
  have hk31 := (mlen_bd y m y0 y1 m0 m1).2
  rw [hk] at hk31
  clear hk
  unfold dayOf
  obtain ⟨a0, a1⟩ := HA.out
  generalize hq : (aheadY y + beforeM y m + d - 1) = q0v
  have HQ := Lib.hid hq
  clear hq
  generalize aheadY y = a at *
  go_enter Tryd.func31, Tryd.ntmps31
  go_wp2_with fail
  refine (HL.out _ _).mono ?_; rintro e w' ⟨rfl, rfl⟩
  rw [HK.out]
  go_wp2_with fail
  refine (HB.out _).mono ?_; rintro e w' ⟨rfl, rfl⟩
  go_wp2_with fail
  go_loopw [8, 9] (fun s i wr => ∃ q b : Int, i = .int .i64 q ∧ 1 ≤ q ∧ q ≤ m ∧ beforeM y q = b ∧ s = .int .i64 (a + b) ∧ wr = w) (fun _ i _ => (m - intOf i).toNat)
  case atStart => exact ⟨1, 0, rfl, by omega, m0, before_one y, by go_num, rfl⟩
  case round =>
    obtain ⟨q, b, rfl, q0, q1, hb, rfl, rfl⟩ := hrel
    obtain ⟨b0, b1⟩ := before_bd y q q0 (by omega)
    rw [hb] at b0 b1
    by_cases hlt : q < m
    · have hs := before_succ y q y0 y1 q0 (by omega)
      obtain ⟨l0, l1⟩ := mlen_bd y q y0 y1 q0 (by omega)
      rw [hb] at hs
      have HLq := Lib.hid (HL.out q)
      generalize mlen y q = l at *
      have HS := Lib.hid hs
      clear hs hb
      go_wp2_with fail
      refine (HLq.out _).mono ?_; rintro e w' ⟨rfl, rfl⟩
      go_wp2_with fail
      go_roundw
      case rel => exact ⟨q + 1, b + l, by go_num, by omega, by omega, HS.out, by go_num, trivial⟩
      case measure => simp [intOf]; omega
    · obtain rfl : q = m := by omega
      have HQ2 := Lib.hid (show a + b + d - 1 = q0v by have := HQ.out; omega)
      go_wp2_with fail
      go_ret2
      exact ⟨ret2 HQ2.out rfl, rfl⟩
end Go.Proofs.YtlbbampmonkleaaDoor

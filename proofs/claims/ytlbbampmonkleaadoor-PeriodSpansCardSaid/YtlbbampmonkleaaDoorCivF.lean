/- Contracts of apportionref03.Date. -/
import Derived.Test.YtlbbampmonkleaaDoorCivE
namespace Go.Proofs.YtlbbampmonkleaaDoor
set_option linter.unusedVariables false
set_option linter.unusedSimpArgs false
open Go.RowKit

theorem r_Date_out (v : Int) (h : ¬ (0 ≤ v ∧ v ≤ 3652058)) (w : World) : Calls Tryd.prog 26 #[.int .i64 v] w fun e w' => e = .returned (.tuple #[.agg #[.int .i64 0, .int .i64 0, .int .i64 0], .int .i64 5]) ∧ Junk w w' := by
  by_cases c1 : v < 0
  · clear h
    go_enter Tryd.func26, Tryd.ntmps26
    go_wp2
    refine bodyPost_ret (results_date rfl _ _ w.heap.size #[.int .i64 0, .int .i64 0, .int .i64 0] rfl (by simp [go_sem]) rfl) rfl ⟨rfl, junk_of_below (by (repeat' (first | (with_reducible exact Below.refl _ _) | (with_reducible assumption) | (with_reducible refine Below.alloc ?_ ?_ _) | (with_reducible refine Below.drew ?_) | (with_reducible refine below_drewN ?_ _) | (with_reducible refine below_plus ?_ ?_ _ _) | (with_reducible refine Below.setCell ?_ ?_ _) | (with_reducible refine Below.setRow ?_ ?_ _) | go_size)))⟩
  · have c2 : 3652058 < v := by omega
    clear h
    go_enter Tryd.func26, Tryd.ntmps26
    go_wp2
    refine bodyPost_ret (results_date rfl _ _ w.heap.size #[.int .i64 0, .int .i64 0, .int .i64 0] rfl (by simp [go_sem]) rfl) rfl ⟨rfl, junk_of_below (by (repeat' (first | (with_reducible exact Below.refl _ _) | (with_reducible assumption) | (with_reducible refine Below.alloc ?_ ?_ _) | (with_reducible refine Below.drew ?_) | (with_reducible refine below_drewN ?_ _) | (with_reducible refine below_plus ?_ ?_ _ _) | (with_reducible refine Below.setCell ?_ ?_ _) | (with_reducible refine Below.setRow ?_ ?_ _) | go_size)))⟩

set_option maxHeartbeats 1000000 in
theorem r_Date (v y m d : Int) (hv : Valid y m d) (he : dayOf y m d = v) (w : World) : Calls Tryd.prog 26 #[.int .i64 v] w fun e w' => e = .returned (.tuple #[.agg #[.int .i64 y, .int .i64 m, .int .i64 d], .int .i64 0]) ∧ Junk w w' := by
  obtain ⟨v0, v1⟩ := day_bd hv
  obtain ⟨y0, y1, m0, m1, d0, d1⟩ := hv
  obtain ⟨r, hr⟩ : ∃ r, r = beforeM y m + d - 1 := ⟨_, rfl⟩
  have HRY := Lib.hid (show r < 365 + leapI y by
      by_cases e : m = 12
      · have := before_12 y y0 y1; rw [← e] at this; omega
      · have h1 := before_lt y y0 y1 m m0 (11 - m).toNat (by omega)
        rw [show m + 1 + ((11 - m).toNat : Int) = 12 by omega] at h1
        have h2 := before_12 y y0 y1
        have h3 := (mlen_bd y 12 y0 y1 (by omega) (by omega)).1
        omega)
  have HV := Lib.hid (show v = aheadY y + r by unfold dayOf at he; omega)
  have HL := Lib.hid (fun k w => r_Length y k w)
  have HP := Lib.hid (fun k (h0 : 1 ≤ k) (h1 : k ≤ 99999) w => r_leap k h0 h1 w)
  rw [he] at v0 v1
  have HR := Lib.hid hr
  have HBd := Lib.hid (before_bd y m m0 m1)
  have hd31 := (mlen_bd y m y0 y1 m0 m1).2
  have r0 : 0 ≤ r := by have := HBd.out; omega
  have r9 : r ≤ 400 := by have := HBd.out; omega
  obtain ⟨c, hc⟩ : ∃ c, c = v / 146097 := ⟨_, rfl⟩
  obtain ⟨f, hf⟩ : ∃ f, f = v % 146097 := ⟨_, rfl⟩
  have e1 : v.tdiv 146097 = c := by rw [hc]; exact Int.tdiv_eq_ediv_of_nonneg v0
  have e2 : v.tmod 146097 = f := by rw [hf]; exact Int.tmod_eq_emod_of_nonneg v0
  have c0 : 0 ≤ c := by omega
  have c9 : c ≤ 24 := by omega
  have f0 : 0 ≤ f := by omega
  have f9 : f < 146097 := by omega
  have cy : c * 400 + 1 ≤ y := by
    have h1 := ahead_at c
    by_cases h : c * 400 + 1 ≤ y
    · exact h
    · have h2 := ahead_mono (y + 1) (c * 400 + 1) (by omega)
      rw [ahead_succ] at h2
      have := HRY.out; have := HV.out; omega
  have hF : f = v - aheadY (c * 400 + 1) := by rw [ahead_at]; omega
  have HF := Lib.hid hF
  clear he hr hc hf hF
  go_enter Tryd.func26, Tryd.ntmps26
  go_wp2_with fail
  go_loopw [0, 4, 5] (fun s i n wr => ∃ z x : Int, i = .int .i64 z ∧ 1 ≤ z ∧ z ≤ y ∧ x = v - aheadY z ∧ s = .int .i64 x ∧ wr = w.alloc (.cells #[.int .i64 0, .int .i64 0, .int .i64 0] 38)) (fun _ i _ _ => (y - intOf i).toNat)
  case atStart => exact ⟨c * 400 + 1, f, rfl, by omega, cy, HF.out, rfl, rfl⟩
  case round =>
    obtain ⟨z, x, rfl, z0, z1, hx, rfl, rfl⟩ := hrel
    have a0 : 0 ≤ aheadY z := by
      have h1 := ahead_mono 1 z z0
      have h2 : aheadY 1 = 0 := by decide
      omega
    have a1 := ahead_mono z y z1
    have x0 : 0 ≤ x := by have := HV.out; omega
    have x9 : x ≤ 3652058 := by omega
    have HPz := Lib.hid (HP.out z z0 (by omega))
    have hs := ahead_succ z
    by_cases hlt : z < y
    · have a2 := ahead_mono (z + 1) y (by omega)
      have hxl : 365 + leapI z ≤ x := by have := HV.out; omega
      have HX := Lib.hid (show x - (365 + leapI z) = v - aheadY (z + 1) by omega)
      rcases leapI_cases z with ⟨h, h', _⟩ | ⟨h, h', _⟩ <;> rw [h'] at HX hxl <;> rw [h] at HPz <;> clear h h' hs hx a0 a1 a2
      · have hn : ¬ x < 366 := by omega
        go_wp2_with fail
        refine (HPz.out _).mono ?_; rintro e w' ⟨rfl, rfl⟩
        go_wp2_with fail
        go_roundw
        case rel => exact ⟨z + 1, x - 366, by go_num, by omega, by omega, HX.out, by go_num, trivial⟩
        case measure => simp [intOf]; omega
      · have hn : ¬ x < 365 := by omega
        go_wp2_with fail
        refine (HPz.out _).mono ?_; rintro e w' ⟨rfl, rfl⟩
        go_wp2_with fail
        go_roundw
        case rel => exact ⟨z + 1, x - 365, by go_num, by omega, by omega, HX.out, by go_num, trivial⟩
        case measure => simp [intOf]; omega
    · obtain rfl : z = y := by omega
      obtain rfl : x = r := by have := HV.out; omega
      have hxl := HRY.out
      clear hs hx a0 a1
      rcases leapI_cases z with ⟨h, h', _⟩ | ⟨h, h', _⟩ <;> rw [h'] at hxl <;> rw [h] at HPz <;> clear h h'
      · have hn : x < 366 := by omega
        go_wp2_with fail
        refine (HPz.out _).mono ?_; rintro e w' ⟨rfl, rfl⟩
        go_wp2_with fail
        go_loopw [0, 6] (fun s i wr => ∃ q t : Int, i = .int .i64 q ∧ 1 ≤ q ∧ q ≤ m ∧ t = x - beforeM z q ∧ s = .int .i64 t ∧ wr = w.alloc (.cells #[.int .i64 0, .int .i64 0, .int .i64 0] 38)) (fun _ i _ => (m - intOf i).toNat)
        case atStart => exact ⟨1, x, rfl, by omega, m0, by rw [before_one]; omega, rfl, rfl⟩
        case round =>
          obtain ⟨q, t, rfl, q0, q1, hx, rfl, rfl⟩ := hrel
          obtain ⟨b0, b1⟩ := before_bd z q q0 (by omega)
          obtain ⟨l0, l1⟩ := mlen_bd z q y0 y1 q0 (by omega)
          have t1 : t ≤ 400 := by omega
          by_cases hlt : q < m
          · have hs := before_succ z q y0 y1 q0 (by omega)
            have hb := before_lt z y0 y1 q q0 (m - q - 1).toNat (by omega)
            rw [show q + 1 + ((m - q - 1).toNat : Int) = m by omega] at hb
            have HLq := Lib.hid (HL.out q)
            have hge : ¬ t < mlen z q := by have := HR.out; omega
            have hge2 : mlen z q ≤ t := by omega
            generalize mlen z q = l at *
            have HX := Lib.hid (show t - l = x - beforeM z (q + 1) by omega)
            clear hs hb hx b0 b1
            go_wp2_with fail
            refine (HLq.out _).mono ?_; rintro e w' ⟨rfl, rfl⟩
            go_wp2_with fail
            refine (HLq.out _).mono ?_; rintro e w' ⟨rfl, rfl⟩
            go_wp2_with fail
            go_roundw
            case rel => exact ⟨q + 1, t - l, by go_num, by omega, by omega, HX.out, by go_num, trivial⟩
            case measure => simp [intOf]; omega
          · obtain rfl : q = m := by omega
            obtain rfl : t = d - 1 := by have := HR.out; omega
            have HLq := Lib.hid (HL.out q)
            have hge : d - 1 < mlen z q := by omega
            have hge2 : ¬ mlen z q ≤ d - 1 := by omega
            generalize mlen z q = l at *
            clear hx b0 b1
            go_wp2_with fail
            refine (HLq.out _).mono ?_; rintro e w' ⟨rfl, rfl⟩
            go_wp2
            refine bodyPost_ret (results_date rfl _ _ w.heap.size #[.int .i64 z, .int .i64 q, .int .i64 d] rfl (by simp [go_sem]) rfl) rfl ⟨rfl, junk_of_below (by (repeat' (first | (with_reducible exact Below.refl _ _) | (with_reducible assumption) | (with_reducible refine Below.alloc ?_ ?_ _) | (with_reducible refine Below.drew ?_) | (with_reducible refine below_drewN ?_ _) | (with_reducible refine below_plus ?_ ?_ _ _) | (with_reducible refine Below.setCell ?_ ?_ _) | (with_reducible refine Below.setRow ?_ ?_ _) | go_size)))⟩
      · have hn : x < 365 := by omega
        go_wp2_with fail
        refine (HPz.out _).mono ?_; rintro e w' ⟨rfl, rfl⟩
        go_wp2_with fail
        go_loopw [0, 6] (fun s i wr => ∃ q t : Int, i = .int .i64 q ∧ 1 ≤ q ∧ q ≤ m ∧ t = x - beforeM z q ∧ s = .int .i64 t ∧ wr = w.alloc (.cells #[.int .i64 0, .int .i64 0, .int .i64 0] 38)) (fun _ i _ => (m - intOf i).toNat)
        case atStart => exact ⟨1, x, rfl, by omega, m0, by rw [before_one]; omega, rfl, rfl⟩
        case round =>
          obtain ⟨q, t, rfl, q0, q1, hx, rfl, rfl⟩ := hrel
          obtain ⟨b0, b1⟩ := before_bd z q q0 (by omega)
          obtain ⟨l0, l1⟩ := mlen_bd z q y0 y1 q0 (by omega)
          have t1 : t ≤ 400 := by omega
          by_cases hlt : q < m
          · have hs := before_succ z q y0 y1 q0 (by omega)
            have hb := before_lt z y0 y1 q q0 (m - q - 1).toNat (by omega)
            rw [show q + 1 + ((m - q - 1).toNat : Int) = m by omega] at hb
            have HLq := Lib.hid (HL.out q)
            have hge : ¬ t < mlen z q := by have := HR.out; omega
            have hge2 : mlen z q ≤ t := by omega
            generalize mlen z q = l at *
            have HX := Lib.hid (show t - l = x - beforeM z (q + 1) by omega)
            clear hs hb hx b0 b1
            go_wp2_with fail
            refine (HLq.out _).mono ?_; rintro e w' ⟨rfl, rfl⟩
            go_wp2_with fail
            refine (HLq.out _).mono ?_; rintro e w' ⟨rfl, rfl⟩
            go_wp2_with fail
            go_roundw
            case rel => exact ⟨q + 1, t - l, by go_num, by omega, by omega, HX.out, by go_num, trivial⟩
            case measure => simp [intOf]; omega
          · obtain rfl : q = m := by omega
            obtain rfl : t = d - 1 := by have := HR.out; omega
            have HLq := Lib.hid (HL.out q)
            have hge : d - 1 < mlen z q := by omega
            have hge2 : ¬ mlen z q ≤ d - 1 := by omega
            generalize mlen z q = l at *
            clear hx b0 b1
            go_wp2_with fail
            refine (HLq.out _).mono ?_; rintro e w' ⟨rfl, rfl⟩
            go_wp2
            refine bodyPost_ret (results_date rfl _ _ w.heap.size #[.int .i64 z, .int .i64 q, .int .i64 d] rfl (by simp [go_sem]) rfl) rfl ⟨rfl, junk_of_below (by (repeat' (first | (with_reducible exact Below.refl _ _) | (with_reducible assumption) | (with_reducible refine Below.alloc ?_ ?_ _) | (with_reducible refine Below.drew ?_) | (with_reducible refine below_drewN ?_ _) | (with_reducible refine below_plus ?_ ?_ _ _) | (with_reducible refine Below.setCell ?_ ?_ _) | (with_reducible refine Below.setRow ?_ ?_ _) | go_size)))⟩
end Go.Proofs.YtlbbampmonkleaaDoor

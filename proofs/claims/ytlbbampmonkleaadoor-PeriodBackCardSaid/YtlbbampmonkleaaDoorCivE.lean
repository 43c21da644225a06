/- Contracts of Date, of civil and of apportionref03. Condition: civil's table is as laid. -/
import Derived.Test.YtlbbampmonkleaaDoorCivD
namespace Go.Proofs.YtlbbampmonkleaaDoor
set_option linter.unusedVariables false
set_option linter.unusedSimpArgs false
open Go.RowKit

theorem results_date {fn : Func} {p t : Tmp} (h : fn.results = #[.cell p 38, .tmp t]) (tmps : Array Value) (w : World) (g : Nat) (c : Array Value)
    (hp : tmps.getD p undef = .pointer (some ⟨g, 0, none⟩)) (hr : w.rowAt g = some c) (hc : c.size = 3) : (results fn tmps).run Tryd.prog w = .ok (.tuple #[.agg c, tmps.getD t undef]) w := by
  obtain ⟨ty, hg⟩ := rowAt_some hr
  have hp' : tmps[p]?.getD undef = .pointer (some ⟨g, 0, none⟩) := by simpa using hp
  simp [results, h, hp', asAddr, run_loadVar_row w g ty _ c (0, 0) _ hg Tryd.underlying38 rfl (by rw [hc]; kernel_rfl)]

theorem n_Date_out (v : Int) (h : ¬ (0 ≤ v ∧ v ≤ 3652058)) (w : World) : Calls Tryd.prog 24 #[.int .i64 v] w fun e w' => e = .returned (.tuple #[.agg #[.int .i64 0, .int .i64 0, .int .i64 0], .int .i64 5]) ∧ Junk w w' := by
  have HD := n_isDay v
  rw [decide_eq_false h] at HD
  have HD := Lib.hid HD
  clear h
  go_enter Tryd.func24, Tryd.ntmps24
  go_wp2_with fail
  refine (HD.out _).mono ?_; rintro e w' ⟨rfl, rfl⟩
  go_wp2
  refine bodyPost_ret (results_date rfl _ _ w.heap.size #[.int .i64 0, .int .i64 0, .int .i64 0] rfl (by simp [go_sem]) rfl) rfl ⟨rfl, junk_of_below (by (repeat' (first | (with_reducible exact Below.refl _ _) | (with_reducible assumption) | (with_reducible refine Below.alloc ?_ ?_ _) | (with_reducible refine Below.drew ?_) | (with_reducible refine below_drewN ?_ _) | (with_reducible refine below_plus ?_ ?_ _ _) | (with_reducible refine Below.setCell ?_ ?_ _) | (with_reducible refine Below.setRow ?_ ?_ _) | go_size)))⟩

set_option maxHeartbeats 1000000 in
theorem n_Date (v y m d : Int) (hv : Valid y m d) (he : dayOf y m d = v) (w : World) (ht : CTab w) : Calls Tryd.prog 24 #[.int .i64 v] w fun e w' => e = .returned (.tuple #[.agg #[.int .i64 y, .int .i64 m, .int .i64 d], .int .i64 0]) ∧ Junk w w' := by
  obtain ⟨v0, v1⟩ := day_bd hv
  have HD := n_isDay v
  rw [decide_eq_true (by omega)] at HD
  have HD := Lib.hid HD
  obtain ⟨y0, y1, m0, m1, d0, d1⟩ := hv
  obtain ⟨r, hr⟩ : ∃ r, r = beforeM y m + d - 1 := ⟨_, rfl⟩
  have HY := Lib.hid (n_yearOf y r v y0 y1 (by have := (before_bd y m m0 m1).1; omega)
    (by
      by_cases e : m = 12
      · have := before_12 y y0 y1; rw [← e] at this; omega
      · have h1 := before_lt y y0 y1 m m0 (11 - m).toNat (by omega)
        rw [show m + 1 + ((11 - m).toNat : Int) = 12 by omega] at h1
        have h2 := before_12 y y0 y1
        have h3 := (mlen_bd y 12 y0 y1 (by omega) (by omega)).1
        omega) (by unfold dayOf at he; omega))
  have HL := Lib.hid (fun k w (h : CTab w) => n_Length y k w h)
  have HT := Lib.hid ht
  rw [he] at v0 v1
  have HR := Lib.hid hr
  have HBd := Lib.hid (before_bd y m m0 m1)
  have hd31 := (mlen_bd y m y0 y1 m0 m1).2
  have r0 : 0 ≤ r := by have := HBd.out; omega
  have r9 : r ≤ 400 := by have := HBd.out; omega
  clear ht he hr
  go_enter Tryd.func24, Tryd.ntmps24
  go_wp2_with fail
  refine (HD.out _).mono ?_; rintro e w' ⟨rfl, rfl⟩
  go_wp2_with fail
  refine (HY.out _).mono ?_; rintro e w' ⟨rfl, rfl⟩
  go_wp2_with fail
  have HT2 := Lib.hid (HT.out.alloc (.cells #[.int .i64 0, .int .i64 0, .int .i64 0] 38))
  go_loopw [5, 6] (fun s i wr => ∃ q x : Int, i = .int .i64 q ∧ 1 ≤ q ∧ q ≤ m ∧ x = r - beforeM y q ∧ s = .int .i64 x ∧ wr = w.alloc (.cells #[.int .i64 0, .int .i64 0, .int .i64 0] 38)) (fun _ i _ => (m - intOf i).toNat)
  case atStart => exact ⟨1, r, rfl, by omega, m0, by rw [before_one]; omega, rfl, rfl⟩
  case round =>
    obtain ⟨q, x, rfl, q0, q1, hx, rfl, rfl⟩ := hrel
    obtain ⟨b0, b1⟩ := before_bd y q q0 (by omega)
    obtain ⟨l0, l1⟩ := mlen_bd y q y0 y1 q0 (by omega)
    have x1 : x ≤ 400 := by omega
    by_cases hlt : q < m
    · have hs := before_succ y q y0 y1 q0 (by omega)
      have hb := before_lt y y0 y1 q q0 (m - q - 1).toNat (by omega)
      rw [show q + 1 + ((m - q - 1).toNat : Int) = m by omega] at hb
      have HLq := Lib.hid (HL.out q)
      have hge : ¬ x < mlen y q := by have := HR.out; omega
      have hge2 : mlen y q ≤ x := by omega
      generalize mlen y q = l at *
      have HX := Lib.hid (show x - l = r - beforeM y (q + 1) by omega)
      clear hs hb hx b0 b1
      go_wp2_with fail
      refine (HLq.out _ HT2.out).mono ?_; rintro e w' ⟨rfl, rfl⟩
      go_wp2_with fail
      refine (HLq.out _ HT2.out).mono ?_; rintro e w' ⟨rfl, rfl⟩
      go_wp2_with fail
      go_roundw
      case rel => exact ⟨q + 1, x - l, by go_num, by omega, by omega, HX.out, by go_num, trivial⟩
      case measure => simp [intOf]; omega
    · obtain rfl : q = m := by omega
      obtain rfl : x = d - 1 := by have := HR.out; omega
      have HLq := Lib.hid (HL.out q)
      have hge : d - 1 < mlen y q := by omega
      have hge2 : ¬ mlen y q ≤ d - 1 := by omega
      generalize mlen y q = l at *
      clear hx b0 b1
      go_wp2_with fail
      refine (HLq.out _ HT2.out).mono ?_; rintro e w' ⟨rfl, rfl⟩
      go_wp2
      refine bodyPost_ret (results_date rfl _ _ w.heap.size #[.int .i64 y, .int .i64 q, .int .i64 d] rfl (by simp [go_sem]) rfl) rfl ⟨rfl, junk_of_below (by (repeat' (first | (with_reducible exact Below.refl _ _) | (with_reducible assumption) | (with_reducible refine Below.alloc ?_ ?_ _) | (with_reducible refine Below.drew ?_) | (with_reducible refine below_drewN ?_ _) | (with_reducible refine below_plus ?_ ?_ _ _) | (with_reducible refine Below.setCell ?_ ?_ _) | (with_reducible refine Below.setRow ?_ ?_ _) | go_size)))⟩
end Go.Proofs.YtlbbampmonkleaaDoor

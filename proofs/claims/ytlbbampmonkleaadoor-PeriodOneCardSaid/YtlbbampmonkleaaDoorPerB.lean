/- Contracts of period's spanOf, month, digitsOf, perYear; of apportionref04's months, begins. -/
import Derived.Test.YtlbbampmonkleaaDoorPerA
namespace Go.Proofs.YtlbbampmonkleaaDoor
set_option linter.unusedVariables false
set_option linter.unusedSimpArgs false
open Go.RowKit

theorem mon_cases {k : Int} (h : 1 ≤ k ∧ k ≤ 4) : (k = 1 ∧ mon k = 1) ∨ (k = 2 ∧ mon k = 3) ∨ (k = 3 ∧ mon k = 6) ∨ (k = 4 ∧ mon k = 12) := by
  have : k = 1 ∨ k = 2 ∨ k = 3 ∨ k = 4 := by omega
  rcases this with rfl | rfl | rfl | rfl <;> simp [mon]
theorem mon_none {k : Int} (h : ¬ (1 ≤ k ∧ k ≤ 4)) : mon k = 0 := by
  unfold mon
  rw [if_neg (by omega), if_neg (by omega), if_neg (by omega), if_neg (by omega)]

theorem results_span {fn : Func} {p t : Tmp} (h : fn.results = #[.cell p 43, .tmp t]) (tmps : Array Value) (w : World) (g : Nat) (c : Array Value)
    (hp : tmps.getD p undef = .pointer (some ⟨g, 0, none⟩)) (hr : w.rowAt g = some c) (hc : c.size = 3) : (results fn tmps).run Tryd.prog w = .ok (.tuple #[.agg c, tmps.getD t undef]) w := by
  obtain ⟨ty, hg⟩ := rowAt_some hr
  have hp' : tmps[p]?.getD undef = .pointer (some ⟨g, 0, none⟩) := by simpa using hp
  simp [results, h, hp', asAddr, run_loadVar_row w g ty _ c (0, 0) _ hg Tryd.underlying43 rfl (by rw [hc]; kernel_rfl)]

/-- A period of a kind, within the calendar. -/
def InCal (k p : Int) : Prop := (1 ≤ k ∧ k ≤ 4) ∧ 0 ≤ p ∧ p < 119988 / mon k

/-- What spanOf makes of a kind and a period. -/
def spanRes (k p : Int) : (Int × Int × Int) × Int := if 1 ≤ k ∧ k ≤ 4 then (if 0 ≤ p ∧ p < 119988 / mon k then ((k, mon k, p), 0) else ((0, 0, 0), 5)) else ((0, 0, 0), 2)

theorem mon_facts {k : Int} (hk : 1 ≤ k ∧ k ≤ 4) : ∃ q : Int, (119988 : Int) / mon k = q ∧ (119988 : Int).tdiv (mon k) = q ∧ 0 ≤ q ∧ q ≤ 119988 ∧ mon k ≠ 0 ∧ 1 ≤ mon k ∧ mon k ≤ 12 := by
  rcases mon_cases hk with ⟨_, h⟩ | ⟨_, h⟩ | ⟨_, h⟩ | ⟨_, h⟩ <;> rw [h]
  · exact ⟨119988, by decide⟩
  · exact ⟨39996, by decide⟩
  · exact ⟨19998, by decide⟩
  · exact ⟨9999, by decide⟩

set_option maxHeartbeats 1000000 in
theorem n_spanOf (k p : Int) (w : World) : Calls Tryd.prog 27 #[.int .i64 k, .int .i64 p] w fun e w' => e = .returned (.tuple #[.agg #[.int .i64 (spanRes k p).1.1, .int .i64 (spanRes k p).1.2.1, .int .i64 (spanRes k p).1.2.2], .int .i64 (spanRes k p).2]) ∧ Junk w w' := by
  have HM := n_monthsOf k
  unfold spanRes
  by_cases hk : 1 ≤ k ∧ k ≤ 4
  · rw [if_pos hk]
    rw [decide_eq_true hk] at HM
    have HM := Lib.hid HM
    obtain ⟨q, hq, e1, q0, q1, m0, m1, m2⟩ := mon_facts hk
    rw [hq]
    clear hq hk
    generalize mon k = m at *
    by_cases c1 : p < 0
    · rw [if_neg (by omega)]
      go_enter Tryd.func27, Tryd.ntmps27
      go_wp2_with fail
      refine (HM.out _).mono ?_; rintro e w' ⟨rfl, J, dr, rfl⟩
      go_wp2
      refine bodyPost_ret (results_span rfl _ _ w.heap.size #[.int .i64 0, .int .i64 0, .int .i64 0] rfl (by simp [go_sem]) rfl) rfl ⟨rfl, junk_of_below (by (repeat' (first | (with_reducible exact Below.refl _ _) | (with_reducible assumption) | (with_reducible refine Below.alloc ?_ ?_ _) | (with_reducible refine Below.drew ?_) | (with_reducible refine below_drewN ?_ _) | (with_reducible refine below_plus ?_ ?_ _ _) | (with_reducible refine Below.setCell ?_ ?_ _) | (with_reducible refine Below.setRow ?_ ?_ _) | go_size)))⟩
    by_cases c2 : q ≤ p
    · rw [if_neg (by omega)]
      go_enter Tryd.func27, Tryd.ntmps27
      go_wp2_with fail
      refine (HM.out _).mono ?_; rintro e w' ⟨rfl, J, dr, rfl⟩
      go_wp2
      refine bodyPost_ret (results_span rfl _ _ w.heap.size #[.int .i64 0, .int .i64 0, .int .i64 0] rfl (by simp [go_sem]) rfl) rfl ⟨rfl, junk_of_below (by (repeat' (first | (with_reducible exact Below.refl _ _) | (with_reducible assumption) | (with_reducible refine Below.alloc ?_ ?_ _) | (with_reducible refine Below.drew ?_) | (with_reducible refine below_drewN ?_ _) | (with_reducible refine below_plus ?_ ?_ _ _) | (with_reducible refine Below.setCell ?_ ?_ _) | (with_reducible refine Below.setRow ?_ ?_ _) | go_size)))⟩
    · rw [if_pos (by omega)]
      go_enter Tryd.func27, Tryd.ntmps27
      go_wp2_with fail
      refine (HM.out _).mono ?_; rintro e w' ⟨rfl, J, dr, rfl⟩
      go_wp2
      refine bodyPost_ret (results_span rfl _ _ w.heap.size #[.int .i64 k, .int .i64 m, .int .i64 p] rfl (by simp [go_sem]) rfl) rfl ⟨rfl, junk_of_below (by (repeat' (first | (with_reducible exact Below.refl _ _) | (with_reducible assumption) | (with_reducible refine Below.alloc ?_ ?_ _) | (with_reducible refine Below.drew ?_) | (with_reducible refine below_drewN ?_ _) | (with_reducible refine below_plus ?_ ?_ _ _) | (with_reducible refine Below.setCell ?_ ?_ _) | (with_reducible refine Below.setRow ?_ ?_ _) | go_size)))⟩
  · rw [if_neg hk]
    rw [decide_eq_false hk] at HM
    have HM := Lib.hid HM
    clear hk
    go_enter Tryd.func27, Tryd.ntmps27
    go_wp2_with fail
    refine (HM.out _).mono ?_; rintro e w' ⟨rfl, J, dr, rfl⟩
    go_wp2
    refine bodyPost_ret (results_span rfl _ _ w.heap.size #[.int .i64 0, .int .i64 0, .int .i64 0] rfl (by simp [go_sem]) rfl) rfl ⟨rfl, junk_of_below (by (repeat' (first | (with_reducible exact Below.refl _ _) | (with_reducible assumption) | (with_reducible refine Below.alloc ?_ ?_ _) | (with_reducible refine Below.drew ?_) | (with_reducible refine below_drewN ?_ _) | (with_reducible refine below_plus ?_ ?_ _ _) | (with_reducible refine Below.setCell ?_ ?_ _) | (with_reducible refine Below.setRow ?_ ?_ _) | go_size)))⟩

theorem n_month (k m p i : Int) (n : Int) (hn : p * m + i = n) (hp0 : 0 ≤ p) (hp1 : p * m ≤ 119988) (hpm : 0 ≤ p * m) (hi : 0 ≤ i ∧ i ≤ 11) (w : World) : Calls Tryd.prog 28 #[.agg #[.int .i64 k, .int .i64 m, .int .i64 p], .int .i64 i] w fun e w' => e = .returned (.tuple #[.int .i64 (n / 12 + 1), .int .i64 (n % 12 + 1)]) ∧ Junk w w' := by
  obtain ⟨s, hs⟩ : ∃ s, p * m = s := ⟨_, rfl⟩
  rw [hs] at hn hp1 hpm
  obtain ⟨a, ha⟩ : ∃ a, n / 12 = a := ⟨_, rfl⟩
  obtain ⟨b, hb⟩ : ∃ b, n % 12 = b := ⟨_, rfl⟩
  have e1 : n.tdiv 12 = a := by rw [← ha]; exact Int.tdiv_eq_ediv_of_nonneg (by omega)
  have e2 : n.tmod 12 = b := by rw [← hb]; exact Int.tmod_eq_emod_of_nonneg (by omega)
  have n0 : 0 ≤ n := by omega
  have n1 : n ≤ 130000 := by omega
  have b0 : 0 ≤ b := by omega
  have b1 : b < 12 := by omega
  have a0 : 0 ≤ a := by omega
  have a1 : a ≤ 130000 := by omega
  rw [ha, hb]
  clear ha
  go_enter Tryd.func28, Tryd.ntmps28
  go_wp2
  go_ret2
  exact ⟨rfl, junk_of_below (by (repeat' (first | (with_reducible exact Below.refl _ _) | (with_reducible assumption) | (with_reducible refine Below.alloc ?_ ?_ _) | (with_reducible refine Below.drew ?_) | (with_reducible refine below_drewN ?_ _) | (with_reducible refine below_plus ?_ ?_ _ _) | (with_reducible refine Below.setCell ?_ ?_ _) | (with_reducible refine Below.setRow ?_ ?_ _) | go_size)))⟩

theorem n_digitsOf (k : Int) (w : World) : Calls Tryd.prog 48 #[.int .i64 k] w fun e w' => e = .returned (.int .i64 (if k = 1 then 2 else 1)) ∧ w = w' := by
  by_cases c : k = 1
  · rw [if_pos c]
    have e1 : (k == 1) = true := by rw [c]; rfl
    clear c
    go_enter Tryd.func48, Tryd.ntmps48
    go_wp2
    go_ret
    exact ⟨rfl, rfl⟩
  · rw [if_neg c]
    have e1 : (k == 1) = false := beq_eq_false_iff_ne.2 c
    clear c
    go_enter Tryd.func48, Tryd.ntmps48
    go_wp2
    go_ret
    exact ⟨rfl, rfl⟩

theorem n_perYear (k : Int) (hk : 1 ≤ k ∧ k ≤ 4) (w : World) : Calls Tryd.prog 39 #[.int .i64 k] w fun e w' => e = .returned (.int .i64 (12 / mon k)) ∧ Junk w w' := by
  have HM := Lib.hid (n_monthsOf k)
  obtain ⟨q, hq, e1, q0, q1, m0⟩ : ∃ q : Int, (12 : Int) / mon k = q ∧ (12 : Int).tdiv (mon k) = q ∧ 0 ≤ q ∧ q ≤ 12 ∧ mon k ≠ 0 := by
    rcases mon_cases hk with ⟨_, h⟩ | ⟨_, h⟩ | ⟨_, h⟩ | ⟨_, h⟩ <;> rw [h] <;> exact ⟨_, rfl, by decide⟩
  rw [hq]
  clear hq hk
  generalize mon k = m at *
  go_enter Tryd.func39, Tryd.ntmps39
  go_wp2_with fail
  refine (HM.out _).mono ?_; rintro e w' ⟨rfl, J, dr, rfl⟩
  go_wp2
  go_ret
  exact ⟨rfl, junk_of_below (by (repeat' (first | (with_reducible exact Below.refl _ _) | (with_reducible assumption) | (with_reducible refine Below.alloc ?_ ?_ _) | (with_reducible refine Below.drew ?_) | (with_reducible refine below_drewN ?_ _) | (with_reducible refine below_plus ?_ ?_ _ _) | (with_reducible refine Below.setCell ?_ ?_ _) | (with_reducible refine Below.setRow ?_ ?_ _) | go_size)))⟩

theorem r_months (k : Int) (w : World) : Calls Tryd.prog 25 #[.int .i64 k] w fun e w' => e = .returned (.int .i64 (mon k)) ∧ w = w' := by
  by_cases c1 : k = 1
  · subst c1
    go_enter Tryd.func25, Tryd.ntmps25
    go_wp2
    go_ret
    exact ⟨rfl, rfl⟩
  by_cases c2 : k = 2
  · subst c2
    go_enter Tryd.func25, Tryd.ntmps25
    go_wp2
    go_ret
    exact ⟨rfl, rfl⟩
  by_cases c3 : k = 3
  · subst c3
    go_enter Tryd.func25, Tryd.ntmps25
    go_wp2
    go_ret
    exact ⟨rfl, rfl⟩
  by_cases c4 : k = 4
  · subst c4
    go_enter Tryd.func25, Tryd.ntmps25
    go_wp2
    go_ret
    exact ⟨rfl, rfl⟩
  rw [mon_none (by omega)]
  have d1 : (k == 1) = false := beq_eq_false_iff_ne.2 c1
  have d2 : (k == 2) = false := beq_eq_false_iff_ne.2 c2
  have d3 : (k == 3) = false := beq_eq_false_iff_ne.2 c3
  have d4 : (k == 4) = false := beq_eq_false_iff_ne.2 c4
  clear c1 c2 c3 c4
  go_enter Tryd.func25, Tryd.ntmps25
  go_wp2
  go_ret
  exact ⟨rfl, rfl⟩

theorem inCal_iff (k p : Int) : InCal k p ↔ (spanRes k p).2 = 0 := by
  unfold InCal spanRes
  by_cases h1 : 1 ≤ k ∧ k ≤ 4
  · by_cases h2 : 0 ≤ p ∧ p < 119988 / mon k
    · rw [if_pos h1, if_pos h2]; exact ⟨fun _ => rfl, fun _ => ⟨h1, h2⟩⟩
    · rw [if_pos h1, if_neg h2]; exact ⟨fun h => absurd h.2 h2, fun h => by cases h⟩
  · rw [if_neg h1]; exact ⟨fun h => absurd h.1 h1, fun h => by cases h⟩

theorem span_ok {k p : Int} (h : InCal k p) : spanRes k p = ((k, mon k, p), 0) := by
  unfold spanRes; rw [if_pos h.1, if_pos h.2]

/-- p · months of a period within the calendar: bounds, and it ends with its year. -/
theorem inCal_bd {k p : Int} (h : InCal k p) : 0 ≤ p ∧ 0 ≤ p * mon k ∧ p * mon k + mon k ≤ 119988 ∧ (p * mon k) % 12 + mon k ≤ 12 ∧ p ≤ 119988 := by
  obtain ⟨hk, p0, p1⟩ := h
  rcases mon_cases hk with ⟨_, h⟩ | ⟨_, h⟩ | ⟨_, h⟩ | ⟨_, h⟩ <;> rw [h] at p1 ⊢ <;> omega

set_option maxHeartbeats 1000000 in
theorem r_begins (k p : Int) (w : World) : Calls Tryd.prog 30 #[.int .i64 k, .int .i64 p] w fun e w' => e = .returned (.tuple #[.int .i64 (if (spanRes k p).2 = 0 then p * mon k / 12 + 1 else 0), .int .i64 (if (spanRes k p).2 = 0 then p * mon k % 12 + 1 else 0), .int .i64 (spanRes k p).2]) ∧ w = w' := by
  have HM := Lib.hid (r_months k)
  by_cases h : InCal k p
  · rw [if_pos ((inCal_iff k p).1 h), if_pos ((inCal_iff k p).1 h), span_ok h]
    obtain ⟨p0, s0, s1, s2, p1⟩ := inCal_bd h
    obtain ⟨q, hq, e1, q0, q1, m0, m1, m2⟩ := mon_facts h.1
    obtain ⟨_, _, c2⟩ := h
    rw [hq] at c2
    clear hq
    generalize mon k = m at *
    obtain ⟨s, hs⟩ : ∃ s, p * m = s := ⟨_, rfl⟩
    rw [hs] at s0 s1 s2 ⊢
    obtain ⟨a, ha⟩ : ∃ a, s / 12 = a := ⟨_, rfl⟩
    obtain ⟨b, hb⟩ : ∃ b, s % 12 = b := ⟨_, rfl⟩
    have e2 : s.tdiv 12 = a := by rw [← ha]; exact Int.tdiv_eq_ediv_of_nonneg (by omega)
    have e3 : s.tmod 12 = b := by rw [← hb]; exact Int.tmod_eq_emod_of_nonneg (by omega)
    have b0 : 0 ≤ b := by omega
    have b1 : b < 12 := by omega
    have a0 : 0 ≤ a := by omega
    have a1 : a ≤ 130000 := by omega
    have m3 : (m == 0) = false := beq_eq_false_iff_ne.2 m0
    rw [ha, hb]
    clear ha s2
    go_enter Tryd.func30, Tryd.ntmps30
    go_wp2_with fail
    refine (HM.out _).mono ?_; rintro e w' ⟨rfl, rfl⟩
    go_wp2
    go_ret3
    exact ⟨rfl, rfl⟩
  · have h' := (not_congr (inCal_iff k p)).1 h
    rw [if_neg h', if_neg h']
    clear h'
    unfold spanRes
    by_cases hk : 1 ≤ k ∧ k ≤ 4
    · have h2 : ¬ (0 ≤ p ∧ p < 119988 / mon k) := fun h2 => h ⟨hk, h2⟩
      rw [if_pos hk, if_neg h2]
      obtain ⟨q, hq, e1, q0, q1, m0, m1, m2⟩ := mon_facts hk
      rw [hq] at h2
      clear hq hk h
      generalize mon k = m at *
      have m3 : (m == 0) = false := beq_eq_false_iff_ne.2 m0
      by_cases c1 : p < 0
      · go_enter Tryd.func30, Tryd.ntmps30
        go_wp2_with fail
        refine (HM.out _).mono ?_; rintro e w' ⟨rfl, rfl⟩
        go_wp2
        go_ret3
        exact ⟨rfl, rfl⟩
      have c2 : q ≤ p := by omega
      clear h2
      go_enter Tryd.func30, Tryd.ntmps30
      go_wp2_with fail
      refine (HM.out _).mono ?_; rintro e w' ⟨rfl, rfl⟩
      go_wp2
      go_ret3
      exact ⟨rfl, rfl⟩
    · rw [if_neg hk]
      rw [mon_none hk] at HM
      clear hk h
      go_enter Tryd.func30, Tryd.ntmps30
      go_wp2_with fail
      refine (HM.out _).mono ?_; rintro e w' ⟨rfl, rfl⟩
      go_wp2
      go_ret3
      exact ⟨rfl, rfl⟩
end Go.Proofs.YtlbbampmonkleaaDoor

/- Mathematics of periods: months numbered from the year 1 on. -/
import Derived.Test.YtlbbampmonkleaaDoorPerD
namespace Go.Proofs.YtlbbampmonkleaaDoor
set_option linter.unusedVariables false
set_option linter.unusedSimpArgs false
open Go.RowKit

/-- The first and the last day of a month. -/
def mday (n : Int) : Int := dayOf (yOf n) (mOf n) 1
def mend (n : Int) : Int := dayOf (yOf n) (mOf n) (mlen (yOf n) (mOf n))

theorem ym_bd {n : Int} (h0 : 0 ≤ n) (h1 : n ≤ 119987) : 1 ≤ yOf n ∧ yOf n ≤ 9999 ∧ 1 ≤ mOf n ∧ mOf n ≤ 12 ∧ 12 * (yOf n - 1) + mOf n - 1 = n := by
  unfold yOf mOf; omega
theorem ym_of {y m : Int} (m0 : 1 ≤ m) (m1 : m ≤ 12) : yOf (12 * (y - 1) + m - 1) = y ∧ mOf (12 * (y - 1) + m - 1) = m := by
  unfold yOf mOf; omega
theorem v_first {n : Int} (h0 : 0 ≤ n) (h1 : n ≤ 119987) : Valid (yOf n) (mOf n) 1 := by
  obtain ⟨a, b, c, d, _⟩ := ym_bd h0 h1
  exact ⟨a, b, c, d, by omega, by have := (mlen_bd _ _ a b c d).1; omega⟩
theorem v_last {n : Int} (h0 : 0 ≤ n) (h1 : n ≤ 119987) : Valid (yOf n) (mOf n) (mlen (yOf n) (mOf n)) := by
  obtain ⟨a, b, c, d, _⟩ := ym_bd h0 h1
  exact ⟨a, b, c, d, by have := (mlen_bd _ _ a b c d).1; omega, Int.le_refl _⟩

theorem mend_succ {n : Int} (h0 : 0 ≤ n) (h1 : n < 119987) : mend n + 1 = mday (n + 1) := by
  obtain ⟨a, b, c, d, e⟩ := ym_bd h0 (by omega)
  unfold mend mday dayOf
  by_cases h : mOf n = 12
  · have hy : yOf (n + 1) = yOf n + 1 := by unfold yOf mOf at *; omega
    have hm : mOf (n + 1) = 1 := by unfold yOf mOf at *; omega
    rw [hy, hm, h, ahead_succ, before_one]
    have := before_12 (yOf n) a b
    omega
  · have hy : yOf (n + 1) = yOf n := by unfold yOf mOf at *; omega
    have hm : mOf (n + 1) = mOf n + 1 := by unfold yOf mOf at *; omega
    rw [hy, hm, before_succ _ _ a b c (by omega)]
    omega

theorem mday_le {n n' : Int} (h0 : 0 ≤ n) (h : n ≤ n') (h1 : n' ≤ 119987) : mday n ≤ mday n' := by
  by_cases e : n = n'
  · rw [e]; exact Int.le_refl _
  · refine Int.le_of_lt (day_lt (v_first h0 (by omega)) (v_first (by omega) h1) ?_)
    unfold Later yOf mOf; omega
theorem mend_le {n n' : Int} (h0 : 0 ≤ n) (h : n ≤ n') (h1 : n' ≤ 119987) : mend n ≤ mend n' := by
  by_cases e : n = n'
  · rw [e]; exact Int.le_refl _
  · refine Int.le_of_lt (day_lt (v_last h0 (by omega)) (v_last (by omega) h1) ?_)
    unfold Later yOf mOf; omega

/-- A date's month. -/
theorem month_in {y m d : Int} (hv : Valid y m d) : 0 ≤ 12 * (y - 1) + m - 1 ∧ 12 * (y - 1) + m - 1 ≤ 119987 ∧ mday (12 * (y - 1) + m - 1) ≤ dayOf y m d ∧ dayOf y m d ≤ mend (12 * (y - 1) + m - 1) := by
  obtain ⟨y0, y1, m0, m1, d0, d1⟩ := hv
  obtain ⟨a, b⟩ := ym_of (y := y) m0 m1
  refine ⟨by omega, by omega, ?_, ?_⟩
  · unfold mday dayOf; rw [a, b]; omega
  · unfold mend dayOf; rw [a, b]; omega
/-- A later day's month is no earlier. -/
theorem month_mono {y m d y' m' d' : Int} (hv : Valid y m d) (hv' : Valid y' m' d') (h : dayOf y m d ≤ dayOf y' m' d') : 12 * (y - 1) + m - 1 ≤ 12 * (y' - 1) + m' - 1 := by
  rcases later_total y m d y' m' d' with h1 | h1 | h1
  · have := (later_iff hv hv').1 h1; omega
  · obtain ⟨_, _, m0, m1, _⟩ := hv; obtain ⟨_, _, m2, m3, _⟩ := hv'
    unfold Later at h1; omega
  · omega

theorem inCal_of {k n : Int} (hk : 1 ≤ k ∧ k ≤ 4) (h0 : 0 ≤ n) (h1 : n ≤ 119987) : InCal k (n / mon k) := by
  refine ⟨hk, ?_, ?_⟩
  · rcases mon_cases hk with ⟨_, h⟩ | ⟨_, h⟩ | ⟨_, h⟩ | ⟨_, h⟩ <;> rw [h] <;> omega
  · rcases mon_cases hk with ⟨_, h⟩ | ⟨_, h⟩ | ⟨_, h⟩ | ⟨_, h⟩ <;> rw [h] <;> omega

theorem dayRes_ok {y m d : Int} (h : Valid y m d) : dayRes y m d = (dayOf y m d, 0) := by
  unfold dayRes; rw [if_pos ((valid_iff y m d).1 h)]

theorem first_ok {k p : Int} (h : InCal k p) : firstRes k p = (mday (p * mon k), 0) := by
  obtain ⟨_, a, b, _⟩ := inCal_bd h
  unfold firstRes
  rw [if_pos ((inCal_iff k p).1 h)]
  have := (mon_facts h.1)
  obtain ⟨_, _, _, _, _, _, c, _⟩ := this
  exact dayRes_ok (v_first a (by omega))
theorem last_ok {k p : Int} (h : InCal k p) : lastRes k p = (mend (p * mon k + (mon k - 1)), 0) := by
  obtain ⟨_, a, b, _⟩ := inCal_bd h
  unfold lastRes
  rw [if_pos ((inCal_iff k p).1 h)]
  have := (mon_facts h.1)
  obtain ⟨_, _, _, _, _, _, c, _⟩ := this
  exact dayRes_ok (v_last (by omega) (by omega))

theorem n_Of_month (k n d : Int) (hk : 1 ≤ k ∧ k ≤ 4) (h0 : 0 ≤ n) (h1 : n ≤ 119987) (hd : Valid (yOf n) (mOf n) d) (v : Int) (hv : dayOf (yOf n) (mOf n) d = v) (w : World) (ht : CTab w) : Calls Tryd.prog 9 #[.int .i64 k, .int .i64 v] w fun e w' => e = .returned (.tuple #[.int .i64 (n / mon k), .int .i64 0]) ∧ Junk w w' := by
  have := n_Of k v _ _ d hk hd hv w ht
  rwa [(ym_bd h0 h1).2.2.2.2] at this

/-- Two days of one year. -/
theorem year_span {y m d m' d' : Int} (hv : Valid y m d) (hv' : Valid y m' d') : dayOf y m' d' - dayOf y m d < 366 := by
  have hv0 := hv
  obtain ⟨y0, y1, m0, m1, d0, d1⟩ := hv
  obtain ⟨_, _, m2, m3, d2, d3⟩ := hv'
  have e12 := before_12 y y0 y1
  have hl := leapI_bd y
  have b1 := (before_bd y m m0 m1).1
  have b2 : beforeM y m' + mlen y m' ≤ beforeM y 12 + mlen y 12 := by
    by_cases e : m' = 12
    · rw [e]; exact Int.le_refl _
    · have h1 := before_lt y y0 y1 m' m2 (11 - m').toNat (by omega)
      rw [show m' + 1 + ((11 - m').toNat : Int) = 12 by omega] at h1
      have h3 := (mlen_bd y 12 y0 y1 (by omega) (by omega)).1
      omega
  unfold dayOf
  omega

theorem div_same_year {k n n' : Int} (hk : 1 ≤ k ∧ k ≤ 4) (h : n / mon k = n' / mon k) : n / 12 = n' / 12 := by
  rcases mon_cases hk with ⟨_, e⟩ | ⟨_, e⟩ | ⟨_, e⟩ | ⟨_, e⟩ <;> rw [e] at h <;> omega
end Go.Proofs.YtlbbampmonkleaaDoor

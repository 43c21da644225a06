/- The calendar: which day a date is, by years and months; every day has one date; the date behind. No program. -/
import Derived.KernelRfl
namespace Go.Proofs.YtlbbampmonkleaaDoor
set_option linter.unusedVariables false
set_option linter.unusedSimpArgs false

def leapB (y : Int) : Bool := decide (y % 4 = 0) && (decide (y % 100 ≠ 0) || decide (y % 400 = 0))
def leapI (y : Int) : Int := if leapB y then 1 else 0
theorem leapI_cases (y : Int) : (leapB y = true ∧ leapI y = 1 ∧ y % 4 = 0 ∧ (y % 100 ≠ 0 ∨ y % 400 = 0)) ∨ (leapB y = false ∧ leapI y = 0 ∧ ¬ (y % 4 = 0 ∧ (y % 100 ≠ 0 ∨ y % 400 = 0))) := by
  unfold leapI
  cases h : leapB y with
  | true => left; unfold leapB at h; simp at h; exact ⟨rfl, rfl, h⟩
  | false => right; unfold leapB at h; refine ⟨rfl, rfl, ?_⟩; rintro ⟨h1, h2⟩; simp [h1] at h; omega

/-- The length of a month; 0 if there is none. -/
def mlen (y m : Int) : Int :=
  if y < 1 ∨ 9999 < y ∨ m < 1 ∨ 12 < m then 0 else if m = 2 then 28 + leapI y else if m = 4 ∨ m = 6 ∨ m = 9 ∨ m = 11 then 30 else 31
/-- The days of the years ahead of one. -/
def aheadY (y : Int) : Int := 365 * (y - 1) + (y - 1) / 4 - (y - 1) / 100 + (y - 1) / 400
/-- The days of a year's months ahead of one. -/
def beforeM (y m : Int) : Int :=
  if m = 1 then 0 else if m = 2 then 31 else
  (if m = 3 then 59 else if m = 4 then 90 else if m = 5 then 120 else if m = 6 then 151 else if m = 7 then 181 else if m = 8 then 212 else if m = 9 then 243 else if m = 10 then 273 else if m = 11 then 304 else 334) + leapI y

theorem ahead_succ (y : Int) : aheadY (y + 1) = aheadY y + 365 + leapI y := by
  unfold aheadY
  rcases leapI_cases y with ⟨_, h, h1, h2⟩ | ⟨_, h, h1⟩ <;> rw [h] <;> omega
theorem ahead_400 (y : Int) : aheadY (y + 400) = aheadY y + 146097 := by unfold aheadY; omega
theorem leap_400 (y : Int) : leapI (y + 400) = leapI y := by
  rcases leapI_cases y with ⟨_, h, h1, h2⟩ | ⟨_, h, h1⟩ <;> rcases leapI_cases (y + 400) with ⟨_, g, g1, g2⟩ | ⟨_, g, g1⟩ <;> rw [h, g] <;> exfalso <;> omega
theorem ahead_mono (y y' : Int) (h : y ≤ y') : aheadY y ≤ aheadY y' := by unfold aheadY; omega

theorem leapI_bd (y : Int) : 0 ≤ leapI y ∧ leapI y ≤ 1 := by rcases leapI_cases y with ⟨_, h, _⟩ | ⟨_, h, _⟩ <;> omega

theorem month_cases (m : Int) (h0 : 1 ≤ m) (h1 : m ≤ 12) : m = 1 ∨ m = 2 ∨ m = 3 ∨ m = 4 ∨ m = 5 ∨ m = 6 ∨ m = 7 ∨ m = 8 ∨ m = 9 ∨ m = 10 ∨ m = 11 ∨ m = 12 := by omega

theorem mlen_in (y m : Int) (y0 : 1 ≤ y) (y1 : y ≤ 9999) (h0 : 1 ≤ m) (h1 : m ≤ 12) : mlen y m = if m = 2 then 28 + leapI y else if m = 4 ∨ m = 6 ∨ m = 9 ∨ m = 11 then 30 else 31 := if_neg (by omega)
theorem before_succ (y m : Int) (y0 : 1 ≤ y) (y1 : y ≤ 9999) (h0 : 1 ≤ m) (h1 : m < 12) : beforeM y (m + 1) = beforeM y m + mlen y m := by
  rw [mlen_in y m y0 y1 h0 (by omega)]
  rcases month_cases m h0 (by omega) with rfl | rfl | rfl | rfl | rfl | rfl | rfl | rfl | rfl | rfl | rfl | rfl <;> simp [beforeM] <;> omega
theorem before_12 (y : Int) (y0 : 1 ≤ y) (y1 : y ≤ 9999) : beforeM y 12 + mlen y 12 = 365 + leapI y := by
  rw [mlen_in y 12 y0 y1 (by omega) (by omega)]; simp [beforeM]; omega
theorem mlen_bd (y m : Int) (y0 : 1 ≤ y) (y1 : y ≤ 9999) (h0 : 1 ≤ m) (h1 : m ≤ 12) : 28 ≤ mlen y m ∧ mlen y m ≤ 31 := by
  have := leapI_bd y
  rw [mlen_in y m y0 y1 h0 h1]; split
  · omega
  · split <;> omega
theorem before_bd (y m : Int) (h0 : 1 ≤ m) (h1 : m ≤ 12) : 0 ≤ beforeM y m ∧ beforeM y m ≤ 335 := by
  have := leapI_bd y
  rcases month_cases m h0 h1 with rfl | rfl | rfl | rfl | rfl | rfl | rfl | rfl | rfl | rfl | rfl | rfl <;> simp [beforeM] <;> omega
/-- A later month begins behind an earlier one's end. -/
theorem before_lt (y : Int) (y0 : 1 ≤ y) (y1 : y ≤ 9999) (m : Int) (h0 : 1 ≤ m) : ∀ (k : Nat), m + 1 + k ≤ 12 → beforeM y m + mlen y m ≤ beforeM y (m + 1 + k)
  | 0, h => by rw [show m + 1 + ((0 : Nat) : Int) = m + 1 by omega, before_succ y m y0 y1 h0 (by omega)]; exact Int.le_refl _
  | k + 1, h => by
    have ih := before_lt y y0 y1 m h0 k (by omega)
    have h2 := before_succ y (m + 1 + k) y0 y1 (by omega) (by omega)
    have h3 := (mlen_bd y (m + 1 + k) y0 y1 (by omega) (by omega)).1
    rw [show m + 1 + ((k + 1 : Nat) : Int) = m + 1 + (k : Int) + 1 by omega, h2]; omega

/-- Is that a date? -/
def Valid (y m d : Int) : Prop := 1 ≤ y ∧ y ≤ 9999 ∧ 1 ≤ m ∧ m ≤ 12 ∧ 1 ≤ d ∧ d ≤ mlen y m
theorem valid_iff (y m d : Int) : Valid y m d ↔ (1 ≤ d ∧ d ≤ mlen y m) := by
  constructor
  · rintro ⟨_, _, _, _, h⟩; exact h
  · rintro ⟨h1, h2⟩
    by_cases c : y < 1 ∨ 9999 < y ∨ m < 1 ∨ 12 < m
    · unfold mlen at h2; rw [if_pos c] at h2; omega
    · exact ⟨by omega, by omega, by omega, by omega, h1, h2⟩
/-- The day of a date. -/
def dayOf (y m d : Int) : Int := aheadY y + beforeM y m + d - 1
def Later (y m d y' m' d' : Int) : Prop := y' < y ∨ (y = y' ∧ (m' < m ∨ (m = m' ∧ d' < d)))

theorem day_lt {y m d y' m' d' : Int} (h : Valid y m d) (h' : Valid y' m' d') (l : Later y' m' d' y m d) : dayOf y m d < dayOf y' m' d' := by
  obtain ⟨y0, y1, m0, m1, d0, d1⟩ := h
  obtain ⟨y0', y1', m0', m1', d0', d1'⟩ := h'
  unfold dayOf
  rcases l with l | ⟨rfl, l | ⟨rfl, l⟩⟩
  · have a1 := ahead_mono (y + 1) y' (by omega)
    rw [ahead_succ] at a1
    have b1 := (before_bd y' m' m0' m1').1
    have b2 : beforeM y m + mlen y m ≤ 365 + leapI y := by
      by_cases e : m = 12
      · rw [e, before_12 y y0 y1]; exact Int.le_refl _
      · have h1 := before_lt y y0 y1 m m0 (11 - m).toNat (by omega)
        rw [show m + 1 + ((11 - m).toNat : Int) = 12 by omega] at h1
        have h2 := before_12 y y0 y1
        have h3 := (mlen_bd y 12 y0 y1 (by omega) (by omega)).1
        omega
    omega
  · have h1 := before_lt y' y0' y1' m m0 (m' - m - 1).toNat (by omega)
    rw [show m + 1 + ((m' - m - 1).toNat : Int) = m' by omega] at h1
    omega
  · omega

theorem later_total (y m d y' m' d' : Int) : Later y m d y' m' d' ∨ Later y' m' d' y m d ∨ (y = y' ∧ m = m' ∧ d = d') := by unfold Later; omega
theorem later_iff {y m d y' m' d' : Int} (h : Valid y m d) (h' : Valid y' m' d') : Later y m d y' m' d' ↔ dayOf y' m' d' < dayOf y m d := by
  constructor
  · exact day_lt h' h
  · intro g
    rcases later_total y m d y' m' d' with l | l | ⟨rfl, rfl, rfl⟩
    · exact l
    · have := day_lt h h' l; omega
    · omega
theorem date_unique {y m d y' m' d' : Int} (h : Valid y m d) (h' : Valid y' m' d') (e : dayOf y m d = dayOf y' m' d') : y = y' ∧ m = m' ∧ d = d' := by
  rcases later_total y m d y' m' d' with l | l | l
  · have := day_lt h' h l; omega
  · have := day_lt h h' l; omega
  · exact l
theorem day_bd {y m d : Int} (h : Valid y m d) : 0 ≤ dayOf y m d ∧ dayOf y m d ≤ 3652058 := by
  have v0 : Valid 1 1 1 := by unfold Valid; decide
  have v1 : Valid 9999 12 31 := by unfold Valid; decide
  have e0 : dayOf 1 1 1 = 0 := by decide
  have e1 : dayOf 9999 12 31 = 3652058 := by decide
  obtain ⟨y0, y1, m0, m1, d0, d1⟩ := h
  have hv : Valid y m d := ⟨y0, y1, m0, m1, d0, d1⟩
  have hb := mlen_bd y m y0 y1 m0 m1
  constructor
  · rcases later_total y m d 1 1 1 with l | l | ⟨rfl, rfl, rfl⟩
    · have := day_lt v0 hv l; omega
    · unfold Later at l; omega
    · omega
  · rcases later_total y m d 9999 12 31 with l | l | ⟨rfl, rfl, rfl⟩
    · unfold Later at l; omega
    · have := day_lt hv v1 l; omega
    · omega

/-- The date behind: the next day of the month, the next month's first, or the next year's. -/
def Next (y m d y' m' d' : Int) : Prop := (y' = y ∧ m' = m ∧ d' = d + 1) ∨ (y' = y ∧ m' = m + 1 ∧ d' = 1 ∧ d = mlen y m) ∨ (y' = y + 1 ∧ m' = 1 ∧ d' = 1 ∧ m = 12 ∧ d = 31)
theorem next_date {y m d : Int} (h : Valid y m d) (hl : dayOf y m d < 3652058) : ∃ y' m' d', Valid y' m' d' ∧ dayOf y' m' d' = dayOf y m d + 1 ∧ Next y m d y' m' d' := by
  obtain ⟨y0, y1, m0, m1, d0, d1⟩ := h
  by_cases c1 : d < mlen y m
  · exact ⟨y, m, d + 1, ⟨y0, y1, m0, m1, by omega, by omega⟩, by unfold dayOf; omega, .inl ⟨rfl, rfl, rfl⟩⟩
  · have hd : d = mlen y m := by omega
    by_cases c2 : m < 12
    · have h1 := before_succ y m y0 y1 m0 c2
      have h2 := (mlen_bd y (m + 1) y0 y1 (by omega) (by omega)).1
      exact ⟨y, m + 1, 1, ⟨y0, y1, by omega, by omega, by omega, by omega⟩, by unfold dayOf; omega, .inr (.inl ⟨rfl, rfl, rfl, hd⟩)⟩
    · obtain rfl : m = 12 := by omega
      have h1 := before_12 y y0 y1
      have h2 := ahead_succ y
      have e31 : mlen y 12 = 31 := by rw [mlen_in y 12 y0 y1 (by omega) (by omega)]; simp
      have hy : y < 9999 := by
        by_cases g : y < 9999
        · exact g
        · exfalso
          obtain rfl : y = 9999 := by omega
          have e1 : dayOf 9999 12 31 = 3652058 := by decide
          rw [hd, e31] at hl; omega
      have h3 := (mlen_bd (y + 1) 1 (by omega) (by omega) (by omega) (by omega)).1
      have h4 : beforeM (y + 1) 1 = 0 := by simp [beforeM]
      exact ⟨y + 1, 1, 1, ⟨by omega, by omega, by omega, by omega, by omega, by omega⟩, by unfold dayOf; omega, .inr (.inr ⟨rfl, rfl, rfl, rfl, by omega⟩)⟩
theorem date_exists : ∀ (n : Nat), n ≤ 3652058 → ∃ y m d, Valid y m d ∧ dayOf y m d = n
  | 0, _ => ⟨1, 1, 1, by unfold Valid; decide, by decide⟩
  | n + 1, h => by
    obtain ⟨y, m, d, hv, e⟩ := date_exists n (by omega)
    obtain ⟨y', m', d', hv', e', _⟩ := next_date hv (by omega)
    exact ⟨y', m', d', hv', by rw [e', e]; omega⟩
/-- 400 years on. -/
theorem day_400 {y m d : Int} (h : Valid y m d) (hy : y ≤ 9599) : Valid (y + 400) m d ∧ dayOf (y + 400) m d = dayOf y m d + 146097 := by
  obtain ⟨y0, y1, m0, m1, d0, d1⟩ := h
  refine ⟨⟨by omega, by omega, m0, m1, d0, ?_⟩, ?_⟩
  · rw [mlen_in (y + 400) m (by omega) (by omega) m0 m1, leap_400, ← mlen_in y m y0 y1 m0 m1]; exact d1
  · unfold dayOf
    rw [ahead_400]
    have : beforeM (y + 400) m = beforeM y m := by unfold beforeM; rw [leap_400]
    omega
end Go.Proofs.YtlbbampmonkleaaDoor

/- Text tells what Parse read; the law PeriodBack. Condition: civil's and strconv's tables are as laid. -/
import Derived.Test.YtlbbampmonkleaaDoorPerN
import Derived.Test.YtlbbampmonkleaaDoorPerL1
namespace Go.Proofs.YtlbbampmonkleaaDoor
set_option linter.unusedVariables false
set_option linter.unusedSimpArgs false
open Go.RowKit

theorem kd_cases {b : UInt8} (h : 1 ≤ kd b.toNat) : (b = 77 ∧ kd b.toNat = 1) ∨ (b = 81 ∧ kd b.toNat = 2) ∨ (b = 72 ∧ kd b.toNat = 3) := by
  have e : kd b.toNat = if b.toNat = 77 then 1 else if b.toNat = 81 then 2 else if b.toNat = 72 then 3 else 0 := rfl
  by_cases h1 : b.toNat = 77
  · exact .inl ⟨UInt8.toNat_inj.1 h1, by rw [e, if_pos h1]⟩
  by_cases h2 : b.toNat = 81
  · exact .inr (.inl ⟨UInt8.toNat_inj.1 h2, by rw [e, if_neg h1, if_pos h2]⟩)
  by_cases h3 : b.toNat = 72
  · exact .inr (.inr ⟨UInt8.toNat_inj.1 h3, by rw [e, if_neg h1, if_neg h2, if_pos h3]⟩)
  · rw [e, if_neg h1, if_neg h2, if_neg h3] at h; omega

theorem parse_text {L : List UInt8} {a b e d : Int} (h : parseP L = (a, b, e, d)) :
    (e ≠ 0 ∧ a = 0 ∧ b = 0 ∧ 0 ≤ d ∧ d ≤ L.length) ∨ (e = 0 ∧ InCal a b ∧ ∃ y m : Nat, (y : Int) = b * mon a / 12 + 1 ∧ (m : Int) = b * mon a % 12 + 1 ∧ tx a y m = L) := by
  by_cases hc : Compl L
  case neg =>
    unfold parseP at h
    rw [if_neg hc] at h
    injection h with h1 h; injection h with h2 h; injection h with h3 h4
    have := (stop_spec L).2.2.2
    exact .inl ⟨by omega, h1.symm, h2.symm, by omega, by omega⟩
  obtain ⟨c1, c2, c3, c4, c5, c6⟩ := compl_facts hc
  by_cases hr : foldP L 0 4 < 1 ∨ nOf L < 1 ∨ (perY (kOf L) : Int) < nOf L
  · unfold parseP at h
    rw [if_pos hc, if_pos hr] at h
    injection h with h1 h; injection h with h2 h; injection h with h3 h4
    exact .inl ⟨by omega, h1.symm, h2.symm, by omega, by omega⟩
  · unfold parseP at h
    rw [if_pos hc, if_neg hr] at h
    injection h with h1 h; injection h with h2 h; injection h with h3 h4
    refine .inr ⟨h3.symm, ?_⟩
    subst h1
    by_cases l4 : L.length = 4
    · match L, l4 with
      | [x0, x1, x2, x3], _ =>
        have d0 : Dig x0.toNat := c5 0 (by omega)
        have d1 : Dig x1.toNat := c5 1 (by omega)
        have d2 : Dig x2.toNat := c5 2 (by omega)
        have d3 : Dig x3.toNat := c5 3 (by omega)
        have hy : foldP [x0, x1, x2, x3] 0 4 = num4 x0 x1 x2 x3 := by
          simp only [foldP, byteAt, num4, List.getD_cons_zero, List.getD_cons_succ, Nat.zero_add]; omega
        rw [hy] at hr h2
        rw [show kOf [x0, x1, x2, x3] = 4 from rfl, show nOf [x0, x1, x2, x3] = 1 from rfl, show perY 4 = 1 from rfl] at h2 hr
        have hd := dgs4_of d0 d1 d2 d3 (y := (num4 x0 x1 x2 x3).toNat) (by omega)
        have hn : num4 x0 x1 x2 x3 ≤ 9999 := by unfold num4 Dig at *; omega
        rw [show ((kOf [x0, x1, x2, x3] : Nat) : Int) = 4 from rfl, show mon 4 = 12 from rfl]
        refine ⟨⟨by omega, by omega, by rw [show mon 4 = 12 from rfl]; omega⟩, (num4 x0 x1 x2 x3).toNat, 1, by omega, by omega, ?_⟩
        show dgs 4 (num4 x0 x1 x2 x3).toNat ++ [] = _
        rw [hd]; rfl
    · obtain ⟨l6, k1, l8, b4, c7⟩ := c6 l4
      have hko : kOf L = kd (byteAt L 5) := if_neg l4
      have hno : nOf L = foldP L 6 (dOf (kd (byteAt L 5))) := if_neg l4
      rw [hko, hno] at hr h2
      rw [hko]
      by_cases l7 : L.length = 7
      · match L, l7 with
        | [x0, x1, x2, x3, x4, x5, x6], _ =>
          have d0 : Dig x0.toNat := c5 0 (by omega)
          have d1 : Dig x1.toNat := c5 1 (by omega)
          have d2 : Dig x2.toNat := c5 2 (by omega)
          have d3 : Dig x3.toNat := c5 3 (by omega)
          have d6 : Dig x6.toNat := c7 0 (by have := (dOf_bd (kd (byteAt [x0, x1, x2, x3, x4, x5, x6] 5))).1; omega)
          have e4 : x4 = 45 := UInt8.toNat_inj.1 b4
          have hy : foldP [x0, x1, x2, x3, x4, x5, x6] 0 4 = num4 x0 x1 x2 x3 := by
            simp only [foldP, byteAt, num4, List.getD_cons_zero, List.getD_cons_succ, Nat.zero_add]; omega
          rw [hy] at hr h2
          rw [show byteAt [x0, x1, x2, x3, x4, x5, x6] 5 = x5.toNat from rfl] at *
          have hn : num4 x0 x1 x2 x3 ≤ 9999 := by unfold num4 Dig at *; omega
          have hd := dgs4_of d0 d1 d2 d3 (y := (num4 x0 x1 x2 x3).toNat) (by omega)
          have h6 : foldP [x0, x1, x2, x3, x4, x5, x6] 6 1 = (x6.toNat : Int) - 48 := by
            show 10 * 0 + ((x6.toNat : Int) - 48) = _
            omega
          have d6' := d6
          unfold Dig at d6'
          rcases kd_cases k1 with ⟨e5, ek⟩ | ⟨e5, ek⟩ | ⟨e5, ek⟩
          · rw [ek] at l8; simp [dOf] at l8
          · rw [ek, show dOf 2 = 1 from rfl, h6, show perY 2 = 4 from rfl] at hr h2
            rw [ek, show ((2 : Nat) : Int) = 2 from rfl, show mon 2 = 3 from rfl]
            refine ⟨⟨by omega, by omega, by rw [show mon 2 = 3 from rfl]; omega⟩, (num4 x0 x1 x2 x3).toNat, 3 * (x6.toNat - 49) + 1, by omega, by omega, ?_⟩
            show dgs 4 (num4 x0 x1 x2 x3).toNat ++ ([45, 81] ++ dgs 1 ((3 * (x6.toNat - 49) + 1 - 1) / 3 + 1)) = _
            rw [hd, dgs1, dig_byte d6 (by omega), e4, e5]; rfl
          · rw [ek, show dOf 3 = 1 from rfl, h6, show perY 3 = 2 from rfl] at hr h2
            rw [ek, show ((3 : Nat) : Int) = 3 from rfl, show mon 3 = 6 from rfl]
            refine ⟨⟨by omega, by omega, by rw [show mon 3 = 6 from rfl]; omega⟩, (num4 x0 x1 x2 x3).toNat, 6 * (x6.toNat - 49) + 1, by omega, by omega, ?_⟩
            show dgs 4 (num4 x0 x1 x2 x3).toNat ++ ([45, 72] ++ dgs 1 ((6 * (x6.toNat - 49) + 1 - 1) / 6 + 1)) = _
            rw [hd, dgs1, dig_byte d6 (by omega), e4, e5]; rfl
      · have l8' : L.length = 8 := by omega
        match L, l8' with
        | [x0, x1, x2, x3, x4, x5, x6, x7], _ =>
          have d0 : Dig x0.toNat := c5 0 (by omega)
          have d1 : Dig x1.toNat := c5 1 (by omega)
          have d2 : Dig x2.toNat := c5 2 (by omega)
          have d3 : Dig x3.toNat := c5 3 (by omega)
          have e4 : x4 = 45 := UInt8.toNat_inj.1 b4
          have hy : foldP [x0, x1, x2, x3, x4, x5, x6, x7] 0 4 = num4 x0 x1 x2 x3 := by
            simp only [foldP, byteAt, num4, List.getD_cons_zero, List.getD_cons_succ, Nat.zero_add]; omega
          rw [hy] at hr h2
          rw [show byteAt [x0, x1, x2, x3, x4, x5, x6, x7] 5 = x5.toNat from rfl] at *
          have hn : num4 x0 x1 x2 x3 ≤ 9999 := by unfold num4 Dig at *; omega
          have hd := dgs4_of d0 d1 d2 d3 (y := (num4 x0 x1 x2 x3).toNat) (by omega)
          rcases kd_cases k1 with ⟨e5, ek⟩ | ⟨e5, ek⟩ | ⟨e5, ek⟩
          · have d6 : Dig x6.toNat := c7 0 (by rw [ek]; decide)
            have d7 : Dig x7.toNat := c7 1 (by rw [ek]; decide)
            have h6 : foldP [x0, x1, x2, x3, x4, x5, x6, x7] 6 2 = 10 * ((x6.toNat : Int) - 48) + ((x7.toNat : Int) - 48) := by
              show 10 * (10 * 0 + ((x6.toNat : Int) - 48)) + ((x7.toNat : Int) - 48) = _
              omega
            have d6' := d6; have d7' := d7
            unfold Dig at d6' d7'
            rw [ek, show dOf 1 = 2 from rfl, h6, show perY 1 = 12 from rfl] at hr h2
            rw [ek, show ((1 : Nat) : Int) = 1 from rfl, show mon 1 = 1 from rfl]
            refine ⟨⟨by omega, by omega, by rw [show mon 1 = 1 from rfl]; omega⟩, (num4 x0 x1 x2 x3).toNat, 10 * (x6.toNat - 48) + (x7.toNat - 48), by omega, by omega, ?_⟩
            show dgs 4 (num4 x0 x1 x2 x3).toNat ++ ([45, 77] ++ dgs 2 (10 * (x6.toNat - 48) + (x7.toNat - 48))) = _
            rw [hd, dgs2, dig_byte d6 (by omega), dig_byte d7 (by omega), e4, e5]; rfl
          · rw [ek] at l8; simp [dOf] at l8
          · rw [ek] at l8; simp [dOf] at l8
end Go.Proofs.YtlbbampmonkleaaDoor

/- Texts of periods, written and read: mathematics. -/
import Derived.Test.YtlbbampmonkleaaDoorPerP1
namespace Go.Proofs.YtlbbampmonkleaaDoor
set_option linter.unusedVariables false
set_option linter.unusedSimpArgs false
open Go.RowKit

/-- The number of four digits. -/
def num4 (a b c d : UInt8) : Int := 1000 * ((a.toNat : Int) - 48) + 100 * ((b.toNat : Int) - 48) + 10 * ((c.toNat : Int) - 48) + ((d.toNat : Int) - 48)

theorem dig_byte {x : UInt8} {n : Nat} (h : Dig x.toNat) (e : n % 10 = x.toNat - 48) : UInt8.ofNat (48 + n % 10) = x := by
  unfold Dig at h
  rw [e, show 48 + (x.toNat - 48) = x.toNat by omega]
  simp
theorem digit_of (n : Nat) : ∃ x : UInt8, Dig x.toNat ∧ UInt8.ofNat (48 + n % 10) = x ∧ n % 10 = x.toNat - 48 := by
  have h : (UInt8.ofNat (48 + n % 10)).toNat = 48 + n % 10 := by rw [UInt8.toNat_ofNat']; omega
  refine ⟨_, ?_, rfl, ?_⟩
  · rw [h]; unfold Dig; omega
  · rw [h]; omega

theorem dgs4 (y : Nat) : dgs 4 y = [UInt8.ofNat (48 + y / 10 / 10 / 10 % 10), UInt8.ofNat (48 + y / 10 / 10 % 10), UInt8.ofNat (48 + y / 10 % 10), UInt8.ofNat (48 + y % 10)] := by
  simp [dgs]
theorem dgs2 (y : Nat) : dgs 2 y = [UInt8.ofNat (48 + y / 10 % 10), UInt8.ofNat (48 + y % 10)] := by
  simp [dgs]
theorem dgs1 (y : Nat) : dgs 1 y = [UInt8.ofNat (48 + y % 10)] := by
  simp [dgs]

theorem dgs4_of {a b c d : UInt8} (ha : Dig a.toNat) (hb : Dig b.toNat) (hc : Dig c.toNat) (hd : Dig d.toNat) {y : Nat} (hy : (y : Int) = num4 a b c d) : dgs 4 y = [a, b, c, d] := by
  have ha' := ha; have hb' := hb; have hc' := hc; have hd' := hd
  unfold Dig at ha' hb' hc' hd'
  unfold num4 at hy
  rw [dgs4, dig_byte ha (by omega), dig_byte hb (by omega), dig_byte hc (by omega), dig_byte hd (by omega)]
theorem dgs4_ex (y : Nat) (h : y ≤ 9999) : ∃ a b c d : UInt8, Dig a.toNat ∧ Dig b.toNat ∧ Dig c.toNat ∧ Dig d.toNat ∧ (y : Int) = num4 a b c d ∧ dgs 4 y = [a, b, c, d] := by
  obtain ⟨a, ha, ea, na⟩ := digit_of (y / 10 / 10 / 10)
  obtain ⟨b, hb, eb, nb⟩ := digit_of (y / 10 / 10)
  obtain ⟨c, hc, ec, nc⟩ := digit_of (y / 10)
  obtain ⟨d, hd, ed, nd⟩ := digit_of y
  refine ⟨a, b, c, d, ha, hb, hc, hd, ?_, by rw [dgs4, ea, eb, ec, ed]⟩
  unfold Dig at ha hb hc hd
  unfold num4
  omega

theorem form4 {a b c d : UInt8} (ha : Dig a.toNat) (hb : Dig b.toNat) (hc : Dig c.toNat) (hd : Dig d.toNat) (h1 : 1 ≤ num4 a b c d) : parseP [a, b, c, d] = (4, num4 a b c d - 1, 0, 0) := by
  have hgt : GT [a, b, c, d] 4 := by
    intro j hj
    have : j = 0 ∨ j = 1 ∨ j = 2 ∨ j = 3 := by omega
    rcases this with rfl | rfl | rfl | rfl
    · exact ⟨by simp, (good_lt4 (by omega)).2 ha⟩
    · exact ⟨by simp, (good_lt4 (by omega)).2 hb⟩
    · exact ⟨by simp, (good_lt4 (by omega)).2 hc⟩
    · exact ⟨by simp, (good_lt4 (by omega)).2 hd⟩
  have hf : foldP [a, b, c, d] 0 4 = num4 a b c d := by
    simp only [foldP, byteAt, num4, List.getD_cons_zero, List.getD_cons_succ, Nat.zero_add]; omega
  rw [parse_ok hgt rfl (.inl rfl), show kOf [a, b, c, d] = 4 from rfl, show nOf [a, b, c, d] = 1 from rfl, show perY 4 = 1 from rfl, hf, if_neg (by omega)]
  simp

theorem form8 {a b c d e f : UInt8} (ha : Dig a.toNat) (hb : Dig b.toNat) (hc : Dig c.toNat) (hd : Dig d.toNat) (he : Dig e.toNat) (hf : Dig f.toNat) (h1 : 1 ≤ num4 a b c d) (n : Int) (hn : n = 10 * ((e.toNat : Int) - 48) + ((f.toNat : Int) - 48)) (n0 : 1 ≤ n) (n1 : n ≤ 12) :
    parseP [a, b, c, d, 45, 77, e, f] = (1, (num4 a b c d - 1) * 12 + n - 1, 0, 0) := by
  have hgt : GT [a, b, c, d, 45, 77, e, f] 8 := by
    intro j hj
    have : j = 0 ∨ j = 1 ∨ j = 2 ∨ j = 3 ∨ j = 4 ∨ j = 5 ∨ j = 6 ∨ j = 7 := by omega
    rcases this with rfl | rfl | rfl | rfl | rfl | rfl | rfl | rfl
    · exact ⟨by simp, (good_lt4 (by omega)).2 ha⟩
    · exact ⟨by simp, (good_lt4 (by omega)).2 hb⟩
    · exact ⟨by simp, (good_lt4 (by omega)).2 hc⟩
    · exact ⟨by simp, (good_lt4 (by omega)).2 hd⟩
    · exact ⟨by simp, good_4.2 rfl⟩
    · exact ⟨by simp, good_5.2 (by simp [byteAt, kd])⟩
    · exact ⟨by simp, (good_6 (by omega)).2 ⟨by simp [byteAt, kd, dOf], he, .inl rfl⟩⟩
    · exact ⟨by simp, (good_6 (by omega)).2 ⟨by simp [byteAt, kd, dOf], hf, .inl rfl⟩⟩
  have hy : foldP [a, b, c, d, 45, 77, e, f] 0 4 = num4 a b c d := by
    simp only [foldP, byteAt, num4, List.getD_cons_zero, List.getD_cons_succ, Nat.zero_add]; omega
  have hno : nOf [a, b, c, d, 45, 77, e, f] = n := by
    rw [hn]
    show foldP [a, b, c, d, 45, 77, e, f] 6 2 = _
    simp only [foldP, byteAt, List.getD_cons_zero, List.getD_cons_succ]
    show 10 * (10 * 0 + ((e.toNat : Int) - 48)) + ((f.toNat : Int) - 48) = _
    omega
  rw [parse_ok hgt rfl (.inr ⟨by omega, rfl⟩), show kOf [a, b, c, d, 45, 77, e, f] = 1 from rfl, hno, show perY 1 = 12 from rfl, hy, if_neg (by omega)]
  rfl

theorem form7 {a b c d e g : UInt8} (k : Nat) (hk : kd g.toNat = k) (hk2 : k = 2 ∨ k = 3) (ha : Dig a.toNat) (hb : Dig b.toNat) (hc : Dig c.toNat) (hd : Dig d.toNat) (h1 : 1 ≤ num4 a b c d) (n : Int) (hn : n = (e.toNat : Int) - 48) (n0 : 1 ≤ n) (n1 : n ≤ perY k) :
    parseP [a, b, c, d, 45, g, e] = ((k : Int), (num4 a b c d - 1) * perY k + n - 1, 0, 0) := by
  have hp : perY k ≤ 4 := by rcases hk2 with rfl | rfl <;> decide
  have hdo : dOf k = 1 := by rcases hk2 with rfl | rfl <;> decide
  have h5 : byteAt [a, b, c, d, 45, g, e] 5 = g.toNat := rfl
  have hgt : GT [a, b, c, d, 45, g, e] 7 := by
    intro j hj
    have : j = 0 ∨ j = 1 ∨ j = 2 ∨ j = 3 ∨ j = 4 ∨ j = 5 ∨ j = 6 := by omega
    rcases this with rfl | rfl | rfl | rfl | rfl | rfl | rfl
    · exact ⟨by simp, (good_lt4 (by omega)).2 ha⟩
    · exact ⟨by simp, (good_lt4 (by omega)).2 hb⟩
    · exact ⟨by simp, (good_lt4 (by omega)).2 hc⟩
    · exact ⟨by simp, (good_lt4 (by omega)).2 hd⟩
    · exact ⟨by simp, good_4.2 rfl⟩
    · exact ⟨by simp, good_5.2 (by rw [h5, hk]; omega)⟩
    · refine ⟨by simp, (good_6 (by omega)).2 ?_⟩
      rw [h5, hk, hdo]
      have h6 : byteAt [a, b, c, d, 45, g, e] 6 = e.toNat := rfl
      rw [h6]
      exact ⟨by omega, by unfold Dig; omega, .inr ⟨by omega, by omega⟩⟩
  have hy : foldP [a, b, c, d, 45, g, e] 0 4 = num4 a b c d := by
    simp only [foldP, byteAt, num4, List.getD_cons_zero, List.getD_cons_succ, Nat.zero_add]; omega
  have hno : nOf [a, b, c, d, 45, g, e] = n := by
    rw [hn]
    unfold nOf
    rw [if_neg (by simp), h5, hk, hdo]
    show 10 * 0 + ((e.toNat : Int) - 48) = _
    omega
  have hko : kOf [a, b, c, d, 45, g, e] = k := by
    unfold kOf
    rw [if_neg (by simp), h5, hk]
  rw [parse_ok hgt rfl (.inr ⟨by omega, by rw [h5, hk, hdo]⟩), hko, hno, hy, if_neg (by omega)]

/-- Parse reads what Text wrote. -/
theorem text_parse {k p : Int} (h : InCal k p) {y m : Nat} (hy : (y : Int) = p * mon k / 12 + 1) (hm : (m : Int) = p * mon k % 12 + 1) : parseP (tx k y m) = (k, p, 0, 0) ∧ (tx k y m).length ≤ 8 := by
  obtain ⟨p0, s0, s1, s2, _⟩ := inCal_bd h
  obtain ⟨_, _, _, _, _, _, q1, q2⟩ := mon_facts h.1
  have y1 : 1 ≤ y ∧ y ≤ 9999 := by omega
  have m1 : 1 ≤ m ∧ m ≤ 12 := by omega
  obtain ⟨a, b, c, d, ha, hb, hc, hd, hn, h4⟩ := dgs4_ex y y1.2
  rcases mon_cases h.1 with ⟨rfl, e⟩ | ⟨rfl, e⟩ | ⟨rfl, e⟩ | ⟨rfl, e⟩ <;> rw [e] at hy hm
  · obtain ⟨x, hx, ex, nx⟩ := digit_of (m / 10)
    obtain ⟨z, hz, ez, nz⟩ := digit_of m
    have hT : tx 1 y m = [a, b, c, d, 45, 77, x, z] := by
      show dgs 4 y ++ ([45, 77] ++ dgs 2 m) = _
      rw [h4, dgs2, ex, ez]; rfl
    unfold Dig at hx hz
    rw [hT, form8 ha hb hc hd hx hz (by omega) m (by omega) (by omega) (by omega), ← hn]
    exact ⟨by rw [show ((y : Int) - 1) * 12 + m - 1 = p by omega], by simp⟩
  · obtain ⟨z, hz, ez, nz⟩ := digit_of ((m - 1) / 3 + 1)
    have hT : tx 2 y m = [a, b, c, d, 45, 81, z] := by
      show dgs 4 y ++ ([45, 81] ++ dgs 1 ((m - 1) / 3 + 1)) = _
      rw [h4, dgs1, ez]; rfl
    unfold Dig at hz
    rw [hT, form7 (g := 81) 2 rfl (.inl rfl) ha hb hc hd (by omega) (((m - 1) / 3 + 1 : Nat) : Int) (by omega) (by omega) (by rw [show perY 2 = 4 from rfl]; omega), ← hn, show perY 2 = 4 from rfl]
    exact ⟨by rw [show ((y : Int) - 1) * ((4 : Nat) : Int) + (((m - 1) / 3 + 1 : Nat) : Int) - 1 = p by omega]; rfl, by simp⟩
  · obtain ⟨z, hz, ez, nz⟩ := digit_of ((m - 1) / 6 + 1)
    have hT : tx 3 y m = [a, b, c, d, 45, 72, z] := by
      show dgs 4 y ++ ([45, 72] ++ dgs 1 ((m - 1) / 6 + 1)) = _
      rw [h4, dgs1, ez]; rfl
    unfold Dig at hz
    rw [hT, form7 (g := 72) 3 rfl (.inr rfl) ha hb hc hd (by omega) (((m - 1) / 6 + 1 : Nat) : Int) (by omega) (by omega) (by rw [show perY 3 = 2 from rfl]; omega), ← hn, show perY 3 = 2 from rfl]
    exact ⟨by rw [show ((y : Int) - 1) * ((2 : Nat) : Int) + (((m - 1) / 6 + 1 : Nat) : Int) - 1 = p by omega]; rfl, by simp⟩
  · have hT : tx 4 y m = [a, b, c, d] := by
      show dgs 4 y ++ [] = _
      rw [h4]; rfl
    rw [hT, form4 ha hb hc hd (by omega), ← hn]
    exact ⟨by rw [show (y : Int) - 1 = p by omega], by simp⟩
end Go.Proofs.YtlbbampmonkleaaDoor

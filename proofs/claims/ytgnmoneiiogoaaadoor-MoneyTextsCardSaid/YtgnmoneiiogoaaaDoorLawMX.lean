/- The laws MoneyTexts and MoneyBack, given what money's functions answer. -/
import Derived.Test.YtgnmoneiiogoaaaDoorLawMB
import Derived.Test.YtgnmoneiiogoaaaDoorMonM
namespace Go.Proofs.YtgnmoneiiogoaaaDoor
set_option linter.unusedVariables false
set_option linter.unusedSimpArgs false
open Go.RowKit

def textRes (v : Int) : List UInt8 × Int := if amtErr v = 0 then (amtText v, 0) else ([], 5)
def TextOk : Prop := ∀ (v : Int) (w : World), -9223372036854775808 ≤ v → v ≤ 9223372036854775807 → Tab w →
  Calls Tryd.prog 8 #[.int .i64 v] w fun e w' => e = .returned (.tuple #[.string ⟨(textRes v).1.toArray⟩, .int .i64 (textRes v).2]) ∧ Junk w w'
def ParseOk : Prop := ∀ (L : List UInt8) (w : World), L.length ≤ 1000 →
  Calls Tryd.prog 10 #[.string ⟨L.toArray⟩] w fun e w' => e = .returned (.tuple #[.int .i64 (parseM L).1, .agg #[.int .i64 (parseM L).2.1, .int .i64 (parseM L).2.2]]) ∧ Junk w w'

theorem m_Text' (v : Int) (w : World) (ht : Tab w) :
    Calls Tryd.prog 9 #[.int .i64 v] w fun e w' => e = .returned (.tuple #[.string ⟨(textRes v).1.toArray⟩, .int .i64 (textRes v).2]) ∧ Junk w w' := by
  unfold textRes
  rcases amtErr_two v with ⟨h, h0, h1⟩ | ⟨h, _⟩
  · rw [if_pos h]; exact m_Text v h0 h1 w ht
  · rw [if_neg (by rw [h]; decide)]; exact m_Text_out v h w

set_option maxRecDepth 100000 in
set_option maxHeartbeats 2000000 in
theorem l_moneyTexts (A : AwakeOk) (T : TextOk) (R : ParseOk) (v : Int) (L : List UInt8) (w : World) (htab : Tab w) (w0 : (Lit.int .i64 v).wf = true) (hL : L.length ≤ 9223372036854775807) :
    Calls Tryd.prog 3 #[.int .i64 v, .string ⟨L.toArray⟩] w fun e w' => e = .returned (.bool true) ∧ Junk w w' := by
  obtain ⟨v0, v1⟩ := bounds_i64 w0
  clear w0
  have HT := Lib.hid htab; clear htab
  by_cases h100 : 100 < L.length
  · go_enter Tryd.func3, Tryd.ntmps3
    go_wp2_with fail
    refine (A _).mono ?_; rintro e w' ⟨rfl, Ja, da, rfl⟩
    go_wp2
    go_ret
    exact ⟨by simp, junk_of_below (by (repeat' (first | (with_reducible exact Below.refl _ _) | (with_reducible assumption) | (with_reducible refine Below.alloc ?_ ?_ _) | (with_reducible refine Below.drew ?_) | (with_reducible refine below_drewN ?_ _) | (with_reducible refine below_plus ?_ ?_ _ _) | (with_reducible refine Below.setCell ?_ ?_ _) | (with_reducible refine Below.setRow ?_ ?_ _) | go_size)))⟩
  · have T1 := Lib.hid (fun w h => T v w v0 v1 h)
    have T2 := Lib.hid (m_Text' v)
    have P1 := Lib.hid (fun w => R L w (by omega))
    have P2 := Lib.hid (fun w => m_Parse L w (by omega) _ (Lib.hid rfl))
    generalize textRes v = t at *
    generalize parseM L = p at *
    obtain ⟨s, e⟩ := t
    obtain ⟨n, f, q⟩ := p
    generalize s.toArray = sa at *
    go_enter Tryd.func3, Tryd.ntmps3
    go_wp2_with fail
    refine (T1.out _ HT.out).mono ?_; rintro e w' ⟨rfl, J1, d1, rfl⟩
    go_wp2_with fail
    refine (T2.out _ (HT.out.plus _ _)).mono ?_; rintro e w' ⟨rfl, J2, d2, rfl⟩
    go_wp2_with fail
    refine (P1.out _).mono ?_; rintro e w' ⟨rfl, J3, d3, rfl⟩
    go_wp2_with fail
    refine (P2.out _).mono ?_; rintro e w' ⟨rfl, J4, d4, rfl⟩
    go_wp2_with fail
    refine (A _).mono ?_; rintro e w' ⟨rfl, J5, d5, rfl⟩
    go_wp2
    go_ret
    exact ⟨by simp, junk_of_below (by (repeat' (first | (with_reducible exact Below.refl _ _) | (with_reducible assumption) | (with_reducible refine Below.alloc ?_ ?_ _) | (with_reducible refine Below.drew ?_) | (with_reducible refine below_drewN ?_ _) | (with_reducible refine below_plus ?_ ?_ _ _) | (with_reducible refine Below.setCell ?_ ?_ _) | (with_reducible refine Below.setRow ?_ ?_ _) | go_size)))⟩

/-- What is no amount's text is told as 0, and where within it. -/
theorem parse_err (L : List UInt8) (n e q : Int) (h : parseM L = (n, e, q)) (he : e ≠ 0) : n = 0 ∧ 0 ≤ q ∧ q ≤ L.length := by
  unfold parseM at h
  by_cases h20 : 20 < L.length
  · rw [if_pos h20] at h; injection h with h1 h; injection h with h2 h3; omega
  rw [if_neg h20] at h
  obtain ⟨z, hz⟩ : ∃ z, z = if 0 < L.length ∧ byteAt L 0 = 45 then 1 else 0 := ⟨_, rfl⟩
  have hzl : z ≤ L.length := by rw [hz]; split <;> omega
  rw [← hz] at h
  simp only at h
  obtain ⟨ks, kb, kl⟩ := intLen_spec L z
  have hkz : z + intLen L z ≤ L.length := by
    by_cases h0 : intLen L z = 0
    · omega
    · have := ks (intLen L z - 1) (by omega)
      unfold goOn at this; simp at this
      have := (dig_bd L _ this.1).1
      omega
  generalize intLen L z = K at *
  by_cases hbad : K = 0 ∨ L.length ≤ z + K ∨ byteAt L (z + K) ≠ 46
  · rw [if_pos hbad] at h; injection h with h1 h; injection h with h2 h3; omega
  rw [if_neg hbad] at h
  unfold tailM at h
  by_cases hd1 : digAt L (z + K + 1) = false
  · rw [if_pos hd1] at h; injection h with h1 h; injection h with h2 h3; omega
  rw [if_neg hd1] at h
  have hd1 : digAt L (z + K + 1) = true := by simpa using hd1
  have := (dig_bd L _ hd1).1
  by_cases hd2 : digAt L (z + K + 2) = false
  · rw [if_pos hd2] at h; injection h with h1 h; injection h with h2 h3; omega
  rw [if_neg hd2] at h
  by_cases hl : z + K + 3 < L.length
  · rw [if_pos hl] at h; injection h with h1 h; injection h with h2 h3; omega
  rw [if_neg hl] at h
  split at h
  · injection h with h1 h; injection h with h2 h3; omega
  · injection h with h1 h; injection h with h2 h3; omega

theorem amtText_len (v : Int) (h0 : -1099511627775 ≤ v) (h1 : v ≤ 1099511627775) : (amtText v).length ≤ 1000 := by
  unfold amtText
  have := dec_len (v.natAbs / 100) 12 (by omega) (by omega)
  have h2 : (if v < 0 then [(45 : UInt8)] else []).length ≤ 1 := by split <;> simp
  simp [cents2]; omega

set_option maxRecDepth 100000 in
set_option maxHeartbeats 2000000 in
theorem l_moneyBack (O : MonOk) (A : AwakeOk) (T : TextOk) (R : ParseOk) (v : Int) (L : List UInt8) (w : World) (htab : Tab w) (w0 : (Lit.int .i64 v).wf = true) (hL : L.length ≤ 9223372036854775807) :
    Calls Tryd.prog 6 #[.int .i64 v, .string ⟨L.toArray⟩] w fun e w' => e = .returned (.bool true) ∧ Junk w w' := by
  obtain ⟨v0, v1⟩ := bounds_i64 w0
  clear w0
  have HT := Lib.hid htab; clear htab
  by_cases h100 : 100 < L.length
  · go_enter Tryd.func6, Tryd.ntmps6
    go_wp2_with fail
    refine (A _).mono ?_; rintro e w' ⟨rfl, Ja, da, rfl⟩
    go_wp2
    go_ret
    exact ⟨by simp, junk_of_below (by (repeat' (first | (with_reducible exact Below.refl _ _) | (with_reducible assumption) | (with_reducible refine Below.alloc ?_ ?_ _) | (with_reducible refine Below.drew ?_) | (with_reducible refine below_drewN ?_ _) | (with_reducible refine below_plus ?_ ?_ _ _) | (with_reducible refine Below.setCell ?_ ?_ _) | (with_reducible refine Below.setRow ?_ ?_ _) | go_size)))⟩
  · have T1 := fun w h => T v w v0 v1 h
    have C1 := fun w => O.check v w v0 v1
    have P1 := fun w => R L w (by omega)
    -- the text, read
    obtain ⟨n, e, q, hp⟩ : ∃ n e q, parseM L = (n, e, q) := ⟨_, _, _, rfl⟩
    rw [hp] at P1
    have P1 := Lib.hid P1
    have HP := Lib.hid hp; clear hp
    rcases amtErr_two v with ⟨ha, h0, h1⟩ | ⟨ha, _⟩
    · have htr : textRes v = (amtText v, 0) := by unfold textRes; rw [if_pos ha]
      rw [htr] at T1
      rw [ha] at C1
      have P2 := fun w => R (amtText v) w (amtText_len v h0 h1)
      rw [text_parse v h0 h1] at P2
      have T1 := Lib.hid T1; have C1 := Lib.hid C1; have P2 := Lib.hid P2
      clear htr ha
      generalize (amtText v).toArray = sv at *
      go_enter Tryd.func6, Tryd.ntmps6
      go_wp2_with fail
      refine (A _).mono ?_; rintro e w' ⟨rfl, Ja, da, rfl⟩
      go_wp2_with fail
      refine (T1.out _ (HT.out.plus _ _)).mono ?_; rintro e w' ⟨rfl, J1, d1, rfl⟩
      go_wp2_with fail
      refine (C1.out _).mono ?_; rintro e w' ⟨rfl, J2, d2, rfl⟩
      go_wp2_with fail
      refine (P2.out _).mono ?_; rintro e w' ⟨rfl, J3, d3, rfl⟩
      go_wp2_with fail
      refine (P1.out _).mono ?_; rintro e' w' ⟨rfl, J4, d4, rfl⟩
      by_cases he : e = 0
      · subst he
        obtain ⟨_, n0, n1, hn⟩ := parse_text L n q HP.out
        have T2 := fun w h => T n w (by omega) (by omega) h
        rw [show textRes n = (L, 0) by unfold textRes; rw [if_pos (show amtErr n = 0 from if_pos ⟨n0, n1⟩), hn]] at T2
        have T2 := Lib.hid T2
        clear hn
        go_wp2_with fail
        refine (T2.out _ (HT.out.junk (junk_of_below (by (repeat' (first | (with_reducible exact Below.refl _ _) | (with_reducible assumption) | (with_reducible refine Below.alloc ?_ ?_ _) | (with_reducible refine Below.drew ?_) | (with_reducible refine below_drewN ?_ _) | (with_reducible refine below_plus ?_ ?_ _ _) | (with_reducible refine Below.setCell ?_ ?_ _) | (with_reducible refine Below.setRow ?_ ?_ _) | go_size)))))).mono ?_; rintro e' w' ⟨rfl, J5, d5, rfl⟩
        go_wp2
        go_ret
        exact ⟨by simp, junk_of_below (by (repeat' (first | (with_reducible exact Below.refl _ _) | (with_reducible assumption) | (with_reducible refine Below.alloc ?_ ?_ _) | (with_reducible refine Below.drew ?_) | (with_reducible refine below_drewN ?_ _) | (with_reducible refine below_plus ?_ ?_ _ _) | (with_reducible refine Below.setCell ?_ ?_ _) | (with_reducible refine Below.setRow ?_ ?_ _) | go_size)))⟩
      · obtain ⟨rfl, q0, q1⟩ := parse_err L n e q HP.out he
        have he2 : (e == 0) = false := by rw [beq_eq_false_iff_ne]; exact he
        go_wp2
        go_ret
        exact ⟨by simp, junk_of_below (by (repeat' (first | (with_reducible exact Below.refl _ _) | (with_reducible assumption) | (with_reducible refine Below.alloc ?_ ?_ _) | (with_reducible refine Below.drew ?_) | (with_reducible refine below_drewN ?_ _) | (with_reducible refine below_plus ?_ ?_ _ _) | (with_reducible refine Below.setCell ?_ ?_ _) | (with_reducible refine Below.setRow ?_ ?_ _) | go_size)))⟩
    · have htr : textRes v = ([], 5) := by unfold textRes; rw [if_neg (by rw [ha]; decide)]
      rw [htr] at T1
      rw [ha] at C1
      have T1 := Lib.hid T1; have C1 := Lib.hid C1
      clear htr ha
      go_enter Tryd.func6, Tryd.ntmps6
      go_wp2_with fail
      refine (A _).mono ?_; rintro e' w' ⟨rfl, Ja, da, rfl⟩
      go_wp2_with fail
      refine (T1.out _ (HT.out.plus _ _)).mono ?_; rintro e' w' ⟨rfl, J1, d1, rfl⟩
      go_wp2_with fail
      refine (C1.out _).mono ?_; rintro e' w' ⟨rfl, J2, d2, rfl⟩
      go_wp2_with fail
      refine (P1.out _).mono ?_; rintro e' w' ⟨rfl, J4, d4, rfl⟩
      by_cases he : e = 0
      · subst he
        obtain ⟨_, n0, n1, hn⟩ := parse_text L n q HP.out
        have T2 := fun w h => T n w (by omega) (by omega) h
        rw [show textRes n = (L, 0) by unfold textRes; rw [if_pos (show amtErr n = 0 from if_pos ⟨n0, n1⟩), hn]] at T2
        have T2 := Lib.hid T2
        clear hn
        go_wp2_with fail
        refine (T2.out _ (HT.out.junk (junk_of_below (by (repeat' (first | (with_reducible exact Below.refl _ _) | (with_reducible assumption) | (with_reducible refine Below.alloc ?_ ?_ _) | (with_reducible refine Below.drew ?_) | (with_reducible refine below_drewN ?_ _) | (with_reducible refine below_plus ?_ ?_ _ _) | (with_reducible refine Below.setCell ?_ ?_ _) | (with_reducible refine Below.setRow ?_ ?_ _) | go_size)))))).mono ?_; rintro e' w' ⟨rfl, J5, d5, rfl⟩
        go_wp2
        go_ret
        exact ⟨by simp, junk_of_below (by (repeat' (first | (with_reducible exact Below.refl _ _) | (with_reducible assumption) | (with_reducible refine Below.alloc ?_ ?_ _) | (with_reducible refine Below.drew ?_) | (with_reducible refine below_drewN ?_ _) | (with_reducible refine below_plus ?_ ?_ _ _) | (with_reducible refine Below.setCell ?_ ?_ _) | (with_reducible refine Below.setRow ?_ ?_ _) | go_size)))⟩
      · obtain ⟨rfl, q0, q1⟩ := parse_err L n e q HP.out he
        have he2 : (e == 0) = false := by rw [beq_eq_false_iff_ne]; exact he
        go_wp2
        go_ret
        exact ⟨by simp, junk_of_below (by (repeat' (first | (with_reducible exact Below.refl _ _) | (with_reducible assumption) | (with_reducible refine Below.alloc ?_ ?_ _) | (with_reducible refine Below.drew ?_) | (with_reducible refine below_drewN ?_ _) | (with_reducible refine below_plus ?_ ?_ _ _) | (with_reducible refine Below.setCell ?_ ?_ _) | (with_reducible refine Below.setRow ?_ ?_ _) | go_size)))⟩
end Go.Proofs.YtgnmoneiiogoaaaDoor

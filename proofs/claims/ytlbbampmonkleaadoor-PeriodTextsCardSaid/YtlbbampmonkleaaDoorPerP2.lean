/- Contracts of period's isDigit, mayFollow, isComplete, scan. -/
import Derived.Test.YtlbbampmonkleaaDoorPerS
import Derived.Test.YtlbbampmonkleaaDoorPerP1
namespace Go.Proofs.YtlbbampmonkleaaDoor
set_option linter.unusedVariables false
set_option linter.unusedSimpArgs false
open Go.RowKit

theorem n_isDigit (b : Nat) (hb : b < 256) (w : World) : Calls Tryd.prog 56 #[.int .u8 (b : Int)] w fun e w' => e = .returned (.bool (decide (Dig b))) ∧ w = w' := by
  rw [show decide (Dig b) = decide (48 ≤ b ∧ b ≤ 57) from decide_eq_decide.2 Iff.rfl]
  by_cases c1 : 48 ≤ b
  · by_cases c2 : b ≤ 57
    · rw [decide_eq_true ⟨c1, c2⟩]
      go_enter Tryd.func56, Tryd.ntmps56
      go_wp2
      go_ret
      exact ⟨by first | (simp [*]; done) | (simp [*]; omega), rfl⟩
    · rw [decide_eq_false (fun h => c2 h.2)]
      go_enter Tryd.func56, Tryd.ntmps56
      go_wp2
      go_ret
      exact ⟨by first | (simp [*]; done) | (simp [*]; omega), rfl⟩
  · rw [decide_eq_false (fun h => c1 h.1)]
    go_enter Tryd.func56, Tryd.ntmps56
    go_wp2
    go_ret
    exact ⟨by first | (simp [*]; done) | (simp [*]; omega), rfl⟩

theorem ex_sub4 (L : List UInt8) (a n b : Nat) (h : b = a + n) : (⟨((L.drop a).take n).toArray⟩ : ByteArray) = (⟨L.toArray⟩ : ByteArray).extract a b := by
  subst h
  apply ByteArray.ext
  simp [ByteArray.data_extract]
theorem byteAt_take {L : List UInt8} {n i : Nat} (h : i < n) : byteAt (L.take n) i = byteAt L i := by
  unfold byteAt
  simp [List.getD_eq_getElem?_getD, List.getElem?_take_of_lt h]
theorem kd_le (b : Nat) : kd b ≤ 3 := by unfold kd; (repeat' split) <;> omega
theorem mon_per {k : Nat} (h : 1 ≤ k ∧ k ≤ 4) : (12 : Int) / mon (k : Int) = perY k := by
  have : k = 1 ∨ k = 2 ∨ k = 3 ∨ k = 4 := by omega
  rcases this with rfl | rfl | rfl | rfl <;> decide

set_option maxHeartbeats 2000000 in
theorem n_mayFollow (L : List UInt8) (hl : L.length ≤ 1000) (i : Nat) (hi : i < L.length) (hg : GT L i) (b : Nat) (hb : byteAt L i = b) (B : List UInt8) (hB : L.take i = B) (w : World) :
    Calls Tryd.prog 49 #[.string ⟨B.toArray⟩, .int .u8 (b : Int)] w fun e w' => e = .returned (.bool (decide (Good L i))) ∧ Junk w w' := by
  have hBl : B.length = i := by rw [← hB]; simp; omega
  have b256 : b < 256 := by rw [← hb]; exact byte_lt _ _
  have HD := n_isDigit b b256
  have HK := n_kindOf b b256
  by_cases c4 : i < 4
  · rw [show decide (Good L i) = decide (Dig b) from decide_eq_decide.2 (by rw [good_lt4 c4, hb])]
    have HD := Lib.hid HD
    generalize decide (Dig b) = r at *
    clear hg hb HK
    go_enter Tryd.func49, Tryd.ntmps49
    go_wp2_with fail
    refine (HD.out _).mono ?_; rintro e w' ⟨rfl, rfl⟩
    go_wp2
    go_ret
    exact ⟨rfl, junk_of_below (by (repeat' (first | (with_reducible exact Below.refl _ _) | (with_reducible assumption) | (with_reducible refine Below.alloc ?_ ?_ _) | (with_reducible refine Below.drew ?_) | (with_reducible refine below_drewN ?_ _) | (with_reducible refine below_plus ?_ ?_ _ _) | (with_reducible refine Below.setCell ?_ ?_ _) | (with_reducible refine Below.setRow ?_ ?_ _) | go_size)))⟩
  by_cases c5 : i = 4
  · subst c5
    rw [show decide (Good L 4) = decide (b = 45) from decide_eq_decide.2 (by rw [good_4, hb])]
    have e4 : ((b : Int) == 45) = decide (b = 45) := by by_cases h : b = 45 <;> simp [h]; omega
    clear hg hb HK HD
    go_enter Tryd.func49, Tryd.ntmps49
    go_wp2
    go_ret
    exact ⟨by simp [*], junk_of_below (by (repeat' (first | (with_reducible exact Below.refl _ _) | (with_reducible assumption) | (with_reducible refine Below.alloc ?_ ?_ _) | (with_reducible refine Below.drew ?_) | (with_reducible refine below_drewN ?_ _) | (with_reducible refine below_plus ?_ ?_ _ _) | (with_reducible refine Below.setCell ?_ ?_ _) | (with_reducible refine Below.setRow ?_ ?_ _) | go_size)))⟩
  by_cases c6 : i = 5
  · subst c6
    rw [show decide (Good L 5) = decide (kd b ≠ 0) from decide_eq_decide.2 (by rw [good_5, hb])]
    have HK := Lib.hid HK
    have e4 : ((kd b : Int) != 0) = decide (kd b ≠ 0) := by by_cases h : kd b = 0 <;> simp [h]
    generalize kd b = k at *
    clear hg hb HD
    go_enter Tryd.func49, Tryd.ntmps49
    go_wp2_with fail
    refine (HK.out _).mono ?_; rintro e w' ⟨rfl, rfl⟩
    go_wp2
    go_ret
    exact ⟨by simp [*], junk_of_below (by (repeat' (first | (with_reducible exact Below.refl _ _) | (with_reducible assumption) | (with_reducible refine Below.alloc ?_ ?_ _) | (with_reducible refine Below.drew ?_) | (with_reducible refine below_drewN ?_ _) | (with_reducible refine below_plus ?_ ?_ _ _) | (with_reducible refine Below.setCell ?_ ?_ _) | (with_reducible refine Below.setRow ?_ ?_ _) | go_size)))⟩
  have i6 : 6 ≤ i := by omega
  rw [show decide (Good L i) = decide (i < 6 + dOf (kd (byteAt L 5)) ∧ Dig b ∧ (kd (byteAt L 5) = 1 ∨ (49 ≤ b ∧ b - 48 ≤ perY (kd (byteAt L 5))))) from decide_eq_decide.2 (by rw [good_6 i6, hb])]
  have k5 : kd (byteAt L 5) ≠ 0 := good_5.1 (hg 5 (by omega)).2
  have hB5 : byteAt B 5 = byteAt L 5 := by rw [← hB]; exact byteAt_take (by omega)
  have HK5 := n_kindOf (byteAt L 5) (byte_lt _ _)
  rw [← hB5] at HK5 k5 ⊢
  clear hB5 hb HK hB
  have hk3 := kd_le (byteAt B 5)
  generalize hk : kd (byteAt B 5) = k at *
  have HK5 := Lib.hid HK5
  have HDO := n_digitsOf (k : Int)
  have hdo : (if (k : Int) = 1 then 2 else 1 : Int) = (dOf k : Int) := by unfold dOf; by_cases h : k = 1 <;> simp [h]; omega
  rw [hdo] at HDO
  have HDO := Lib.hid HDO
  have HPY := n_perYear (k : Int) (by omega)
  rw [mon_per (by omega)] at HPY
  have HPY := Lib.hid HPY
  obtain ⟨d1, d2⟩ := dOf_bd k
  clear hg hk hdo
  by_cases c7 : i < 6 + dOf k
  case neg =>
    rw [decide_eq_false (fun h => c7 h.1)]
    generalize dOf k = d at *
    go_enter Tryd.func49, Tryd.ntmps49
    go_wp2_with fail
    refine (HK5.out _).mono ?_; rintro e w' ⟨rfl, rfl⟩
    go_wp2_with fail
    refine (HDO.out _).mono ?_; rintro e w' ⟨rfl, rfl⟩
    go_wp2
    go_ret
    exact ⟨rfl, junk_of_below (by (repeat' (first | (with_reducible exact Below.refl _ _) | (with_reducible assumption) | (with_reducible refine Below.alloc ?_ ?_ _) | (with_reducible refine Below.drew ?_) | (with_reducible refine below_drewN ?_ _) | (with_reducible refine below_plus ?_ ?_ _ _) | (with_reducible refine Below.setCell ?_ ?_ _) | (with_reducible refine Below.setRow ?_ ?_ _) | go_size)))⟩
  by_cases c8 : Dig b
  case neg =>
    rw [decide_eq_false (fun h => c8 h.2.1)]
    rw [decide_eq_false c8] at HD
    have HD := Lib.hid HD
    generalize dOf k = d at *
    go_enter Tryd.func49, Tryd.ntmps49
    go_wp2_with fail
    refine (HK5.out _).mono ?_; rintro e w' ⟨rfl, rfl⟩
    go_wp2_with fail
    refine (HDO.out _).mono ?_; rintro e w' ⟨rfl, rfl⟩
    go_wp2_with fail
    refine (HD.out _).mono ?_; rintro e w' ⟨rfl, rfl⟩
    go_wp2
    go_ret
    exact ⟨rfl, junk_of_below (by (repeat' (first | (with_reducible exact Below.refl _ _) | (with_reducible assumption) | (with_reducible refine Below.alloc ?_ ?_ _) | (with_reducible refine Below.drew ?_) | (with_reducible refine below_drewN ?_ _) | (with_reducible refine below_plus ?_ ?_ _ _) | (with_reducible refine Below.setCell ?_ ?_ _) | (with_reducible refine Below.setRow ?_ ?_ _) | go_size)))⟩
  rw [decide_eq_true c8] at HD
  have HD := Lib.hid HD
  by_cases c9 : k = 1
  · rw [decide_eq_true ⟨c7, c8, .inl c9⟩]
    have e9 : ((k : Int) == 1) = true := by rw [c9]; rfl
    generalize dOf k = d at *
    clear c8 c9
    go_enter Tryd.func49, Tryd.ntmps49
    go_wp2_with fail
    refine (HK5.out _).mono ?_; rintro e w' ⟨rfl, rfl⟩
    go_wp2_with fail
    refine (HDO.out _).mono ?_; rintro e w' ⟨rfl, rfl⟩
    go_wp2_with fail
    refine (HD.out _).mono ?_; rintro e w' ⟨rfl, rfl⟩
    go_wp2
    go_ret
    exact ⟨rfl, junk_of_below (by (repeat' (first | (with_reducible exact Below.refl _ _) | (with_reducible assumption) | (with_reducible refine Below.alloc ?_ ?_ _) | (with_reducible refine Below.drew ?_) | (with_reducible refine below_drewN ?_ _) | (with_reducible refine below_plus ?_ ?_ _ _) | (with_reducible refine Below.setCell ?_ ?_ _) | (with_reducible refine Below.setRow ?_ ?_ _) | go_size)))⟩
  have e9 : ((k : Int) == 1) = false := beq_eq_false_iff_ne.2 (by omega)
  by_cases c10 : 49 ≤ b
  case neg =>
    rw [decide_eq_false (fun h => h.2.2.elim c9 (fun h => c10 h.1))]
    generalize dOf k = d at *
    clear c8 c9
    go_enter Tryd.func49, Tryd.ntmps49
    go_wp2_with fail
    refine (HK5.out _).mono ?_; rintro e w' ⟨rfl, rfl⟩
    go_wp2_with fail
    refine (HDO.out _).mono ?_; rintro e w' ⟨rfl, rfl⟩
    go_wp2_with fail
    refine (HD.out _).mono ?_; rintro e w' ⟨rfl, rfl⟩
    go_wp2
    go_ret
    exact ⟨rfl, junk_of_below (by (repeat' (first | (with_reducible exact Below.refl _ _) | (with_reducible assumption) | (with_reducible refine Below.alloc ?_ ?_ _) | (with_reducible refine Below.drew ?_) | (with_reducible refine below_drewN ?_ _) | (with_reducible refine below_plus ?_ ?_ _ _) | (with_reducible refine Below.setCell ?_ ?_ _) | (with_reducible refine Below.setRow ?_ ?_ _) | go_size)))⟩
  have hr : decide (i < 6 + dOf k ∧ Dig b ∧ (k = 1 ∨ (49 ≤ b ∧ b - 48 ≤ perY k))) = decide ((b : Int) - 48 ≤ perY k) := decide_eq_decide.2 ⟨fun h => h.2.2.elim (fun h => absurd h c9) (fun h => by omega), fun h => ⟨c7, c8, .inr ⟨c10, by omega⟩⟩⟩
  rw [hr]
  clear hr
  unfold Dig at c8
  obtain ⟨c80, c81⟩ := c8
  have e10 : IntKind.u8.wrap ((b : Int) - 48) = (b : Int) - 48 := by simp [IntKind.wrap, IntKind.signed, IntKind.bits]; omega
  have hp : perY k ≤ 12 := by unfold perY; (repeat' split) <;> omega
  generalize perY k = q at *
  generalize dOf k = d at *
  clear c9
  go_enter Tryd.func49, Tryd.ntmps49
  go_wp2_with fail
  refine (HK5.out _).mono ?_; rintro e w' ⟨rfl, rfl⟩
  go_wp2_with fail
  refine (HDO.out _).mono ?_; rintro e w' ⟨rfl, rfl⟩
  go_wp2_with fail
  refine (HD.out _).mono ?_; rintro e w' ⟨rfl, rfl⟩
  go_wp2_with fail
  refine (HPY.out _).mono ?_; rintro e w' ⟨rfl, J, dr, rfl⟩
  go_wp2
  go_ret
  exact ⟨rfl, junk_of_below (by (repeat' (first | (with_reducible exact Below.refl _ _) | (with_reducible assumption) | (with_reducible refine Below.alloc ?_ ?_ _) | (with_reducible refine Below.drew ?_) | (with_reducible refine below_drewN ?_ _) | (with_reducible refine below_plus ?_ ?_ _ _) | (with_reducible refine Below.setCell ?_ ?_ _) | (with_reducible refine Below.setRow ?_ ?_ _) | go_size)))⟩
end Go.Proofs.YtlbbampmonkleaaDoor

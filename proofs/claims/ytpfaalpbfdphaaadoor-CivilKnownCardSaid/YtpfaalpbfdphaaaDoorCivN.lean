/- Texts of dates: what is written is read as it was, what is read is written as it was; their order. Mathematics. -/
import Derived.Test.YtpfaalpbfdphaaaDoorCivM
import Derived.Test.YtpfaalpbfdphaaaDoorCivK
namespace Go.Proofs.YtpfaalpbfdphaaaDoor
set_option linter.unusedVariables false
set_option linter.unusedSimpArgs false
open Go.RowKit

theorem dt_bytes (y m d : Nat) : byteAt (dateText y m d) 0 = 48 + y / 1000 % 10 ∧ byteAt (dateText y m d) 1 = 48 + y / 100 % 10 ∧ byteAt (dateText y m d) 2 = 48 + y / 10 % 10 ∧ byteAt (dateText y m d) 3 = 48 + y % 10 ∧
    byteAt (dateText y m d) 4 = 45 ∧ byteAt (dateText y m d) 5 = 48 + m / 10 % 10 ∧ byteAt (dateText y m d) 6 = 48 + m % 10 ∧ byteAt (dateText y m d) 7 = 45 ∧ byteAt (dateText y m d) 8 = 48 + d / 10 % 10 ∧ byteAt (dateText y m d) 9 = 48 + d % 10 := by
  simp [byteAt, dateText, dg]
  omega

theorem ten (i : Nat) (h : i < 10) : i = 0 ∨ i = 1 ∨ i = 2 ∨ i = 3 ∨ i = 4 ∨ i = 5 ∨ i = 6 ∨ i = 7 ∨ i = 8 ∨ i = 9 := by omega

theorem ok_of {L : List UInt8} {i : Nat} (h10 : i < 10) (hl : i < L.length) (h : if i = 4 ∨ i = 7 then byteAt L i = 45 else 48 ≤ byteAt L i ∧ byteAt L i ≤ 57) : okAt L i = true := by
  unfold okAt
  rw [decide_eq_true h10, decide_eq_true hl, Bool.true_and, Bool.true_and]
  split at h <;> rename_i c <;> simp only [c, if_true, if_false] <;> exact decide_eq_true h

theorem good_text (y m d : Nat) : goodTo (dateText y m d) = 10 := by
  obtain ⟨g1, g2, g3, g4⟩ := good_spec (dateText y m d)
  obtain ⟨b0, b1, b2, b3, b4, b5, b6, b7, b8, b9⟩ := dt_bytes y m d
  by_cases h : goodTo (dateText y m d) = 10
  · exact h
  · have hall : ∀ i, i < 10 → okAt (dateText y m d) i = true := fun i hi => ok_of hi (by rw [date_len]; exact hi) (by
      rcases ten i hi with rfl | rfl | rfl | rfl | rfl | rfl | rfl | rfl | rfl | rfl <;> simp <;> omega)
    rw [hall _ (by omega)] at g2
    cases g2

/-- What is written is read as it was. -/
theorem text_parse {y m d : Nat} (hv : Valid y m d) : parseC (dateText y m d) = (dayOf y m d, 0, 0) := by
  obtain ⟨b0, b1, b2, b3, b4, b5, b6, b7, b8, b9⟩ := dt_bytes y m d
  have hvv := hv
  obtain ⟨y0, y1, m0, m1, d0, d1⟩ := hv
  have d31 := (mlen_bd y m y0 y1 m0 m1).2
  unfold parseC
  rw [good_text, date_len, if_neg (by omega)]
  have e1 : foldD (dateText y m d) 0 4 = y := by simp [foldD, b0, b1, b2, b3]; omega
  have e2 : foldD (dateText y m d) 5 2 = m := by simp [foldD, b5, b6]; omega
  have e3 : foldD (dateText y m d) 8 2 = d := by simp [foldD, b8, b9]; omega
  rw [e1, e2, e3, day_ok hvv]

theorem bytes_ext {L M : List UInt8} (hl : L.length = M.length) (h : ∀ i, i < L.length → byteAt L i = byteAt M i) : L = M := by
  apply List.ext_getElem hl
  intro i h1 h2
  rw [byte_ext h1, byte_ext h2, h i h1]

/-- What is read is written as it was. -/
theorem parse_text {L : List UInt8} {n q : Int} (h : parseC L = (n, 0, q)) : ∃ y m d : Nat, Valid y m d ∧ dayOf y m d = n ∧ L = dateText y m d := by
  obtain ⟨g1, g2, g3, g4⟩ := good_spec L
  unfold parseC at h
  by_cases c : goodTo L < 10 ∨ 10 < L.length
  · rw [if_pos c] at h; injection h with _ h; injection h with h _; omega
  rw [if_neg c] at h
  injection h with h1 h; injection h with h2 _
  have hlen : L.length = 10 := by omega
  have hG : goodTo L = 10 := by omega
  rw [hG] at g1
  have hd : ∀ i, i < 10 → i ≠ 4 → i ≠ 7 → 48 ≤ byteAt L i ∧ byteAt L i ≤ 57 := fun i h h4 h7 => (ok_digit (g1 i h) h4 h7).2.2
  have c4 := (ok_dash (g1 4 (by omega)) (.inl rfl)).2.2
  have c7 := (ok_dash (g1 7 (by omega)) (.inr rfl)).2.2
  have a0 := hd 0 (by omega) (by omega) (by omega)
  have a1 := hd 1 (by omega) (by omega) (by omega)
  have a2 := hd 2 (by omega) (by omega) (by omega)
  have a3 := hd 3 (by omega) (by omega) (by omega)
  have a5 := hd 5 (by omega) (by omega) (by omega)
  have a6 := hd 6 (by omega) (by omega) (by omega)
  have a8 := hd 8 (by omega) (by omega) (by omega)
  have a9 := hd 9 (by omega) (by omega) (by omega)
  obtain ⟨y, hy⟩ : ∃ y : Nat, y = 1000 * (byteAt L 0 - 48) + 100 * (byteAt L 1 - 48) + 10 * (byteAt L 2 - 48) + (byteAt L 3 - 48) := ⟨_, rfl⟩
  obtain ⟨m, hm⟩ : ∃ m : Nat, m = 10 * (byteAt L 5 - 48) + (byteAt L 6 - 48) := ⟨_, rfl⟩
  obtain ⟨d, hd'⟩ : ∃ d : Nat, d = 10 * (byteAt L 8 - 48) + (byteAt L 9 - 48) := ⟨_, rfl⟩
  have e1 : foldD L 0 4 = y := by simp [foldD]; omega
  have e2 : foldD L 5 2 = m := by simp [foldD]; omega
  have e3 : foldD L 8 2 = d := by simp [foldD]; omega
  rw [e1, e2, e3] at h1 h2
  have hv : Valid y m d := by
    refine (valid_iff _ _ _).2 ?_
    by_cases hc : 1 ≤ (d : Int) ∧ (d : Int) ≤ mlen y m
    · exact hc
    · unfold dayRes at h2; rw [if_neg hc] at h2; exact absurd h2 (by decide)
  rw [day_ok hv] at h1
  obtain ⟨b0, b1, b2, b3, b4, b5, b6, b7, b8, b9⟩ := dt_bytes y m d
  refine ⟨y, m, d, hv, h1, bytes_ext (by rw [hlen, date_len]) (fun i hi => ?_)⟩
  rcases ten i (by omega) with rfl | rfl | rfl | rfl | rfl | rfl | rfl | rfl | rfl | rfl
  · rw [b0]; omega
  · rw [b1]; omega
  · rw [b2]; omega
  · rw [b3]; omega
  · rw [b4]; omega
  · rw [b5]; omega
  · rw [b6]; omega
  · rw [b7]; omega
  · rw [b8]; omega
  · rw [b9]; omega

theorem parse_err {L : List UInt8} {n e q : Int} (h : parseC L = (n, e, q)) (he : e ≠ 0) : n = 0 ∧ 0 ≤ q ∧ q ≤ L.length ∧ q ≤ 10 := by
  obtain ⟨g1, g2, g3, g4⟩ := good_spec L
  unfold parseC at h
  split at h
  · injection h with h1 h; injection h with h2 h3; omega
  · injection h with h1 h; injection h with h2 h3
    have := day_zero _ _ _ (by rw [h2]; exact he)
    omega

/-! The order of texts. -/
theorem bl_cons (a b : Nat) (ha : a ≤ 9) (hb : b ≤ 9) (x y : List UInt8) : Op.bytesLess (UInt8.ofNat (48 + a) :: x) (UInt8.ofNat (48 + b) :: y) = (decide (a < b) || (decide (a = b) && Op.bytesLess x y)) := by
  rw [Op.bytesLess]
  have h1 : decide (UInt8.ofNat (48 + a) < UInt8.ofNat (48 + b)) = decide (a < b) := by
    apply decide_eq_decide.2
    rw [UInt8.lt_iff_toNat_lt]; simp; omega
  have h2 : (UInt8.ofNat (48 + a) == UInt8.ofNat (48 + b)) = decide (a = b) := by
    rw [Bool.eq_iff_iff]; simp [← UInt8.toNat_inj]; omega
  rw [h1, h2]
theorem bl_dash (x y : List UInt8) : Op.bytesLess (45 :: x) (45 :: y) = Op.bytesLess x y := by
  rw [Op.bytesLess]; simp
theorem bl_two (m n : Nat) (hm : m < 100) (hn : n < 100) (x y : List UInt8) : Op.bytesLess (dg 2 m ++ x) (dg 2 n ++ y) = (decide (m < n) || (decide (m = n) && Op.bytesLess x y)) := by
  simp only [dg, List.cons_append, List.nil_append]
  rw [bl_cons _ _ (by omega) (by omega), bl_cons _ _ (by omega) (by omega)]
  cases Op.bytesLess x y <;> rw [Bool.eq_iff_iff] <;> simp <;> omega
theorem bl_four (m n : Nat) (hm : m < 10000) (hn : n < 10000) (x y : List UInt8) : Op.bytesLess (dg 4 m ++ x) (dg 4 n ++ y) = (decide (m < n) || (decide (m = n) && Op.bytesLess x y)) := by
  rw [dg4 m, dg4 n, List.append_assoc, List.append_assoc, bl_two _ _ (by omega) (by omega), bl_two _ _ (by omega) (by omega)]
  cases Op.bytesLess x y <;> rw [Bool.eq_iff_iff] <;> simp <;> omega

theorem text_less {y m d y' m' d' : Nat} (hv : Valid y m d) (hv' : Valid y' m' d') : Op.bytesLess (dateText y m d) (dateText y' m' d') = decide (dayOf y m d < dayOf y' m' d') := by
  rw [Bool.eq_iff_iff, decide_eq_true_iff, ← later_iff hv' hv]
  obtain ⟨y0, y1, m0, m1, d0, d1⟩ := hv
  obtain ⟨y0', y1', m0', m1', d0', d1'⟩ := hv'
  have d31 := (mlen_bd y m y0 y1 m0 m1).2
  have d31' := (mlen_bd y' m' y0' y1' m0' m1').2
  have e : Op.bytesLess (dg 2 d) (dg 2 d') = decide (d < d') := by
    have := bl_two d d' (by omega) (by omega) [] []
    rw [List.append_nil, List.append_nil] at this
    rw [this, show Op.bytesLess [] [] = false by simp [Op.bytesLess]]; simp
  unfold dateText Later
  simp only [List.append_assoc, List.cons_append, List.nil_append]
  rw [bl_four _ _ (by omega) (by omega), bl_dash, bl_two _ _ (by omega) (by omega), bl_dash, e]
  simp
  omega
end Go.Proofs.YtpfaalpbfdphaaaDoor

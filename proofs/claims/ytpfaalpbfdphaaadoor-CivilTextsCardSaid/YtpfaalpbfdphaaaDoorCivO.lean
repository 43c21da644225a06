/- The laws CivilTexts, CivilKnown and CivilBack. Condition: civil's table is as laid. -/
import Derived.Test.YtpfaalpbfdphaaaDoorCivN
import Derived.Test.YtpfaalpbfdphaaaDoorCivH
namespace Go.Proofs.YtpfaalpbfdphaaaDoor
set_option linter.unusedVariables false
set_option linter.unusedSimpArgs false
open Go.RowKit

/-! Blocks below later ones. -/
@[go_sem] theorem lta_1 (a : Nat) : a < a + 1 := by omega
@[go_sem] theorem lta_2 (a b : Nat) : a < a + 1 + b := by omega
@[go_sem] theorem lta_3 (a b : Nat) : a < a + 1 + b + 1 := by omega
@[go_sem] theorem lta_4 (a b c : Nat) : a < a + 1 + b + 1 + c := by omega
@[go_sem] theorem lta_5 (a b c : Nat) : a < a + 1 + b + 1 + c + 1 := by omega
@[go_sem] theorem lta_6 (a b c d : Nat) : a < a + 1 + b + 1 + c + 1 + d := by omega
@[go_sem] theorem lta_7 (a b c d : Nat) : a < a + 1 + b + 1 + c + 1 + d + 1 := by omega
@[go_sem] theorem lta_8 (a b c d e : Nat) : a < a + 1 + b + 1 + c + 1 + d + 1 + e := by omega
@[go_sem] theorem lta_9 (a b c d e : Nat) : a < a + 1 + b + 1 + c + 1 + d + 1 + e + 1 := by omega
@[go_sem] theorem lta_10 (a b c d e f : Nat) : a < a + 1 + b + 1 + c + 1 + d + 1 + e + 1 + f := by omega

theorem date_nat (v : Int) (h : 0 ≤ v ∧ v ≤ 3652058) : ∃ y m d : Nat, Valid y m d ∧ dayOf y m d = v := by
  obtain ⟨y, m, d, hv, he⟩ := date_exists v.toNat (by omega)
  rw [show ((v.toNat : Nat) : Int) = v by omega] at he
  have h1 := hv
  obtain ⟨y0, y1, m0, m1, d0, d1⟩ := h1
  refine ⟨y.toNat, m.toNat, d.toNat, ?_, ?_⟩ <;> rw [show (y.toNat : Int) = y by omega, show (m.toNat : Int) = m by omega, show (d.toNat : Int) = d by omega] <;> assumption

/-- Both tell the same text, or that there is none. -/
theorem text_both (v : Int) : ∃ (S : List UInt8) (e : Int), (∀ w, CTab w → Calls Tryd.prog 21 #[.int .i64 v] w fun e1 w' => e1 = .returned (.tuple #[.string ⟨S.toArray⟩, .int .i64 e]) ∧ Junk w w') ∧
    (∀ w, Calls Tryd.prog 22 #[.int .i64 v] w fun e1 w' => e1 = .returned (.tuple #[.string ⟨S.toArray⟩, .int .i64 e]) ∧ Junk w w') ∧
    ((0 ≤ v ∧ v ≤ 3652058 ∧ e = 0 ∧ ∃ y m d : Nat, Valid y m d ∧ dayOf y m d = v ∧ S = dateText y m d) ∨ (¬ (0 ≤ v ∧ v ≤ 3652058) ∧ e = 5)) := by
  by_cases h : 0 ≤ v ∧ v ≤ 3652058
  · obtain ⟨y, m, d, hv, he⟩ := date_nat v h
    obtain ⟨n, rfl⟩ : ∃ n : Nat, v = n := ⟨v.toNat, by omega⟩
    exact ⟨_, 0, n_Text n y m d hv he, r_Text n y m d hv he, .inl ⟨h.1, h.2, rfl, y, m, d, hv, he, rfl⟩⟩
  · exact ⟨[], 5, fun w _ => n_Text_out v h w, r_Text_out v h, .inr ⟨h, rfl⟩⟩

theorem bytes_list (s : ByteArray) : s = ⟨s.data.toList.toArray⟩ := by
  apply ByteArray.ext; simp

set_option maxHeartbeats 1000000 in
theorem l_texts (v : Int) (L : List UInt8) (w : World) (ht : CTab w) (hL : L.length ≤ 9223372036854775807) :
    Calls Tryd.prog 5 #[.int .i64 v, .string ⟨L.toArray⟩] w fun e w' => e = .returned (.bool true) ∧ Below w.heap.size w w' := by
  have HT := Lib.hid ht
  have HA := Lib.hid awake_ok
  by_cases h100 : 100 < L.length
  · clear ht
    go_enter Tryd.func5, Tryd.ntmps5
    go_wp2_with fail
    refine (HA.out _ HT.out).mono ?_; rintro e w' ⟨rfl, J, d, rfl⟩
    go_wp2
    go_ret
    exact ⟨by simp, by (repeat' (first | (with_reducible exact Below.refl _ _) | (with_reducible assumption) | (with_reducible refine Below.alloc ?_ ?_ _) | (with_reducible refine Below.drew ?_) | (with_reducible refine below_drewN ?_ _) | (with_reducible refine below_plus ?_ ?_ _ _) | (with_reducible refine Below.setCell ?_ ?_ _) | (with_reducible refine Below.setRow ?_ ?_ _) | go_size))⟩
  · obtain ⟨S, e, h1, h2, _⟩ := text_both v
    have T1 := Lib.hid h1; have T2 := Lib.hid h2
    have P1 := Lib.hid (fun w h => n_Parse L w (by omega) h _ (Lib.hid rfl))
    have P2 := Lib.hid (fun w => r_Parse L w (by omega) _ (Lib.hid rfl))
    generalize parseC L = p at *
    obtain ⟨n, f, q⟩ := p
    generalize S.toArray = sa at *
    clear ht h1 h2
    go_enter Tryd.func5, Tryd.ntmps5
    go_wp2_with fail
    refine (T1.out _ HT.out).mono ?_; rintro e w' ⟨rfl, J, d, rfl⟩
    go_wp2_with fail
    refine (T2.out _).mono ?_; rintro e w' ⟨rfl, J2, d2, rfl⟩
    go_wp2_with fail
    refine (P1.out _ (HT.out.below (by (repeat' (first | (with_reducible exact Below.refl _ _) | (with_reducible assumption) | (with_reducible refine Below.alloc ?_ ?_ _) | (with_reducible refine Below.drew ?_) | (with_reducible refine below_drewN ?_ _) | (with_reducible refine below_plus ?_ ?_ _ _) | (with_reducible refine Below.setCell ?_ ?_ _) | (with_reducible refine Below.setRow ?_ ?_ _) | go_size))))).mono ?_; rintro e w' ⟨rfl, J3, d3, rfl⟩
    go_wp2_with fail
    refine (P2.out _).mono ?_; rintro e w' ⟨rfl, J4, d4, rfl⟩
    go_wp2_with fail
    refine (HA.out _ (HT.out.below (by (repeat' (first | (with_reducible exact Below.refl _ _) | (with_reducible assumption) | (with_reducible refine Below.alloc ?_ ?_ _) | (with_reducible refine Below.drew ?_) | (with_reducible refine below_drewN ?_ _) | (with_reducible refine below_plus ?_ ?_ _ _) | (with_reducible refine Below.setCell ?_ ?_ _) | (with_reducible refine Below.setRow ?_ ?_ _) | go_size))))).mono ?_; rintro e w' ⟨rfl, J5, d5, rfl⟩
    go_wp2
    go_ret
    exact ⟨by simp, by (repeat' (first | (with_reducible exact Below.refl _ _) | (with_reducible assumption) | (with_reducible refine Below.alloc ?_ ?_ _) | (with_reducible refine Below.drew ?_) | (with_reducible refine below_drewN ?_ _) | (with_reducible refine below_plus ?_ ?_ _ _) | (with_reducible refine Below.setCell ?_ ?_ _) | (with_reducible refine Below.setRow ?_ ?_ _) | go_size))⟩

theorem add_of {v y m d k n e : Int} (hv : Valid y m d) (he : dayOf y m d = v) (h : addRes y m d k = (n, e)) (w : World) (ht : CTab w) : Calls Tryd.prog 19 #[.int .i64 v, .int .i64 k] w fun e1 w' => e1 = .returned (.tuple #[.int .i64 n, .int .i64 e]) ∧ Junk w w' := by
  have := n_Add v y m d k hv he w ht
  rwa [h] at this
theorem wk_of {v k : Int} (h : wkday v = k) (w : World) : Calls Tryd.prog 16 #[.int .i64 v] w fun e w' => e = .returned (.int .i64 k) ∧ w = w' := by
  rw [← h]; exact n_Weekday v w
theorem day_of {y m d n e : Int} (h : dayRes y m d = (n, e)) (w : World) (ht : CTab w) : Calls Tryd.prog 10 #[.int .i64 y, .int .i64 m, .int .i64 d] w fun e1 w' => e1 = .returned (.tuple #[.int .i64 n, .int .i64 e]) ∧ w = w' := by
  have := n_Day y m d w ht
  rwa [h] at this
theorem parse_of {L : List UInt8} {r : Int × Int × Int} (hl : L.length ≤ 1000) (h : parseC L = r) (w : World) (ht : CTab w) : Calls Tryd.prog 23 #[.string ⟨L.toArray⟩] w fun e w' => e = .returned (.tuple #[.int .i64 r.1, .agg #[.int .i64 r.2.1, .int .i64 r.2.2]]) ∧ Junk w w' :=
  n_Parse L w hl ht r (Lib.hid h)
theorem v_111 : Valid 1 1 1 := by unfold Valid; decide

set_option maxRecDepth 100000 in
set_option maxHeartbeats 4000000 in
theorem known_ok (w : World) (ht : CTab w) : Calls Tryd.prog 6 #[] w fun e w' => e = .returned (.bool true) ∧ Junk w w' := by
  have HT := Lib.hid ht
  have D1 := Lib.hid (day_of (show dayRes 2023 2 29 = (0, 2) by decide))
  have D2 := Lib.hid (n_Date_out 3652059 (by decide))
  have A1 := Lib.hid (add_of v_2024 (show dayOf 2024 2 29 = 738944 by decide) (show addRes 2024 2 29 12 = (739309, 0) by decide))
  have A2 := Lib.hid (add_of v_2024 (show dayOf 2024 2 29 = 738944 by decide) (show addRes 2024 2 29 (-1) = (738913, 0) by decide))
  have A3 := Lib.hid (add_of v_111 (show dayOf 1 1 1 = 0 by decide) (show addRes 1 1 1 (-1) = (0, 5) by decide))
  have T1 := n_Text 738944 2024 2 29 v_2024 (by decide)
  rw [show dateText 2024 2 29 = [50, 48, 50, 52, 45, 48, 50, 45, 50, 57] by decide] at T1
  have T1 := Lib.hid T1
  have P1 := Lib.hid (parse_of (L := [50, 48, 50, 52, 45, 48, 50, 45, 50, 57]) (by decide) (show _ = (738944, 0, 0) by decide))
  have P2 := Lib.hid (parse_of (L := [50, 48, 50, 51, 45, 48, 50, 45, 50, 57]) (by decide) (show _ = (0, 2, 0) by decide))
  have P3 := Lib.hid (parse_of (L := [50, 48, 50, 52, 45, 50, 45, 50, 57]) (by decide) (show _ = (0, 4, 6) by decide))
  have P4 := Lib.hid (parse_of (L := [50, 48, 50, 52, 45, 48, 50, 45, 50]) (by decide) (show _ = (0, 4, 9) by decide))
  have Y1 := Lib.hid (l_day_ok (show dayRes 9999 12 31 = (3652058, 0) by decide))
  have W1 := Lib.hid (wk_of (show wkday (-1) = 0 by decide))
  have HA := Lib.hid awake_ok
  clear ht
  go_enter Tryd.func6, Tryd.ntmps6
  go_wp2_with fail
  refine (D1.out _ HT.out).mono ?_; rintro e w' ⟨rfl, rfl⟩
  go_wp2_with fail
  refine (D2.out _).mono ?_; rintro e w' ⟨rfl, J, d, rfl⟩
  go_wp2_with fail
  refine (A1.out _ (HT.out.below (by (repeat' (first | (with_reducible exact Below.refl _ _) | (with_reducible assumption) | (with_reducible refine Below.alloc ?_ ?_ _) | (with_reducible refine Below.drew ?_) | (with_reducible refine below_drewN ?_ _) | (with_reducible refine below_plus ?_ ?_ _ _) | (with_reducible refine Below.setCell ?_ ?_ _) | (with_reducible refine Below.setRow ?_ ?_ _) | go_size))))).mono ?_; rintro e w' ⟨rfl, J, d, rfl⟩
  go_wp2_with fail
  refine (A2.out _ (HT.out.below (by (repeat' (first | (with_reducible exact Below.refl _ _) | (with_reducible assumption) | (with_reducible refine Below.alloc ?_ ?_ _) | (with_reducible refine Below.drew ?_) | (with_reducible refine below_drewN ?_ _) | (with_reducible refine below_plus ?_ ?_ _ _) | (with_reducible refine Below.setCell ?_ ?_ _) | (with_reducible refine Below.setRow ?_ ?_ _) | go_size))))).mono ?_; rintro e w' ⟨rfl, J, d, rfl⟩
  go_wp2_with fail
  refine (A3.out _ (HT.out.below (by (repeat' (first | (with_reducible exact Below.refl _ _) | (with_reducible assumption) | (with_reducible refine Below.alloc ?_ ?_ _) | (with_reducible refine Below.drew ?_) | (with_reducible refine below_drewN ?_ _) | (with_reducible refine below_plus ?_ ?_ _ _) | (with_reducible refine Below.setCell ?_ ?_ _) | (with_reducible refine Below.setRow ?_ ?_ _) | go_size))))).mono ?_; rintro e w' ⟨rfl, J, d, rfl⟩
  go_wp2_with fail
  refine (T1.out _ (HT.out.below (by (repeat' (first | (with_reducible exact Below.refl _ _) | (with_reducible assumption) | (with_reducible refine Below.alloc ?_ ?_ _) | (with_reducible refine Below.drew ?_) | (with_reducible refine below_drewN ?_ _) | (with_reducible refine below_plus ?_ ?_ _ _) | (with_reducible refine Below.setCell ?_ ?_ _) | (with_reducible refine Below.setRow ?_ ?_ _) | go_size))))).mono ?_; rintro e w' ⟨rfl, J, d, rfl⟩
  go_wp2_with fail
  refine (P1.out _ (HT.out.below (by (repeat' (first | (with_reducible exact Below.refl _ _) | (with_reducible assumption) | (with_reducible refine Below.alloc ?_ ?_ _) | (with_reducible refine Below.drew ?_) | (with_reducible refine below_drewN ?_ _) | (with_reducible refine below_plus ?_ ?_ _ _) | (with_reducible refine Below.setCell ?_ ?_ _) | (with_reducible refine Below.setRow ?_ ?_ _) | go_size))))).mono ?_; rintro e w' ⟨rfl, J, d, rfl⟩
  go_wp2_with fail
  refine (P2.out _ (HT.out.below (by (repeat' (first | (with_reducible exact Below.refl _ _) | (with_reducible assumption) | (with_reducible refine Below.alloc ?_ ?_ _) | (with_reducible refine Below.drew ?_) | (with_reducible refine below_drewN ?_ _) | (with_reducible refine below_plus ?_ ?_ _ _) | (with_reducible refine Below.setCell ?_ ?_ _) | (with_reducible refine Below.setRow ?_ ?_ _) | go_size))))).mono ?_; rintro e w' ⟨rfl, J, d, rfl⟩
  go_wp2_with fail
  refine (P3.out _ (HT.out.below (by (repeat' (first | (with_reducible exact Below.refl _ _) | (with_reducible assumption) | (with_reducible refine Below.alloc ?_ ?_ _) | (with_reducible refine Below.drew ?_) | (with_reducible refine below_drewN ?_ _) | (with_reducible refine below_plus ?_ ?_ _ _) | (with_reducible refine Below.setCell ?_ ?_ _) | (with_reducible refine Below.setRow ?_ ?_ _) | go_size))))).mono ?_; rintro e w' ⟨rfl, J, d, rfl⟩
  go_wp2_with fail
  refine (P4.out _ (HT.out.below (by (repeat' (first | (with_reducible exact Below.refl _ _) | (with_reducible assumption) | (with_reducible refine Below.alloc ?_ ?_ _) | (with_reducible refine Below.drew ?_) | (with_reducible refine below_drewN ?_ _) | (with_reducible refine below_plus ?_ ?_ _ _) | (with_reducible refine Below.setCell ?_ ?_ _) | (with_reducible refine Below.setRow ?_ ?_ _) | go_size))))).mono ?_; rintro e w' ⟨rfl, J, d, rfl⟩
  go_wp2_with fail
  refine (Y1.out _ (HT.out.below (by (repeat' (first | (with_reducible exact Below.refl _ _) | (with_reducible assumption) | (with_reducible refine Below.alloc ?_ ?_ _) | (with_reducible refine Below.drew ?_) | (with_reducible refine below_drewN ?_ _) | (with_reducible refine below_plus ?_ ?_ _ _) | (with_reducible refine Below.setCell ?_ ?_ _) | (with_reducible refine Below.setRow ?_ ?_ _) | go_size))))).mono ?_; rintro e w' ⟨rfl, rfl⟩
  go_wp2_with fail
  refine (W1.out _).mono ?_; rintro e w' ⟨rfl, rfl⟩
  go_wp2_with fail
  refine (HA.out _ (HT.out.below (by (repeat' (first | (with_reducible exact Below.refl _ _) | (with_reducible assumption) | (with_reducible refine Below.alloc ?_ ?_ _) | (with_reducible refine Below.drew ?_) | (with_reducible refine below_drewN ?_ _) | (with_reducible refine below_plus ?_ ?_ _ _) | (with_reducible refine Below.setCell ?_ ?_ _) | (with_reducible refine Below.setRow ?_ ?_ _) | go_size))))).mono ?_; rintro e w' ⟨rfl, J, d, rfl⟩
  go_wp2
  go_ret
  exact ⟨by simp, junk_of_below (by (repeat' (first | (with_reducible exact Below.refl _ _) | (with_reducible assumption) | (with_reducible refine Below.alloc ?_ ?_ _) | (with_reducible refine Below.drew ?_) | (with_reducible refine below_drewN ?_ _) | (with_reducible refine below_plus ?_ ?_ _ _) | (with_reducible refine Below.setCell ?_ ?_ _) | (with_reducible refine Below.setRow ?_ ?_ _) | go_size)))⟩
end Go.Proofs.YtpfaalpbfdphaaaDoor

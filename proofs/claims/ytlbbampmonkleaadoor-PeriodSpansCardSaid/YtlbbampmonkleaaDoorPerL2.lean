/- The laws PeriodSpans and PeriodTexts. Condition: civil's and strconv's tables are as laid. -/
import Derived.Test.YtlbbampmonkleaaDoorPerL1
namespace Go.Proofs.YtlbbampmonkleaaDoor
set_option linter.unusedVariables false
set_option linter.unusedSimpArgs false
open Go.RowKit

theorem of_both (k v : Int) : ∃ n e : Int, (∀ w, CTab w → Calls Tryd.prog 9 #[.int .i64 k, .int .i64 v] w fun e1 w' => e1 = .returned (.tuple #[.int .i64 n, .int .i64 e]) ∧ Junk w w') ∧
    (∀ w, Calls Tryd.prog 10 #[.int .i64 k, .int .i64 v] w fun e1 w' => e1 = .returned (.tuple #[.int .i64 n, .int .i64 e]) ∧ Junk w w') := by
  by_cases hk : 1 ≤ k ∧ k ≤ 4
  · by_cases h : 0 ≤ v ∧ v ≤ 3652058
    · obtain ⟨y, m, d, hv, he⟩ := date_exists v.toNat (by omega)
      rw [show ((v.toNat : Nat) : Int) = v by omega] at he
      exact ⟨_, 0, n_Of k v y m d hk hv he, r_Of k v y m d hk hv he⟩
    · exact ⟨0, 5, fun w _ => n_Of_out k v hk h w, r_Of_out k v hk h⟩
  · exact ⟨0, 2, fun w _ => n_Of_arg k v hk w, r_Of_arg k v hk⟩

theorem text_both (k p : Int) : ∃ (s : ByteArray) (e : Int), (∀ w, Tab w → Calls Tryd.prog 16 #[.int .i64 k, .int .i64 p] w fun e1 w' => e1 = .returned (.tuple #[.string s, .int .i64 e]) ∧ Junk w w') ∧
    (∀ w, Calls Tryd.prog 17 #[.int .i64 k, .int .i64 p] w fun e1 w' => e1 = .returned (.tuple #[.string s, .int .i64 e]) ∧ Junk w w') := by
  by_cases h : InCal k p
  · obtain ⟨_, s0, s1, _, _⟩ := inCal_bd h
    have hy : (((p * mon k / 12 + 1).toNat : Nat) : Int) = p * mon k / 12 + 1 := by omega
    have hm : (((p * mon k % 12 + 1).toNat : Nat) : Int) = p * mon k % 12 + 1 := by omega
    exact ⟨_, 0, n_Text k p h _ _ hy hm, r_Text k p h _ _ hy hm⟩
  · exact ⟨⟨#[]⟩, _, fun w _ => n_Text_bad k p h w, r_Text_bad k p h⟩

set_option maxHeartbeats 2000000 in
theorem l_spans (k v n : Int) (w : World) (ht : Tabs w) : Calls Tryd.prog 3 #[.int .i64 k, .int .i64 v, .int .i64 n] w fun e w' => e = .returned (.bool true) ∧ Below w.heap.size w w' := by
  have HT := Lib.hid ht
  obtain ⟨a, e1, h1, h2⟩ := of_both k v
  have O1 := Lib.hid h1; have O2 := Lib.hid h2
  have F1 := Lib.hid (n_First k n); have F2 := Lib.hid (r_First k n)
  have L1 := Lib.hid (n_Last k n); have L2 := Lib.hid (r_Last k n)
  generalize firstRes k n = f at *
  generalize lastRes k n = l at *
  obtain ⟨f1, f2⟩ := f
  obtain ⟨l1, l2⟩ := l
  have HA := Lib.hid awake_ok
  clear ht h1 h2
  go_enter Tryd.func3, Tryd.ntmps3
  go_wp2_with fail
  refine (O1.out _ HT.out.1).mono ?_; rintro e w' ⟨rfl, J, dr, rfl⟩
  go_wp2_with fail
  refine (O2.out _).mono ?_; rintro e w' ⟨rfl, J2, dr2, rfl⟩
  go_wp2_with fail
  refine (F1.out _ (HT.out.below (by (repeat' (first | (with_reducible exact Below.refl _ _) | (with_reducible assumption) | (with_reducible refine Below.alloc ?_ ?_ _) | (with_reducible refine Below.drew ?_) | (with_reducible refine below_drewN ?_ _) | (with_reducible refine below_plus ?_ ?_ _ _) | (with_reducible refine Below.setCell ?_ ?_ _) | (with_reducible refine Below.setRow ?_ ?_ _) | go_size)))).1).mono ?_; rintro e w' ⟨rfl, J3, dr3, rfl⟩
  go_wp2_with fail
  refine (F2.out _).mono ?_; rintro e w' ⟨rfl, rfl⟩
  go_wp2_with fail
  refine (L1.out _ (HT.out.below (by (repeat' (first | (with_reducible exact Below.refl _ _) | (with_reducible assumption) | (with_reducible refine Below.alloc ?_ ?_ _) | (with_reducible refine Below.drew ?_) | (with_reducible refine below_drewN ?_ _) | (with_reducible refine below_plus ?_ ?_ _ _) | (with_reducible refine Below.setCell ?_ ?_ _) | (with_reducible refine Below.setRow ?_ ?_ _) | go_size)))).1).mono ?_; rintro e w' ⟨rfl, J4, dr4, rfl⟩
  go_wp2_with fail
  refine (L2.out _).mono ?_; rintro e w' ⟨rfl, rfl⟩
  go_wp2_with fail
  refine (HA.out _ (HT.out.below (by (repeat' (first | (with_reducible exact Below.refl _ _) | (with_reducible assumption) | (with_reducible refine Below.alloc ?_ ?_ _) | (with_reducible refine Below.drew ?_) | (with_reducible refine below_drewN ?_ _) | (with_reducible refine below_plus ?_ ?_ _ _) | (with_reducible refine Below.setCell ?_ ?_ _) | (with_reducible refine Below.setRow ?_ ?_ _) | go_size))))).mono ?_; rintro e w' ⟨rfl, J5, dr5, rfl⟩
  go_wp2
  go_ret
  exact ⟨by simp, by (repeat' (first | (with_reducible exact Below.refl _ _) | (with_reducible assumption) | (with_reducible refine Below.alloc ?_ ?_ _) | (with_reducible refine Below.drew ?_) | (with_reducible refine below_drewN ?_ _) | (with_reducible refine below_plus ?_ ?_ _ _) | (with_reducible refine Below.setCell ?_ ?_ _) | (with_reducible refine Below.setRow ?_ ?_ _) | go_size))⟩

set_option maxHeartbeats 2000000 in
theorem l_texts (k n : Int) (L : List UInt8) (w : World) (ht : Tabs w) : Calls Tryd.prog 4 #[.int .i64 k, .int .i64 n, .string ⟨L.toArray⟩] w fun e w' => e = .returned (.bool true) ∧ Below w.heap.size w w' := by
  have HT := Lib.hid ht
  have HA := Lib.hid awake_ok
  by_cases hl : 100 < L.length
  · clear ht
    go_enter Tryd.func4, Tryd.ntmps4
    go_wp2_with fail
    refine (HA.out _ HT.out).mono ?_; rintro e w' ⟨rfl, J5, dr5, rfl⟩
    go_wp2
    go_ret
    exact ⟨by simp, by (repeat' (first | (with_reducible exact Below.refl _ _) | (with_reducible assumption) | (with_reducible refine Below.alloc ?_ ?_ _) | (with_reducible refine Below.drew ?_) | (with_reducible refine below_drewN ?_ _) | (with_reducible refine below_plus ?_ ?_ _ _) | (with_reducible refine Below.setCell ?_ ?_ _) | (with_reducible refine Below.setRow ?_ ?_ _) | go_size))⟩
  obtain ⟨s, e1, h1, h2⟩ := text_both k n
  have O1 := Lib.hid h1; have O2 := Lib.hid h2
  obtain ⟨r, hr⟩ : ∃ r, parseP L = r := ⟨_, rfl⟩
  have P1 := Lib.hid (n_Parse L (by omega) r (Lib.hid hr))
  have P2 := Lib.hid (r_Parse L (by omega) r (Lib.hid hr))
  obtain ⟨r1, r2, r3, r4⟩ := r
  clear ht h1 h2 hr
  go_enter Tryd.func4, Tryd.ntmps4
  go_wp2_with fail
  refine (O1.out _ HT.out.2).mono ?_; rintro e w' ⟨rfl, J, dr, rfl⟩
  go_wp2_with fail
  refine (O2.out _).mono ?_; rintro e w' ⟨rfl, J2, dr2, rfl⟩
  go_wp2_with fail
  refine (P1.out _).mono ?_; rintro e w' ⟨rfl, J3, dr3, rfl⟩
  go_wp2_with fail
  refine (P2.out _).mono ?_; rintro e w' ⟨rfl, J4, dr4, rfl⟩
  go_wp2_with fail
  refine (HA.out _ (HT.out.below (by (repeat' (first | (with_reducible exact Below.refl _ _) | (with_reducible assumption) | (with_reducible refine Below.alloc ?_ ?_ _) | (with_reducible refine Below.drew ?_) | (with_reducible refine below_drewN ?_ _) | (with_reducible refine below_plus ?_ ?_ _ _) | (with_reducible refine Below.setCell ?_ ?_ _) | (with_reducible refine Below.setRow ?_ ?_ _) | go_size))))).mono ?_; rintro e w' ⟨rfl, J5, dr5, rfl⟩
  go_wp2
  go_ret
  exact ⟨by simp, by (repeat' (first | (with_reducible exact Below.refl _ _) | (with_reducible assumption) | (with_reducible refine Below.alloc ?_ ?_ _) | (with_reducible refine Below.drew ?_) | (with_reducible refine below_drewN ?_ _) | (with_reducible refine below_plus ?_ ?_ _ _) | (with_reducible refine Below.setCell ?_ ?_ _) | (with_reducible refine Below.setRow ?_ ?_ _) | go_size))⟩
end Go.Proofs.YtlbbampmonkleaaDoor

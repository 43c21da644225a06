/- The laws PeriodKnown and PeriodOrder. Condition: civil's and strconv's tables are as laid. -/
import Derived.Test.YtlbbampmonkleaaDoorPerL1
namespace Go.Proofs.YtlbbampmonkleaaDoor
set_option linter.unusedVariables false
set_option linter.unusedSimpArgs false
open Go.RowKit

set_option maxRecDepth 100000 in
set_option maxHeartbeats 2000000 in
theorem l_known (w : World) (ht : Tabs w) : Calls Tryd.prog 5 #[] w fun e w' => e = .returned (.bool true) ∧ Junk w w' := by
  have HT := Lib.hid ht
  have HA := Lib.hid awake_ok
  have O5 := Lib.hid (n_Of_arg 5 0 (by omega))
  have F1 := n_First 2 8092
  rw [show firstRes 2 8092 = (738885, 0) by decide] at F1
  have F1 := Lib.hid F1
  have F2 := n_Last 2 8092
  rw [show lastRes 2 8092 = (738975, 0) by decide] at F2
  have F2 := Lib.hid F2
  have F3 := n_First 4 9999
  rw [show firstRes 4 9999 = (0, 5) by decide] at F3
  have F3 := Lib.hid F3
  have P1 := Lib.hid (parse_at [50, 48, 50, 52, 45, 72, 50] (by decide) 3 4047 0 0 (by decide))
  have H1 := Lib.hid (l_of 3 738944 4046 (Lib.hid (of_feb 3 4046 (by omega) (by decide))))
  have H2 := Lib.hid (l_of 4 738944 2023 (Lib.hid (of_feb 4 2023 (by omega) (by decide))))
  have T1 := Lib.hid (l_text 2 8092 _ (Lib.hid (text_at 2 8092 2024 1 [50, 48, 50, 52, 45, 81, 49] (by decide) (by decide) (by decide) (by decide))))
  have T2 := Lib.hid (l_text 4 2023 _ (Lib.hid (text_at 4 2023 2024 1 [50, 48, 50, 52] (by decide) (by decide) (by decide) (by decide))))
  have G1 := Lib.hid (l_fault ⟨#[50, 48, 50, 52, 45, 77, 49, 51]⟩ 5 0 (Lib.hid (parse_at [50, 48, 50, 52, 45, 77, 49, 51] (by decide) 0 0 5 0 (by decide))))
  have G2 := Lib.hid (l_fault ⟨#[50, 48, 50, 52, 45]⟩ 4 5 (Lib.hid (parse_at [50, 48, 50, 52, 45] (by decide) 0 0 4 5 (by decide))))
  have G3 := Lib.hid (l_fault ⟨#[48, 48, 48, 48]⟩ 5 0 (Lib.hid (parse_at [48, 48, 48, 48] (by decide) 0 0 5 0 (by decide))))
  clear ht
  go_enter Tryd.func5, Tryd.ntmps5
  go_wp2_with fail
  refine (O5.out _).mono ?_; rintro e w' ⟨rfl, J, dr, rfl⟩
  go_wp2_with fail
  refine (F1.out _ (HT.out.below (by (repeat' (first | (with_reducible exact Below.refl _ _) | (with_reducible assumption) | (with_reducible refine Below.alloc ?_ ?_ _) | (with_reducible refine Below.drew ?_) | (with_reducible refine below_drewN ?_ _) | (with_reducible refine below_plus ?_ ?_ _ _) | (with_reducible refine Below.setCell ?_ ?_ _) | (with_reducible refine Below.setRow ?_ ?_ _) | go_size)))).1).mono ?_; rintro e w' ⟨rfl, J2, dr2, rfl⟩
  go_wp2_with fail
  refine (F2.out _ (HT.out.below (by (repeat' (first | (with_reducible exact Below.refl _ _) | (with_reducible assumption) | (with_reducible refine Below.alloc ?_ ?_ _) | (with_reducible refine Below.drew ?_) | (with_reducible refine below_drewN ?_ _) | (with_reducible refine below_plus ?_ ?_ _ _) | (with_reducible refine Below.setCell ?_ ?_ _) | (with_reducible refine Below.setRow ?_ ?_ _) | go_size)))).1).mono ?_; rintro e w' ⟨rfl, J3, dr3, rfl⟩
  go_wp2_with fail
  refine (F3.out _ (HT.out.below (by (repeat' (first | (with_reducible exact Below.refl _ _) | (with_reducible assumption) | (with_reducible refine Below.alloc ?_ ?_ _) | (with_reducible refine Below.drew ?_) | (with_reducible refine below_drewN ?_ _) | (with_reducible refine below_plus ?_ ?_ _ _) | (with_reducible refine Below.setCell ?_ ?_ _) | (with_reducible refine Below.setRow ?_ ?_ _) | go_size)))).1).mono ?_; rintro e w' ⟨rfl, J4, dr4, rfl⟩
  go_wp2_with fail
  refine (P1.out _).mono ?_; rintro e w' ⟨rfl, J5, dr5, rfl⟩
  go_wp2_with fail
  refine (H1.out _ (HT.out.below (by (repeat' (first | (with_reducible exact Below.refl _ _) | (with_reducible assumption) | (with_reducible refine Below.alloc ?_ ?_ _) | (with_reducible refine Below.drew ?_) | (with_reducible refine below_drewN ?_ _) | (with_reducible refine below_plus ?_ ?_ _ _) | (with_reducible refine Below.setCell ?_ ?_ _) | (with_reducible refine Below.setRow ?_ ?_ _) | go_size))))).mono ?_; rintro e w' ⟨rfl, J6, dr6, rfl⟩
  go_wp2_with fail
  refine (H2.out _ (HT.out.below (by (repeat' (first | (with_reducible exact Below.refl _ _) | (with_reducible assumption) | (with_reducible refine Below.alloc ?_ ?_ _) | (with_reducible refine Below.drew ?_) | (with_reducible refine below_drewN ?_ _) | (with_reducible refine below_plus ?_ ?_ _ _) | (with_reducible refine Below.setCell ?_ ?_ _) | (with_reducible refine Below.setRow ?_ ?_ _) | go_size))))).mono ?_; rintro e w' ⟨rfl, J7, dr7, rfl⟩
  go_wp2_with fail
  refine (HA.out _ (HT.out.below (by (repeat' (first | (with_reducible exact Below.refl _ _) | (with_reducible assumption) | (with_reducible refine Below.alloc ?_ ?_ _) | (with_reducible refine Below.drew ?_) | (with_reducible refine below_drewN ?_ _) | (with_reducible refine below_plus ?_ ?_ _ _) | (with_reducible refine Below.setCell ?_ ?_ _) | (with_reducible refine Below.setRow ?_ ?_ _) | go_size))))).mono ?_; rintro e w' ⟨rfl, J8, dr8, rfl⟩
  go_wp2_with fail
  refine (T1.out _ (HT.out.below (by (repeat' (first | (with_reducible exact Below.refl _ _) | (with_reducible assumption) | (with_reducible refine Below.alloc ?_ ?_ _) | (with_reducible refine Below.drew ?_) | (with_reducible refine below_drewN ?_ _) | (with_reducible refine below_plus ?_ ?_ _ _) | (with_reducible refine Below.setCell ?_ ?_ _) | (with_reducible refine Below.setRow ?_ ?_ _) | go_size))))).mono ?_; rintro e w' ⟨rfl, J9, dr9, rfl⟩
  go_wp2_with fail
  refine (T2.out _ (HT.out.below (by (repeat' (first | (with_reducible exact Below.refl _ _) | (with_reducible assumption) | (with_reducible refine Below.alloc ?_ ?_ _) | (with_reducible refine Below.drew ?_) | (with_reducible refine below_drewN ?_ _) | (with_reducible refine below_plus ?_ ?_ _ _) | (with_reducible refine Below.setCell ?_ ?_ _) | (with_reducible refine Below.setRow ?_ ?_ _) | go_size))))).mono ?_; rintro e w' ⟨rfl, J10, dr10, rfl⟩
  go_wp2_with fail
  refine (G1.out _).mono ?_; rintro e w' ⟨rfl, J11, dr11, rfl⟩
  go_wp2_with fail
  refine (G2.out _).mono ?_; rintro e w' ⟨rfl, J12, dr12, rfl⟩
  go_wp2_with fail
  refine (G3.out _).mono ?_; rintro e w' ⟨rfl, J13, dr13, rfl⟩
  go_wp2
  go_ret
  exact ⟨by simp, junk_of_below (by (repeat' (first | (with_reducible exact Below.refl _ _) | (with_reducible assumption) | (with_reducible refine Below.alloc ?_ ?_ _) | (with_reducible refine Below.drew ?_) | (with_reducible refine below_drewN ?_ _) | (with_reducible refine below_plus ?_ ?_ _ _) | (with_reducible refine Below.setCell ?_ ?_ _) | (with_reducible refine Below.setRow ?_ ?_ _) | go_size)))⟩

/-- A day, its month: what Of tells of it. -/
theorem of_day (v : Int) (h : 0 ≤ v ∧ v ≤ 3652058) : ∃ y m d : Int, Valid y m d ∧ dayOf y m d = v ∧ ∀ k, 1 ≤ k ∧ k ≤ 4 → ∀ w, Tabs w → Calls Tryd.prog 9 #[.int .i64 k, .int .i64 v] w fun e w' => e = .returned (.tuple #[.int .i64 ((12 * (y - 1) + m - 1) / mon k), .int .i64 0]) ∧ Junk w w' := by
  obtain ⟨y, m, d, hv, he⟩ := date_exists v.toNat (by omega)
  rw [show ((v.toNat : Nat) : Int) = v by omega] at he
  exact ⟨y, m, d, hv, he, fun k hk w ht => n_Of k v y m d hk hv he w ht.1⟩

set_option maxHeartbeats 2000000 in
theorem l_order (k a b : Int) (w : World) (ht : Tabs w) : Calls Tryd.prog 8 #[.int .i64 k, .int .i64 a, .int .i64 b] w fun e w' => e = .returned (.bool true) ∧ Below w.heap.size w w' := by
  have HT := Lib.hid ht
  have HA := Lib.hid awake_ok
  by_cases hin : 1 ≤ k ∧ k ≤ 4 ∧ 0 ≤ a ∧ a ≤ b ∧ b ≤ 3652058
  case neg =>
    have hcase : k < 1 ∨ (¬ k < 1 ∧ 4 < k) ∨ (¬ k < 1 ∧ ¬ 4 < k ∧ a < 0) ∨ (¬ k < 1 ∧ ¬ 4 < k ∧ ¬ a < 0 ∧ b < a) ∨ (¬ k < 1 ∧ ¬ 4 < k ∧ ¬ a < 0 ∧ ¬ b < a ∧ 3652058 < b) := by omega
    clear hin ht
    rcases hcase with h1 | ⟨h1, h2⟩ | ⟨h1, h2, h3⟩ | ⟨h1, h2, h3, h4⟩ | ⟨h1, h2, h3, h4, h5⟩
    all_goals
      go_enter Tryd.func8, Tryd.ntmps8
      go_wp2_with fail
      refine (HA.out _ HT.out).mono ?_; rintro e w' ⟨rfl, J5, dr5, rfl⟩
      go_wp2
      go_ret
      exact ⟨by simp, by (repeat' (first | (with_reducible exact Below.refl _ _) | (with_reducible assumption) | (with_reducible refine Below.alloc ?_ ?_ _) | (with_reducible refine Below.drew ?_) | (with_reducible refine below_drewN ?_ _) | (with_reducible refine below_plus ?_ ?_ _ _) | (with_reducible refine Below.setCell ?_ ?_ _) | (with_reducible refine Below.setRow ?_ ?_ _) | go_size))⟩
  obtain ⟨k0, k1, a0, ab, b1⟩ := hin
  obtain ⟨y, m, d, hv, he, ho⟩ := of_day a (by omega)
  obtain ⟨y', m', d', hv', he', ho'⟩ := of_day b (by omega)
  have O1 := ho k ⟨k0, k1⟩
  have O2 := ho' k ⟨k0, k1⟩
  have hmono := month_mono hv hv' (by rw [he, he']; exact ab)
  obtain ⟨_, _, _, _, _, _, q1, _⟩ := mon_facts (k := k) ⟨k0, k1⟩
  have hle := Int.ediv_le_ediv (c := mon k) (by omega) hmono
  have hsame : (12 * (y - 1) + m - 1) / mon k = (12 * (y' - 1) + m' - 1) / mon k → b - a < 366 := by
    intro e
    have e12 := div_same_year ⟨k0, k1⟩ e
    have yy : y = y' := by obtain ⟨_, _, m0, m1, _⟩ := hv; obtain ⟨_, _, m2, m3, _⟩ := hv'; omega
    subst yy
    rw [← he, ← he']
    exact year_span hv hv'
  generalize (12 * (y - 1) + m - 1) / mon k = n at *
  generalize (12 * (y' - 1) + m' - 1) / mon k = n' at *
  have O1 := Lib.hid O1
  have O2 := Lib.hid O2
  clear hv hv' he he' ho ho' hmono ht
  by_cases hn : n = n'
  · have hd := hsame hn
    subst hn
    clear hsame
    go_enter Tryd.func8, Tryd.ntmps8
    go_wp2_with fail
    refine (HA.out _ HT.out).mono ?_; rintro e w' ⟨rfl, J5, dr5, rfl⟩
    go_wp2_with fail
    refine (O1.out _ (HT.out.below (by (repeat' (first | (with_reducible exact Below.refl _ _) | (with_reducible assumption) | (with_reducible refine Below.alloc ?_ ?_ _) | (with_reducible refine Below.drew ?_) | (with_reducible refine below_drewN ?_ _) | (with_reducible refine below_plus ?_ ?_ _ _) | (with_reducible refine Below.setCell ?_ ?_ _) | (with_reducible refine Below.setRow ?_ ?_ _) | go_size))))).mono ?_; rintro e w' ⟨rfl, J6, dr6, rfl⟩
    go_wp2_with fail
    refine (O2.out _ (HT.out.below (by (repeat' (first | (with_reducible exact Below.refl _ _) | (with_reducible assumption) | (with_reducible refine Below.alloc ?_ ?_ _) | (with_reducible refine Below.drew ?_) | (with_reducible refine below_drewN ?_ _) | (with_reducible refine below_plus ?_ ?_ _ _) | (with_reducible refine Below.setCell ?_ ?_ _) | (with_reducible refine Below.setRow ?_ ?_ _) | go_size))))).mono ?_; rintro e w' ⟨rfl, J7, dr7, rfl⟩
    go_wp2
    go_ret
    exact ⟨by first | (simp; done) | (simp [*]; done) | (simp; omega), by (repeat' (first | (with_reducible exact Below.refl _ _) | (with_reducible assumption) | (with_reducible refine Below.alloc ?_ ?_ _) | (with_reducible refine Below.drew ?_) | (with_reducible refine below_drewN ?_ _) | (with_reducible refine below_plus ?_ ?_ _ _) | (with_reducible refine Below.setCell ?_ ?_ _) | (with_reducible refine Below.setRow ?_ ?_ _) | go_size))⟩
  · have hd : (n != n') = true := bne_iff_ne.2 hn
    clear hsame
    go_enter Tryd.func8, Tryd.ntmps8
    go_wp2_with fail
    refine (HA.out _ HT.out).mono ?_; rintro e w' ⟨rfl, J5, dr5, rfl⟩
    go_wp2_with fail
    refine (O1.out _ (HT.out.below (by (repeat' (first | (with_reducible exact Below.refl _ _) | (with_reducible assumption) | (with_reducible refine Below.alloc ?_ ?_ _) | (with_reducible refine Below.drew ?_) | (with_reducible refine below_drewN ?_ _) | (with_reducible refine below_plus ?_ ?_ _ _) | (with_reducible refine Below.setCell ?_ ?_ _) | (with_reducible refine Below.setRow ?_ ?_ _) | go_size))))).mono ?_; rintro e w' ⟨rfl, J6, dr6, rfl⟩
    go_wp2_with fail
    refine (O2.out _ (HT.out.below (by (repeat' (first | (with_reducible exact Below.refl _ _) | (with_reducible assumption) | (with_reducible refine Below.alloc ?_ ?_ _) | (with_reducible refine Below.drew ?_) | (with_reducible refine below_drewN ?_ _) | (with_reducible refine below_plus ?_ ?_ _ _) | (with_reducible refine Below.setCell ?_ ?_ _) | (with_reducible refine Below.setRow ?_ ?_ _) | go_size))))).mono ?_; rintro e w' ⟨rfl, J7, dr7, rfl⟩
    go_wp2
    go_ret
    exact ⟨by first | (simp; done) | (simp [*]; done) | (simp; omega), by (repeat' (first | (with_reducible exact Below.refl _ _) | (with_reducible assumption) | (with_reducible refine Below.alloc ?_ ?_ _) | (with_reducible refine Below.drew ?_) | (with_reducible refine below_drewN ?_ _) | (with_reducible refine below_plus ?_ ?_ _ _) | (with_reducible refine Below.setCell ?_ ?_ _) | (with_reducible refine Below.setRow ?_ ?_ _) | go_size))⟩
end Go.Proofs.YtlbbampmonkleaaDoor

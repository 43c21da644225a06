/- The law PeriodOne. Condition: civil's and strconv's tables are as laid. -/
import Derived.Test.YtlbbampmonkleaaDoorPerL3
namespace Go.Proofs.YtlbbampmonkleaaDoor
set_option linter.unusedVariables false
set_option linter.unusedSimpArgs false
open Go.RowKit

/-- Of a month's day. -/
def OfAt (k v n : Int) : Prop := ∀ w, Tabs w → Calls Tryd.prog 9 #[.int .i64 k, .int .i64 v] w fun e w' => e = .returned (.tuple #[.int .i64 n, .int .i64 0]) ∧ Junk w w'
theorem of_first {k n : Int} (hk : 1 ≤ k ∧ k ≤ 4) (h0 : 0 ≤ n) (h1 : n ≤ 119987) : OfAt k (mday n) (n / mon k) :=
  fun w ht => n_Of_month k n 1 hk h0 h1 (v_first h0 h1) _ rfl w ht.1
theorem of_last {k n : Int} (hk : 1 ≤ k ∧ k ≤ 4) (h0 : 0 ≤ n) (h1 : n ≤ 119987) : OfAt k (mend n) (n / mon k) :=
  fun w ht => n_Of_month k n _ hk h0 h1 (v_last h0 h1) _ rfl w ht.1

theorem one_math (k o v : Int) (hk : 1 ≤ k ∧ k ≤ 4) (ho : k ≤ o ∧ o ≤ 4) (hv : 0 ≤ v ∧ v ≤ 3652058) :
    ∃ n m a b : Int, OfAt k v n ∧ OfAt o v m ∧ firstRes k n = (a, 0) ∧ lastRes k n = (b, 0) ∧ a ≤ v ∧ v ≤ b ∧ OfAt k a n ∧ OfAt k b n ∧ OfAt o a m ∧ OfAt o b m ∧
      0 ≤ n ∧ n ≤ 119987 ∧ 0 ≤ a ∧ 0 ≤ b ∧ b ≤ 3652058 ∧ (b < 3652058 → firstRes k (n + 1) = (b + 1, 0) ∧ OfAt k (b + 1) (n + 1)) := by
  obtain ⟨y, mm, d, hva, he, hof⟩ := of_day v hv
  obtain ⟨n0, n1, i0, i1⟩ := month_in hva
  rw [he] at i0 i1
  have hq := hof k hk
  have hq' := hof o (by omega)
  generalize 12 * (y - 1) + mm - 1 = N at *
  have hin := inCal_of hk n0 n1
  obtain ⟨p0, s0, s1, s2, p1⟩ := inCal_bd hin
  obtain ⟨_, _, _, _, _, _, q1, q2⟩ := mon_facts hk
  have hf := first_ok hin
  have hl := last_ok hin
  obtain ⟨P, hP⟩ : ∃ P, N / mon k = P := ⟨_, rfl⟩
  obtain ⟨M, hM⟩ : ∃ M, P * mon k = M := ⟨_, rfl⟩
  have hdm : N / mon k * mon k ≤ N ∧ N ≤ N / mon k * mon k + (mon k - 1) := by
    rcases mon_cases hk with ⟨_, e⟩ | ⟨_, e⟩ | ⟨_, e⟩ | ⟨_, e⟩ <;> rw [e] <;> omega
  rw [hP] at p0 s0 s1 s2 p1 hf hl hdm hq hin
  rw [hM] at s0 s1 s2 hf hl hdm
  have ma : M / mon k = P := by rw [← hM]; exact Int.mul_ediv_cancel _ (by omega)
  have mb : (M + (mon k - 1)) / mon k = P := by
    rw [← hM]
    rcases mon_cases hk with ⟨_, e⟩ | ⟨_, e⟩ | ⟨_, e⟩ | ⟨_, e⟩ <;> rw [e] <;> omega
  have hoo : 1 ≤ o ∧ o ≤ 4 := by omega
  have mo : M / mon o = N / mon o ∧ (M + (mon k - 1)) / mon o = N / mon o := by
    rw [← hM, ← hP]
    rcases mon_cases hk with ⟨ek, e⟩ | ⟨ek, e⟩ | ⟨ek, e⟩ | ⟨ek, e⟩ <;> rw [e] <;> rcases mon_cases hoo with ⟨eo, e'⟩ | ⟨eo, e'⟩ | ⟨eo, e'⟩ | ⟨eo, e'⟩ <;> rw [e'] <;> omega
  have A1 := of_first hk s0 (by omega)
  have A2 := of_last (n := M + (mon k - 1)) hk (by omega) (by omega)
  have B1 := of_first hoo s0 (by omega)
  have B2 := of_last (n := M + (mon k - 1)) hoo (by omega) (by omega)
  rw [ma] at A1; rw [mb] at A2; rw [mo.1] at B1; rw [mo.2] at B2
  have ba := day_bd (v_first s0 (by omega : M ≤ 119987))
  have bb := day_bd (v_last (show 0 ≤ M + (mon k - 1) by omega) (by omega : M + (mon k - 1) ≤ 119987))
  refine ⟨P, N / mon o, _, _, hq, hq', hf, hl, Int.le_trans (mday_le s0 hdm.1 n1) i0, Int.le_trans i1 (mend_le n0 hdm.2 (by omega)), A1, A2, B1, B2, p0, ?_, ba.1, bb.1, bb.2, fun hb => ?_⟩
  · rw [← hP]
    exact Int.le_trans (Int.ediv_le_self _ n0) n1
  · have hlt : M + (mon k - 1) < 119987 := by
      rcases Int.lt_or_le (M + (mon k - 1)) 119987 with h | h
      · exact h
      · have e : M + (mon k - 1) = 119987 := by omega
        rw [e, show mend 119987 = 3652058 by decide] at hb
        omega
    have e1 := mend_succ (show 0 ≤ M + (mon k - 1) by omega) hlt
    have e2 : M + (mon k - 1) + 1 = (P + 1) * mon k := by rw [Int.add_mul, hM]; omega
    rw [e2] at e1
    have e3 : (P + 1) * mon k / mon k = P + 1 := Int.mul_ediv_cancel _ (by omega)
    have h0 : 0 ≤ (P + 1) * mon k := by omega
    have h1 : (P + 1) * mon k ≤ 119987 := by omega
    have hin' := inCal_of hk h0 h1
    rw [e3] at hin'
    have C := of_first hk h0 h1
    rw [e3] at C
    rw [e1]
    exact ⟨first_ok hin', C⟩

set_option maxHeartbeats 4000000 in
theorem l_one (k o v : Int) (w : World) (ht : Tabs w) : Calls Tryd.prog 6 #[.int .i64 k, .int .i64 o, .int .i64 v] w fun e w' => e = .returned (.bool true) ∧ Below w.heap.size w w' := by
  have HT := Lib.hid ht
  have HA := Lib.hid l_known
  by_cases hin : 1 ≤ k ∧ k ≤ 4 ∧ k ≤ o ∧ o ≤ 4 ∧ 0 ≤ v ∧ v ≤ 3652058
  case neg =>
    have hcase : k < 1 ∨ (¬ k < 1 ∧ 4 < k) ∨ (¬ k < 1 ∧ ¬ 4 < k ∧ o < k) ∨ (¬ k < 1 ∧ ¬ 4 < k ∧ ¬ o < k ∧ 4 < o) ∨ (¬ k < 1 ∧ ¬ 4 < k ∧ ¬ o < k ∧ ¬ 4 < o ∧ v < 0) ∨ (¬ k < 1 ∧ ¬ 4 < k ∧ ¬ o < k ∧ ¬ 4 < o ∧ ¬ v < 0 ∧ 3652058 < v) := by omega
    clear hin ht
    rcases hcase with h1 | ⟨h1, h2⟩ | ⟨h1, h2, h3⟩ | ⟨h1, h2, h3, h4⟩ | ⟨h1, h2, h3, h4, h5⟩ | ⟨h1, h2, h3, h4, h5, h6⟩
    all_goals
      go_enter Tryd.func6, Tryd.ntmps6
      go_wp2_with fail
      refine (HA.out _ HT.out).mono ?_; rintro e w' ⟨rfl, J5, dr5, rfl⟩
      go_wp2
      go_ret
      exact ⟨by simp, by (repeat' (first | (with_reducible exact Below.refl _ _) | (with_reducible assumption) | (with_reducible refine Below.alloc ?_ ?_ _) | (with_reducible refine Below.drew ?_) | (with_reducible refine below_drewN ?_ _) | (with_reducible refine below_plus ?_ ?_ _ _) | (with_reducible refine Below.setCell ?_ ?_ _) | (with_reducible refine Below.setRow ?_ ?_ _) | go_size))⟩
  obtain ⟨k0, k1, o0, o1, v0, v1⟩ := hin
  obtain ⟨n, m, a, b, O1, O2, f1, f2, av, vb, A1, A2, B1, B2, n0, n1, a0, b0, b1, hnext⟩ := one_math k o v ⟨k0, k1⟩ ⟨o0, o1⟩ ⟨v0, v1⟩
  have F1 := n_First k n; rw [f1] at F1
  have F2 := n_Last k n; rw [f2] at F2
  have F1 := Lib.hid F1; have F2 := Lib.hid F2
  have O1 := Lib.hid O1; have O2 := Lib.hid O2
  have A1 := Lib.hid (l_of k a n (Lib.hid A1)); have A2 := Lib.hid (l_of k b n (Lib.hid A2))
  have B1 := Lib.hid (l_of o a m (Lib.hid B1)); have B2 := Lib.hid (l_of o b m (Lib.hid B2))
  clear f1 f2 ht
  by_cases hb : b < 3652058
  · obtain ⟨f3, C1⟩ := hnext hb
    have F3 := n_First k (n + 1); rw [f3] at F3
    have F3 := Lib.hid F3
    have C1 := Lib.hid (l_of k (b + 1) (n + 1) (Lib.hid C1))
    clear f3 hnext
    go_enter Tryd.func6, Tryd.ntmps6
    go_wp2_with fail
    refine (HA.out _ HT.out).mono ?_; rintro e w' ⟨rfl, J, dr, rfl⟩
    go_wp2_with fail
    refine (O1.out _ (HT.out.below (by (repeat' (first | (with_reducible exact Below.refl _ _) | (with_reducible assumption) | (with_reducible refine Below.alloc ?_ ?_ _) | (with_reducible refine Below.drew ?_) | (with_reducible refine below_drewN ?_ _) | (with_reducible refine below_plus ?_ ?_ _ _) | (with_reducible refine Below.setCell ?_ ?_ _) | (with_reducible refine Below.setRow ?_ ?_ _) | go_size))))).mono ?_; rintro e w' ⟨rfl, J2, dr2, rfl⟩
    go_wp2_with fail
    refine (F1.out _ (HT.out.below (by (repeat' (first | (with_reducible exact Below.refl _ _) | (with_reducible assumption) | (with_reducible refine Below.alloc ?_ ?_ _) | (with_reducible refine Below.drew ?_) | (with_reducible refine below_drewN ?_ _) | (with_reducible refine below_plus ?_ ?_ _ _) | (with_reducible refine Below.setCell ?_ ?_ _) | (with_reducible refine Below.setRow ?_ ?_ _) | go_size)))).1).mono ?_; rintro e w' ⟨rfl, J3, dr3, rfl⟩
    go_wp2_with fail
    refine (F2.out _ (HT.out.below (by (repeat' (first | (with_reducible exact Below.refl _ _) | (with_reducible assumption) | (with_reducible refine Below.alloc ?_ ?_ _) | (with_reducible refine Below.drew ?_) | (with_reducible refine below_drewN ?_ _) | (with_reducible refine below_plus ?_ ?_ _ _) | (with_reducible refine Below.setCell ?_ ?_ _) | (with_reducible refine Below.setRow ?_ ?_ _) | go_size)))).1).mono ?_; rintro e w' ⟨rfl, J4, dr4, rfl⟩
    go_wp2_with fail
    refine (A1.out _ (HT.out.below (by (repeat' (first | (with_reducible exact Below.refl _ _) | (with_reducible assumption) | (with_reducible refine Below.alloc ?_ ?_ _) | (with_reducible refine Below.drew ?_) | (with_reducible refine below_drewN ?_ _) | (with_reducible refine below_plus ?_ ?_ _ _) | (with_reducible refine Below.setCell ?_ ?_ _) | (with_reducible refine Below.setRow ?_ ?_ _) | go_size))))).mono ?_; rintro e w' ⟨rfl, J5, dr5, rfl⟩
    go_wp2_with fail
    refine (A2.out _ (HT.out.below (by (repeat' (first | (with_reducible exact Below.refl _ _) | (with_reducible assumption) | (with_reducible refine Below.alloc ?_ ?_ _) | (with_reducible refine Below.drew ?_) | (with_reducible refine below_drewN ?_ _) | (with_reducible refine below_plus ?_ ?_ _ _) | (with_reducible refine Below.setCell ?_ ?_ _) | (with_reducible refine Below.setRow ?_ ?_ _) | go_size))))).mono ?_; rintro e w' ⟨rfl, J6, dr6, rfl⟩
    go_wp2_with fail
    refine (F3.out _ (HT.out.below (by (repeat' (first | (with_reducible exact Below.refl _ _) | (with_reducible assumption) | (with_reducible refine Below.alloc ?_ ?_ _) | (with_reducible refine Below.drew ?_) | (with_reducible refine below_drewN ?_ _) | (with_reducible refine below_plus ?_ ?_ _ _) | (with_reducible refine Below.setCell ?_ ?_ _) | (with_reducible refine Below.setRow ?_ ?_ _) | go_size)))).1).mono ?_; rintro e w' ⟨rfl, J7, dr7, rfl⟩
    go_wp2_with fail
    refine (C1.out _ (HT.out.below (by (repeat' (first | (with_reducible exact Below.refl _ _) | (with_reducible assumption) | (with_reducible refine Below.alloc ?_ ?_ _) | (with_reducible refine Below.drew ?_) | (with_reducible refine below_drewN ?_ _) | (with_reducible refine below_plus ?_ ?_ _ _) | (with_reducible refine Below.setCell ?_ ?_ _) | (with_reducible refine Below.setRow ?_ ?_ _) | go_size))))).mono ?_; rintro e w' ⟨rfl, J8, dr8, rfl⟩
    go_wp2_with fail
    refine (O2.out _ (HT.out.below (by (repeat' (first | (with_reducible exact Below.refl _ _) | (with_reducible assumption) | (with_reducible refine Below.alloc ?_ ?_ _) | (with_reducible refine Below.drew ?_) | (with_reducible refine below_drewN ?_ _) | (with_reducible refine below_plus ?_ ?_ _ _) | (with_reducible refine Below.setCell ?_ ?_ _) | (with_reducible refine Below.setRow ?_ ?_ _) | go_size))))).mono ?_; rintro e w' ⟨rfl, J9, dr9, rfl⟩
    go_wp2_with fail
    refine (B1.out _ (HT.out.below (by (repeat' (first | (with_reducible exact Below.refl _ _) | (with_reducible assumption) | (with_reducible refine Below.alloc ?_ ?_ _) | (with_reducible refine Below.drew ?_) | (with_reducible refine below_drewN ?_ _) | (with_reducible refine below_plus ?_ ?_ _ _) | (with_reducible refine Below.setCell ?_ ?_ _) | (with_reducible refine Below.setRow ?_ ?_ _) | go_size))))).mono ?_; rintro e w' ⟨rfl, J10, dr10, rfl⟩
    go_wp2_with fail
    refine (B2.out _ (HT.out.below (by (repeat' (first | (with_reducible exact Below.refl _ _) | (with_reducible assumption) | (with_reducible refine Below.alloc ?_ ?_ _) | (with_reducible refine Below.drew ?_) | (with_reducible refine below_drewN ?_ _) | (with_reducible refine below_plus ?_ ?_ _ _) | (with_reducible refine Below.setCell ?_ ?_ _) | (with_reducible refine Below.setRow ?_ ?_ _) | go_size))))).mono ?_; rintro e w' ⟨rfl, J11, dr11, rfl⟩
    go_wp2
    go_ret
    exact ⟨by simp, by (repeat' (first | (with_reducible exact Below.refl _ _) | (with_reducible assumption) | (with_reducible refine Below.alloc ?_ ?_ _) | (with_reducible refine Below.drew ?_) | (with_reducible refine below_drewN ?_ _) | (with_reducible refine below_plus ?_ ?_ _ _) | (with_reducible refine Below.setCell ?_ ?_ _) | (with_reducible refine Below.setRow ?_ ?_ _) | go_size))⟩
  · clear hnext
    go_enter Tryd.func6, Tryd.ntmps6
    go_wp2_with fail
    refine (HA.out _ HT.out).mono ?_; rintro e w' ⟨rfl, J, dr, rfl⟩
    go_wp2_with fail
    refine (O1.out _ (HT.out.below (by (repeat' (first | (with_reducible exact Below.refl _ _) | (with_reducible assumption) | (with_reducible refine Below.alloc ?_ ?_ _) | (with_reducible refine Below.drew ?_) | (with_reducible refine below_drewN ?_ _) | (with_reducible refine below_plus ?_ ?_ _ _) | (with_reducible refine Below.setCell ?_ ?_ _) | (with_reducible refine Below.setRow ?_ ?_ _) | go_size))))).mono ?_; rintro e w' ⟨rfl, J2, dr2, rfl⟩
    go_wp2_with fail
    refine (F1.out _ (HT.out.below (by (repeat' (first | (with_reducible exact Below.refl _ _) | (with_reducible assumption) | (with_reducible refine Below.alloc ?_ ?_ _) | (with_reducible refine Below.drew ?_) | (with_reducible refine below_drewN ?_ _) | (with_reducible refine below_plus ?_ ?_ _ _) | (with_reducible refine Below.setCell ?_ ?_ _) | (with_reducible refine Below.setRow ?_ ?_ _) | go_size)))).1).mono ?_; rintro e w' ⟨rfl, J3, dr3, rfl⟩
    go_wp2_with fail
    refine (F2.out _ (HT.out.below (by (repeat' (first | (with_reducible exact Below.refl _ _) | (with_reducible assumption) | (with_reducible refine Below.alloc ?_ ?_ _) | (with_reducible refine Below.drew ?_) | (with_reducible refine below_drewN ?_ _) | (with_reducible refine below_plus ?_ ?_ _ _) | (with_reducible refine Below.setCell ?_ ?_ _) | (with_reducible refine Below.setRow ?_ ?_ _) | go_size)))).1).mono ?_; rintro e w' ⟨rfl, J4, dr4, rfl⟩
    go_wp2_with fail
    refine (A1.out _ (HT.out.below (by (repeat' (first | (with_reducible exact Below.refl _ _) | (with_reducible assumption) | (with_reducible refine Below.alloc ?_ ?_ _) | (with_reducible refine Below.drew ?_) | (with_reducible refine below_drewN ?_ _) | (with_reducible refine below_plus ?_ ?_ _ _) | (with_reducible refine Below.setCell ?_ ?_ _) | (with_reducible refine Below.setRow ?_ ?_ _) | go_size))))).mono ?_; rintro e w' ⟨rfl, J5, dr5, rfl⟩
    go_wp2_with fail
    refine (A2.out _ (HT.out.below (by (repeat' (first | (with_reducible exact Below.refl _ _) | (with_reducible assumption) | (with_reducible refine Below.alloc ?_ ?_ _) | (with_reducible refine Below.drew ?_) | (with_reducible refine below_drewN ?_ _) | (with_reducible refine below_plus ?_ ?_ _ _) | (with_reducible refine Below.setCell ?_ ?_ _) | (with_reducible refine Below.setRow ?_ ?_ _) | go_size))))).mono ?_; rintro e w' ⟨rfl, J6, dr6, rfl⟩
    go_wp2_with fail
    refine (O2.out _ (HT.out.below (by (repeat' (first | (with_reducible exact Below.refl _ _) | (with_reducible assumption) | (with_reducible refine Below.alloc ?_ ?_ _) | (with_reducible refine Below.drew ?_) | (with_reducible refine below_drewN ?_ _) | (with_reducible refine below_plus ?_ ?_ _ _) | (with_reducible refine Below.setCell ?_ ?_ _) | (with_reducible refine Below.setRow ?_ ?_ _) | go_size))))).mono ?_; rintro e w' ⟨rfl, J9, dr9, rfl⟩
    go_wp2_with fail
    refine (B1.out _ (HT.out.below (by (repeat' (first | (with_reducible exact Below.refl _ _) | (with_reducible assumption) | (with_reducible refine Below.alloc ?_ ?_ _) | (with_reducible refine Below.drew ?_) | (with_reducible refine below_drewN ?_ _) | (with_reducible refine below_plus ?_ ?_ _ _) | (with_reducible refine Below.setCell ?_ ?_ _) | (with_reducible refine Below.setRow ?_ ?_ _) | go_size))))).mono ?_; rintro e w' ⟨rfl, J10, dr10, rfl⟩
    go_wp2_with fail
    refine (B2.out _ (HT.out.below (by (repeat' (first | (with_reducible exact Below.refl _ _) | (with_reducible assumption) | (with_reducible refine Below.alloc ?_ ?_ _) | (with_reducible refine Below.drew ?_) | (with_reducible refine below_drewN ?_ _) | (with_reducible refine below_plus ?_ ?_ _ _) | (with_reducible refine Below.setCell ?_ ?_ _) | (with_reducible refine Below.setRow ?_ ?_ _) | go_size))))).mono ?_; rintro e w' ⟨rfl, J11, dr11, rfl⟩
    go_wp2
    go_ret
    exact ⟨by simp, by (repeat' (first | (with_reducible exact Below.refl _ _) | (with_reducible assumption) | (with_reducible refine Below.alloc ?_ ?_ _) | (with_reducible refine Below.drew ?_) | (with_reducible refine below_drewN ?_ _) | (with_reducible refine below_plus ?_ ?_ _ _) | (with_reducible refine Below.setCell ?_ ?_ _) | (with_reducible refine Below.setRow ?_ ?_ _) | go_size))⟩
end Go.Proofs.YtlbbampmonkleaaDoor

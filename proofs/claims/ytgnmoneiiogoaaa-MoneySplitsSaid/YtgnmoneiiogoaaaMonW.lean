/- Contracts of money's Check, CheckRate, Tax and Share. Conditions: the arguments are ints. -/
import Derived.Test.YtgnmoneiiogoaaaMonP
namespace Go.Proofs.Ytgnmoneiiogoaaa
set_option linter.unusedVariables false
set_option linter.unusedSimpArgs false
open Go.RowKit

theorem n_Within (v lo hi : Int) (w : World) : Calls Try.prog 19 #[.int .i64 v, .int .i64 lo, .int .i64 hi] w fun e w' => e = .returned (.int .i64 (if lo ≤ v ∧ v ≤ hi then 0 else 5)) ∧ w = w' := by
  by_cases h0 : lo ≤ v
  · by_cases h1 : v ≤ hi
    · rw [if_pos ⟨h0, h1⟩]
      go_enter Try.func19, Try.ntmps19
      go_wp2
      go_ret
      exact ⟨rfl, rfl⟩
    · rw [if_neg (by omega)]
      go_enter Try.func19, Try.ntmps19
      go_wp2
      go_ret
      exact ⟨rfl, rfl⟩
  · rw [if_neg (by omega)]
    go_enter Try.func19, Try.ntmps19
    go_wp2
    go_ret
    exact ⟨rfl, rfl⟩

theorem n_Check (v : Int) (w : World) : Calls Try.prog 7 #[.int .i64 v] w fun e w' => e = .returned (.int .i64 (amtErr v)) ∧ w = w' := by
  have H := Lib.hid (n_Within v (-1099511627775) 1099511627775)
  rw [show (if -1099511627775 ≤ v ∧ v ≤ 1099511627775 then (0 : Int) else 5) = amtErr v from rfl] at H
  generalize amtErr v = x at *
  go_enter Try.func7, Try.ntmps7
  go_wp2_with fail
  refine (H.out _).mono ?_; rintro e w' ⟨rfl, rfl⟩
  go_wp2_with fail
  go_ret
  exact ⟨rfl, rfl⟩

theorem n_CheckRate (v : Int) (w : World) : Calls Try.prog 9 #[.int .i64 v] w fun e w' => e = .returned (.int .i64 (rateErr v)) ∧ w = w' := by
  have H := Lib.hid (n_Within v 0 1000000)
  rw [show (if 0 ≤ v ∧ v ≤ 1000000 then (0 : Int) else 5) = rateErr v from rfl] at H
  generalize rateErr v = x at *
  go_enter Try.func9, Try.ntmps9
  go_wp2_with fail
  refine (H.out _).mono ?_; rintro e w' ⟨rfl, rfl⟩
  go_wp2_with fail
  go_ret
  exact ⟨rfl, rfl⟩

theorem n_Tax (a r : Int) (w : World) :
    Calls Try.prog 11 #[.int .i64 a, .int .i64 r] w fun e w' => e = .returned (.tuple #[.int .i64 (taxRes a r).1, .int .i64 (taxRes a r).2]) ∧ Junk w w' := by
  have HC := n_Check a; have HR := n_CheckRate r
  rcases amtErr_two a with ⟨h1, a0, a1⟩ | ⟨h1, h2⟩
  · rcases rateErr_two r with ⟨k1, r0, r1⟩ | ⟨k1, k2⟩
    · rw [h1] at HC; rw [k1] at HR
      rw [show taxRes a r = evenRes a r 1000000 from if_pos ⟨⟨a0, a1⟩, r0, r1⟩]
      have HC := Lib.hid HC; have HR := Lib.hid HR
      have HE := Lib.hid (fun w => (w_Even a r 1000000 (by omega) (by omega) (by omega) (by omega) (by decide) (by decide) w).mono fun e w' h => (⟨h.1, junk_of_below h.2⟩ : _ ∧ Junk w w'))
      generalize evenRes a r 1000000 = p at *
      clear h1 k1 a0 a1 r0 r1
      go_enter Try.func11, Try.ntmps11
      go_wp2_with fail
      refine (HC.out _).mono ?_; rintro e w' ⟨rfl, rfl⟩
      go_wp2_with fail
      refine (HR.out _).mono ?_; rintro e w' ⟨rfl, rfl⟩
      go_wp2_with fail
      refine (HE.out _).mono ?_; rintro e w' ⟨rfl, J, d, rfl⟩
      go_wp2_with fail
      go_ret2
      exact ⟨rfl, junk_of_below (by (repeat' (first | (with_reducible exact Below.refl _ _) | (with_reducible assumption) | (with_reducible refine Below.alloc ?_ ?_ _) | (with_reducible refine Below.drew ?_) | (with_reducible refine below_drewN ?_ _) | (with_reducible refine below_plus ?_ ?_ _ _) | (with_reducible refine Below.setCell ?_ ?_ _) | (with_reducible refine Below.setRow ?_ ?_ _) | go_size)))⟩
    · rw [h1] at HC; rw [k1] at HR
      rw [show taxRes a r = (0, 5) from if_neg (fun h => k2 h.2)]
      have HC := Lib.hid HC; have HR := Lib.hid HR
      clear h1 k1 a0 a1 k2
      go_enter Try.func11, Try.ntmps11
      go_wp2_with fail
      refine (HC.out _).mono ?_; rintro e w' ⟨rfl, rfl⟩
      go_wp2_with fail
      refine (HR.out _).mono ?_; rintro e w' ⟨rfl, rfl⟩
      go_wp2_with fail
      go_ret2
      exact ⟨rfl, junk_of_below (by (repeat' (first | (with_reducible exact Below.refl _ _) | (with_reducible assumption) | (with_reducible refine Below.alloc ?_ ?_ _) | (with_reducible refine Below.drew ?_) | (with_reducible refine below_drewN ?_ _) | (with_reducible refine below_plus ?_ ?_ _ _) | (with_reducible refine Below.setCell ?_ ?_ _) | (with_reducible refine Below.setRow ?_ ?_ _) | go_size)))⟩
  · rw [h1] at HC
    rw [show taxRes a r = (0, 5) from if_neg (fun h => h2 h.1)]
    have HC := Lib.hid HC
    clear h1 h2 HR
    go_enter Try.func11, Try.ntmps11
    go_wp2_with fail
    refine (HC.out _).mono ?_; rintro e w' ⟨rfl, rfl⟩
    go_wp2_with fail
    go_ret2
    exact ⟨rfl, junk_of_below (by (repeat' (first | (with_reducible exact Below.refl _ _) | (with_reducible assumption) | (with_reducible refine Below.alloc ?_ ?_ _) | (with_reducible refine Below.drew ?_) | (with_reducible refine below_drewN ?_ _) | (with_reducible refine below_plus ?_ ?_ _ _) | (with_reducible refine Below.setCell ?_ ?_ _) | (with_reducible refine Below.setRow ?_ ?_ _) | go_size)))⟩

theorem n_Share (t p v : Int) (w : World) :
    Calls Try.prog 13 #[.int .i64 t, .int .i64 p, .int .i64 v] w fun e w' => e = .returned (.tuple #[.int .i64 (shareRes t p v).1, .int .i64 (shareRes t p v).2]) ∧ Junk w w' := by
  have HC := n_Check t
  rcases amtErr_two t with ⟨h1, a0, a1⟩ | ⟨h1, h2⟩
  · rw [h1] at HC
    by_cases hb : v < 1 ∨ 1099511627775 < v ∨ p < 0 ∨ v < p
    · rw [show shareRes t p v = (0, 2) by unfold shareRes; rw [if_neg (by omega), if_pos hb]]
      have HC := Lib.hid HC
      have HB := Lib.hid hb
      clear h1 a0 a1 hb
      go_enter Try.func13, Try.ntmps13
      go_wp2_with fail
      refine (HC.out _).mono ?_; rintro e w' ⟨rfl, rfl⟩
      by_cases c1 : v < 1
      · go_wp2_with fail
        go_ret2
        exact ⟨rfl, junk_of_below (by (repeat' (first | (with_reducible exact Below.refl _ _) | (with_reducible assumption) | (with_reducible refine Below.alloc ?_ ?_ _) | (with_reducible refine Below.drew ?_) | (with_reducible refine below_drewN ?_ _) | (with_reducible refine below_plus ?_ ?_ _ _) | (with_reducible refine Below.setCell ?_ ?_ _) | (with_reducible refine Below.setRow ?_ ?_ _) | go_size)))⟩
      by_cases c2 : 1099511627775 < v
      · go_wp2_with fail
        go_ret2
        exact ⟨rfl, junk_of_below (by (repeat' (first | (with_reducible exact Below.refl _ _) | (with_reducible assumption) | (with_reducible refine Below.alloc ?_ ?_ _) | (with_reducible refine Below.drew ?_) | (with_reducible refine below_drewN ?_ _) | (with_reducible refine below_plus ?_ ?_ _ _) | (with_reducible refine Below.setCell ?_ ?_ _) | (with_reducible refine Below.setRow ?_ ?_ _) | go_size)))⟩
      by_cases c3 : p < 0
      · go_wp2_with fail
        go_ret2
        exact ⟨rfl, junk_of_below (by (repeat' (first | (with_reducible exact Below.refl _ _) | (with_reducible assumption) | (with_reducible refine Below.alloc ?_ ?_ _) | (with_reducible refine Below.drew ?_) | (with_reducible refine below_drewN ?_ _) | (with_reducible refine below_plus ?_ ?_ _ _) | (with_reducible refine Below.setCell ?_ ?_ _) | (with_reducible refine Below.setRow ?_ ?_ _) | go_size)))⟩
      · have c4 : v < p := by have := HB.out; omega
        go_wp2_with fail
        go_ret2
        exact ⟨rfl, junk_of_below (by (repeat' (first | (with_reducible exact Below.refl _ _) | (with_reducible assumption) | (with_reducible refine Below.alloc ?_ ?_ _) | (with_reducible refine Below.drew ?_) | (with_reducible refine below_drewN ?_ _) | (with_reducible refine below_plus ?_ ?_ _ _) | (with_reducible refine Below.setCell ?_ ?_ _) | (with_reducible refine Below.setRow ?_ ?_ _) | go_size)))⟩
    · rw [show shareRes t p v = evenRes t p v by unfold shareRes; rw [if_neg (by omega), if_neg hb]]
      have HC := Lib.hid HC
      have HE := Lib.hid (fun w => (w_Even t p v (by omega) (by omega) (by omega) (by omega) (by omega) (by omega) w).mono fun e w' h => (⟨h.1, junk_of_below h.2⟩ : _ ∧ Junk w w'))
      generalize evenRes t p v = x at *
      have c1 : ¬ v < 1 := by omega
      have c2 : ¬ 1099511627775 < v := by omega
      have c3 : ¬ p < 0 := by omega
      have c4 : ¬ v < p := by omega
      clear h1 a0 a1 hb
      go_enter Try.func13, Try.ntmps13
      go_wp2_with fail
      refine (HC.out _).mono ?_; rintro e w' ⟨rfl, rfl⟩
      go_wp2_with fail
      refine (HE.out _).mono ?_; rintro e w' ⟨rfl, J, d, rfl⟩
      go_wp2_with fail
      go_ret2
      exact ⟨rfl, junk_of_below (by (repeat' (first | (with_reducible exact Below.refl _ _) | (with_reducible assumption) | (with_reducible refine Below.alloc ?_ ?_ _) | (with_reducible refine Below.drew ?_) | (with_reducible refine below_drewN ?_ _) | (with_reducible refine below_plus ?_ ?_ _ _) | (with_reducible refine Below.setCell ?_ ?_ _) | (with_reducible refine Below.setRow ?_ ?_ _) | go_size)))⟩
  · rw [h1] at HC
    rw [show shareRes t p v = (0, 5) from if_pos h2]
    have HC := Lib.hid HC
    clear h1 h2
    go_enter Try.func13, Try.ntmps13
    go_wp2_with fail
    refine (HC.out _).mono ?_; rintro e w' ⟨rfl, rfl⟩
    go_wp2_with fail
    go_ret2
    exact ⟨rfl, junk_of_below (by (repeat' (first | (with_reducible exact Below.refl _ _) | (with_reducible assumption) | (with_reducible refine Below.alloc ?_ ?_ _) | (with_reducible refine Below.drew ?_) | (with_reducible refine below_drewN ?_ _) | (with_reducible refine below_plus ?_ ?_ _ _) | (with_reducible refine Below.setCell ?_ ?_ _) | (with_reducible refine Below.setRow ?_ ?_ _) | go_size)))⟩

theorem mon_ok : MonOk where
  check a w _ _ := (n_Check a w).mono fun e w' h => ⟨h.1, by rw [h.2]; exact Junk.refl _⟩
  rate a w _ _ := (n_CheckRate a w).mono fun e w' h => ⟨h.1, by rw [h.2]; exact Junk.refl _⟩
  tax a r w _ _ _ _ := n_Tax a r w
  share t p v w _ _ _ _ _ _ := n_Share t p v w
end Go.Proofs.Ytgnmoneiiogoaaa

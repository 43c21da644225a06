/- The law MoneyBounds, given what money's functions answer. -/
import Derived.Test.YtgnmoneiiogoaaaDoorMonP
import Derived.Test.YtgnmoneiiogoaaaDoorMonQ
import Derived.Test.YtgnmoneiiogoaaaDoorTab
import Derived.OpenShut
namespace Go.Proofs.YtgnmoneiiogoaaaDoor
set_option linter.unusedVariables false
set_option linter.unusedSimpArgs false
open Go.RowKit

def KnownOk : Prop := ∀ w, Tab w → Calls Tryd.prog 4 #[] w fun e w' => e = .returned (.bool true) ∧ Junk w w'

set_option maxRecDepth 100000 in
set_option maxHeartbeats 2000000 in
theorem l_moneyBounds (O : MonOk) (K : KnownOk) (a b r m : Int) (w : World) (htab : Tab w) (w0 : (Lit.int .i64 a).wf = true) (w1 : (Lit.int .i64 b).wf = true) (w2 : (Lit.int .i64 r).wf = true) (w3 : (Lit.int .i64 m).wf = true) :
    Calls Tryd.prog 5 #[.int .i64 a, .int .i64 b, .int .i64 r, .int .i64 m] w fun e w' => e = .returned (.bool true) ∧ Junk w w' := by
  obtain ⟨a0, a1⟩ := bounds_i64 w0
  obtain ⟨b0, b1⟩ := bounds_i64 w1
  obtain ⟨r0, r1⟩ := bounds_i64 w2
  obtain ⟨m0, m1⟩ := bounds_i64 w3
  have KK := Lib.hid (K w htab)
  clear w0 w1 w2 w3 htab
  go_enter Tryd.func5, Tryd.ntmps5
  go_wp2_with fail
  refine (KK.out).mono ?_; rintro e w' ⟨rfl, Ja, da, rfl⟩
  by_cases h1 : a < 0
  · go_wp2
    go_ret
    exact ⟨rfl, junk_of_below (by (repeat' (first | (with_reducible exact Below.refl _ _) | (with_reducible assumption) | (with_reducible refine Below.alloc ?_ ?_ _) | (with_reducible refine Below.drew ?_) | (with_reducible refine below_drewN ?_ _) | (with_reducible refine below_plus ?_ ?_ _ _) | (with_reducible refine Below.setCell ?_ ?_ _) | (with_reducible refine Below.setRow ?_ ?_ _) | go_size)))⟩
  by_cases h2 : b < a
  · go_wp2
    go_ret
    exact ⟨rfl, junk_of_below (by (repeat' (first | (with_reducible exact Below.refl _ _) | (with_reducible assumption) | (with_reducible refine Below.alloc ?_ ?_ _) | (with_reducible refine Below.drew ?_) | (with_reducible refine below_drewN ?_ _) | (with_reducible refine below_plus ?_ ?_ _ _) | (with_reducible refine Below.setCell ?_ ?_ _) | (with_reducible refine Below.setRow ?_ ?_ _) | go_size)))⟩
  by_cases h3 : 1099511627775 < b
  · go_wp2
    go_ret
    exact ⟨rfl, junk_of_below (by (repeat' (first | (with_reducible exact Below.refl _ _) | (with_reducible assumption) | (with_reducible refine Below.alloc ?_ ?_ _) | (with_reducible refine Below.drew ?_) | (with_reducible refine below_drewN ?_ _) | (with_reducible refine below_plus ?_ ?_ _ _) | (with_reducible refine Below.setCell ?_ ?_ _) | (with_reducible refine Below.setRow ?_ ?_ _) | go_size)))⟩
  by_cases h4 : r < 0
  · go_wp2
    go_ret
    exact ⟨rfl, junk_of_below (by (repeat' (first | (with_reducible exact Below.refl _ _) | (with_reducible assumption) | (with_reducible refine Below.alloc ?_ ?_ _) | (with_reducible refine Below.drew ?_) | (with_reducible refine below_drewN ?_ _) | (with_reducible refine below_plus ?_ ?_ _ _) | (with_reducible refine Below.setCell ?_ ?_ _) | (with_reducible refine Below.setRow ?_ ?_ _) | go_size)))⟩
  by_cases h5 : m < r
  · go_wp2
    go_ret
    exact ⟨rfl, junk_of_below (by (repeat' (first | (with_reducible exact Below.refl _ _) | (with_reducible assumption) | (with_reducible refine Below.alloc ?_ ?_ _) | (with_reducible refine Below.drew ?_) | (with_reducible refine below_drewN ?_ _) | (with_reducible refine below_plus ?_ ?_ _ _) | (with_reducible refine Below.setCell ?_ ?_ _) | (with_reducible refine Below.setRow ?_ ?_ _) | go_size)))⟩
  by_cases h6 : 1000000 < m
  · go_wp2
    go_ret
    exact ⟨rfl, junk_of_below (by (repeat' (first | (with_reducible exact Below.refl _ _) | (with_reducible assumption) | (with_reducible refine Below.alloc ?_ ?_ _) | (with_reducible refine Below.drew ?_) | (with_reducible refine below_drewN ?_ _) | (with_reducible refine below_plus ?_ ?_ _ _) | (with_reducible refine Below.setCell ?_ ?_ _) | (with_reducible refine Below.setRow ?_ ?_ _) | go_size)))⟩
  obtain ⟨t1, t4, x0, x1⟩ := tax_q a r (by omega) (by omega) (by omega) (by omega)
  obtain ⟨t2, _, y0, y1⟩ := tax_q b r (by omega) (by omega) (by omega) (by omega)
  obtain ⟨t3, _, z0, z1⟩ := tax_q a m (by omega) (by omega) (by omega) (by omega)
  have xy := evenQ_mono a r b r 1000000 (by decide) (Int.mul_le_mul_of_nonneg_right (show a ≤ b by omega) (show 0 ≤ r by omega))
  have xz := evenQ_mono a r a m 1000000 (by decide) (Int.mul_le_mul_of_nonneg_left (show r ≤ m by omega) (show 0 ≤ a by omega))
  have T1 := fun w => O.tax a r w a0 a1 r0 r1
  have T2 := fun w => O.tax b r w b0 b1 r0 r1
  have T3 := fun w => O.tax a m w a0 a1 m0 m1
  have T4 := fun w => O.tax (-a) r w (by omega) (by omega) r0 r1
  rw [t1] at T1; rw [t2] at T2; rw [t3] at T3; rw [t4] at T4
  have T1 := Lib.hid T1; have T2 := Lib.hid T2; have T3 := Lib.hid T3; have T4 := Lib.hid T4
  clear t1 t2 t3 t4
  generalize evenQ a r 1000000 = x at *
  generalize evenQ b r 1000000 = y at *
  generalize evenQ a m 1000000 = z at *
  go_wp2_with fail
  refine (T1.out _).mono ?_; rintro e w' ⟨rfl, J1, d1, rfl⟩
  go_wp2_with fail
  refine (T2.out _).mono ?_; rintro e w' ⟨rfl, J2, d2, rfl⟩
  go_wp2_with fail
  refine (T3.out _).mono ?_; rintro e w' ⟨rfl, J3, d3, rfl⟩
  go_wp2_with fail
  refine (T4.out _).mono ?_; rintro e w' ⟨rfl, J4, d4, rfl⟩
  go_wp2
  go_ret
  exact ⟨by simp, junk_of_below (by (repeat' (first | (with_reducible exact Below.refl _ _) | (with_reducible assumption) | (with_reducible refine Below.alloc ?_ ?_ _) | (with_reducible refine Below.drew ?_) | (with_reducible refine below_drewN ?_ _) | (with_reducible refine below_plus ?_ ?_ _ _) | (with_reducible refine Below.setCell ?_ ?_ _) | (with_reducible refine Below.setRow ?_ ?_ _) | go_size)))⟩
end Go.Proofs.YtgnmoneiiogoaaaDoor

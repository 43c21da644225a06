/- Contracts of apportionref01's Sign and Add. Conditions: the arguments are ints. -/
import Derived.Test.YtfkhefiilmdhmaaNumH
namespace Go.Proofs.Ytfkhefiilmdhmaa
set_option linter.unusedVariables false
set_option linter.unusedSimpArgs false
open Go.RowKit

set_option maxRecDepth 100000 in
set_option maxHeartbeats 1000000 in
theorem r_Sign (a b c d : Int) (a0 : -9223372036854775808 ≤ a) (a1 : a ≤ 9223372036854775807) (b0 : -9223372036854775808 ≤ b) (b1 : b ≤ 9223372036854775807)
    (c0 : -9223372036854775808 ≤ c) (c1 : c ≤ 9223372036854775807) (d0 : -9223372036854775808 ≤ d) (d1 : d ≤ 9223372036854775807) (w : World) :
    Calls Try.prog 77 #[.int .i64 a, .int .i64 b, .int .i64 c, .int .i64 d] w fun e w' => e = .returned (.int .i64 (sgn (a * b - c * d))) ∧ Junk w w' := by
  have hab := prod_abs a b (i64_abs a a0 a1) (i64_abs b b0 b1)
  have hcd := prod_abs c d (i64_abs c c0 c1) (i64_abs d d0 d1)
  have M1 := Lib.hid (r_Mul a b (by omega) (by omega))
  have M2 := Lib.hid (r_Mul c d (by omega) (by omega))
  have L1 := Lib.hid (r_Less (c * d) (fits_of _ (by omega)))
  have P1 := Lib.hid (r_Plus (a * b) (-(c * d)) (fits_of _ (by omega)) (fits_of _ (by omega)) (fits_of _ (by omega)))
  have S1 := Lib.hid (r_Sgn (a * b + -(c * d)) (fits_of _ (by omega)))
  have E1 := Lib.hid (show a * b + -(c * d) = a * b - c * d by omega)
  have O1 := Lib.hid (r_Of a a0 a1); have O2 := Lib.hid (r_Of b b0 b1); have O3 := Lib.hid (r_Of c c0 c1); have O4 := Lib.hid (r_Of d d0 d1)
  clear hab hcd
  generalize num a = na at *; generalize num b = nb at *; generalize num c = nc at *; generalize num d = nd at *
  generalize num (a * b) = nab at *; generalize num (c * d) = ncd at *; generalize num (-(c * d)) = nl at *; generalize num (a * b + -(c * d)) = ns at *
  go_enter Try.func77, Try.ntmps77
  go_wp2_with fail
  refine (O1.out _).mono ?_
  rintro e w' ⟨rfl, J1, d1, rfl⟩
  go_wp2_with fail
  refine (O2.out _).mono ?_
  rintro e w' ⟨rfl, J2, d2, rfl⟩
  go_wp2_with fail
  refine (M1.out _).mono ?_
  rintro e w' ⟨rfl, J3, d3, rfl⟩
  go_wp2_with fail
  refine (O3.out _).mono ?_
  rintro e w' ⟨rfl, J4, d4, rfl⟩
  go_wp2_with fail
  refine (O4.out _).mono ?_
  rintro e w' ⟨rfl, J5, d5, rfl⟩
  go_wp2_with fail
  refine (M2.out _).mono ?_
  rintro e w' ⟨rfl, J6, d6, rfl⟩
  go_wp2_with fail
  refine (L1.out _).mono ?_
  rintro e w' ⟨rfl, J7, d7, rfl⟩
  go_wp2_with fail
  refine (P1.out _).mono ?_
  rintro e w' ⟨rfl, J8, d8, rfl⟩
  go_wp2_with fail
  refine (S1.out _).mono ?_
  rintro e w' ⟨rfl, J9, d9, rfl⟩
  go_wp2
  go_ret
  exact ⟨ret1 (by rw [E1.out]), junk_of_below (by (repeat' (first | (with_reducible exact Below.refl _ _) | (with_reducible assumption) | (with_reducible refine Below.alloc ?_ ?_ _) | (with_reducible refine Below.drew ?_) | (with_reducible refine below_drewN ?_ _) | (with_reducible refine below_plus ?_ ?_ _ _) | (with_reducible refine Below.setCell ?_ ?_ _) | (with_reducible refine Below.setRow ?_ ?_ _) | go_size)))⟩

end Go.Proofs.Ytfkhefiilmdhmaa

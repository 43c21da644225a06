/- The law WideProducts: its text returns true of any four ints. Conditions: the arguments are ints. -/
import Derived.Test.YtmhpmljkmckafaaLawA
import Derived.Test.YtmhpmljkmckafaaMulR
import Derived.OpenShut
namespace Go.Proofs.Ytmhpmljkmckafaa
set_option linter.unusedVariables false
set_option linter.unusedSimpArgs false
open Go.RowKit

set_option maxHeartbeats 1000000 in
theorem l_products_core (a b c d h l s t : Int) (w : World)
    (S1 : Hid (∀ w, Calls Try.prog 10 #[.int .i64 a, .int .i64 b] w fun f w' => f = .returned (.tuple #[.int .u64 h, .int .u64 l, .int .i64 s]) ∧ w = w'))
    (S2 : Hid (∀ w, Calls Try.prog 11 #[.int .i64 a, .int .i64 b] w fun f w' => f = .returned (.tuple #[.int .u64 h, .int .u64 l, .int .i64 s]) ∧ Junk w w'))
    (S3 : Hid (∀ w, Calls Try.prog 12 #[.int .i64 a, .int .i64 b, .int .i64 c, .int .i64 d] w fun f w' => f = .returned (.int .i64 t) ∧ Junk w w'))
    (S4 : Hid (∀ w, Calls Try.prog 13 #[.int .i64 a, .int .i64 b, .int .i64 c, .int .i64 d] w fun f w' => f = .returned (.int .i64 t) ∧ Junk w w')) :
    Calls Try.prog 3 #[.int .i64 a, .int .i64 b, .int .i64 c, .int .i64 d] w fun e w' => e = .returned (.bool true) ∧ Junk w w' := by
  go_enter Try.func3, Try.ntmps3
  go_wp2_with fail
  refine (S1.out _).mono ?_; rintro e w' ⟨rfl, rfl⟩
  go_wp2_with fail
  refine (S2.out _).mono ?_; rintro e w' ⟨rfl, J1, d1, rfl⟩
  go_wp2_with fail
  refine (S3.out _).mono ?_; rintro e w' ⟨rfl, J2, d2, rfl⟩
  go_wp2_with fail
  refine (S4.out _).mono ?_; rintro e w' ⟨rfl, J3, d3, rfl⟩
  go_wp2_with fail
  refine (l_awake _).mono ?_; rintro e w' ⟨rfl, J4, d4, rfl⟩
  go_wp2
  go_ret
  exact ⟨by simp, junk_of_below (by (repeat' (first | (with_reducible exact Below.refl _ _) | (with_reducible assumption) | (with_reducible refine Below.alloc ?_ ?_ _) | (with_reducible refine Below.drew ?_) | (with_reducible refine below_drewN ?_ _) | (with_reducible refine below_plus ?_ ?_ _ _) | (with_reducible refine Below.setCell ?_ ?_ _) | (with_reducible refine Below.setRow ?_ ?_ _) | go_size)))⟩

theorem l_products (a b c d : Int) (w0 : (Lit.int .i64 a).wf = true) (w1 : (Lit.int .i64 b).wf = true) (w2 : (Lit.int .i64 c).wf = true) (w3 : (Lit.int .i64 d).wf = true) (w : World) :
    Calls Try.prog 3 #[.int .i64 a, .int .i64 b, .int .i64 c, .int .i64 d] w fun e w' => e = .returned (.bool true) ∧ Junk w w' := by
  obtain ⟨a0, a1⟩ := bounds_i64 w0
  obtain ⟨b0, b1⟩ := bounds_i64 w1
  obtain ⟨c0, c1⟩ := bounds_i64 w2
  obtain ⟨d0, d1⟩ := bounds_i64 w3
  exact l_products_core a b c d _ _ _ _ w
    (Lib.hid (w_Mul a b a0 a1 b0 b1))
    (Lib.hid (r_MulW a b a0 a1 b0 b1))
    (Lib.hid fun w => (w_Sign a b c d a0 a1 b0 b1 c0 c1 d0 d1 w).mono fun e w' h => ⟨h.1, junk_of_below h.2⟩)
    (Lib.hid (r_Sign a b c d a0 a1 b0 b1 c0 c1 d0 d1))
end Go.Proofs.Ytmhpmljkmckafaa

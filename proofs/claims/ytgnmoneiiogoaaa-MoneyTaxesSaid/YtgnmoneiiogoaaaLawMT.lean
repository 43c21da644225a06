/- The laws MoneyTaxes and MoneyCumulates, given what money's functions answer. -/
import Derived.Test.YtgnmoneiiogoaaaMonT
import Derived.Test.YtgnmoneiiogoaaaMonP
import Derived.Test.YtgnmoneiiogoaaaNear
import Derived.OpenShut
namespace Go.Proofs.Ytgnmoneiiogoaaa
set_option linter.unusedVariables false
set_option linter.unusedSimpArgs false
open Go.RowKit

set_option maxHeartbeats 1000000 in
theorem l_moneyTaxes (O : MonOk) (A : AwakeOk) (a r p v : Int) (w0 : (Lit.int .i64 a).wf = true) (w1 : (Lit.int .i64 r).wf = true) (w2 : (Lit.int .i64 p).wf = true) (w3 : (Lit.int .i64 v).wf = true) (w : World) :
    Calls Try.prog 3 #[.int .i64 a, .int .i64 r, .int .i64 p, .int .i64 v] w fun e w' => e = .returned (.bool true) ∧ Junk w w' := by
  obtain ⟨a0, a1⟩ := bounds_i64 w0
  obtain ⟨r0, r1⟩ := bounds_i64 w1
  obtain ⟨p0, p1⟩ := bounds_i64 w2
  obtain ⟨v0, v1⟩ := bounds_i64 w3
  have C1 := Lib.hid (fun w => O.check a w a0 a1)
  have C2 := Lib.hid (m_Check a)
  have R1 := Lib.hid (fun w => O.rate r w r0 r1)
  have R2 := Lib.hid (m_CheckRate r)
  have T1 := Lib.hid (fun w => O.tax a r w a0 a1 r0 r1)
  have T2 := Lib.hid (m_Tax a r)
  have S1 := Lib.hid (fun w => O.share a p v w a0 a1 p0 p1 v0 v1)
  have S2 := Lib.hid (m_Share a p v)
  clear w0 w1 w2 w3 a0 a1 r0 r1 p0 p1 v0 v1
  generalize amtErr a = ea at *
  generalize rateErr r = er at *
  generalize taxRes a r = t at *
  generalize shareRes a p v = s at *
  obtain ⟨x, e⟩ := t
  obtain ⟨z, g⟩ := s
  go_enter Try.func3, Try.ntmps3
  go_wp2_with fail
  refine (C1.out _).mono ?_; rintro e' w' ⟨rfl, J0, d0, rfl⟩
  go_wp2_with fail
  refine (C2.out _).mono ?_; rintro e' w' ⟨rfl, rfl⟩
  go_wp2_with fail
  refine (R1.out _).mono ?_; rintro e' w' ⟨rfl, J1, d1, rfl⟩
  go_wp2_with fail
  refine (R2.out _).mono ?_; rintro e' w' ⟨rfl, rfl⟩
  go_wp2_with fail
  refine (T1.out _).mono ?_; rintro e' w' ⟨rfl, J2, d2, rfl⟩
  go_wp2_with fail
  refine (T2.out _).mono ?_; rintro e' w' ⟨rfl, J3, d3, rfl⟩
  go_wp2_with fail
  refine (S1.out _).mono ?_; rintro e' w' ⟨rfl, J4, d4, rfl⟩
  go_wp2_with fail
  refine (S2.out _).mono ?_; rintro e' w' ⟨rfl, J5, d5, rfl⟩
  go_wp2_with fail
  refine (A _).mono ?_; rintro e' w' ⟨rfl, J6, d6, rfl⟩
  go_wp2
  go_ret
  exact ⟨by simp, junk_of_below (by (repeat' (first | (with_reducible exact Below.refl _ _) | (with_reducible assumption) | (with_reducible refine Below.alloc ?_ ?_ _) | (with_reducible refine Below.drew ?_) | (with_reducible refine below_drewN ?_ _) | (with_reducible refine below_plus ?_ ?_ _ _) | (with_reducible refine Below.setCell ?_ ?_ _) | (with_reducible refine Below.setRow ?_ ?_ _) | go_size)))⟩
end Go.Proofs.Ytgnmoneiiogoaaa

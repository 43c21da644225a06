/- The laws' awake; the law WordsBack. -/
import Derived.Test.YtngjkmjejijfiaaDoorWdN
namespace Go.Proofs.YtngjkmjejijfiaaDoor
set_option linter.unusedVariables false
set_option linter.unusedSimpArgs false
open Go.RowKit

theorem shortAt {kd : Int} {x y : Tx} {b : Bool} (h : tellS (wdT kd) x = (y, b)) (hx : x.length ≤ 1001) (W : World) (ht : LdW W) :
    Calls Tryd.prog 8 #[.int .i64 kd, .string ⟨x.toArray⟩] W fun e w' => e = .returned (.tuple #[.string ⟨y.toArray⟩, .bool b]) ∧ Junk W w' :=
  (n_wdShort kd x W ht hx).mono fun e w' (hr : SBRes _ W e w') => by rw [h] at hr; exact hr
theorem longAt {kd : Int} {x y : Tx} {b : Bool} (h : tellL (wdT kd) x = (y, b)) (hx : x.length ≤ 1001) (W : World) (ht : LdW W) :
    Calls Tryd.prog 10 #[.int .i64 kd, .string ⟨x.toArray⟩] W fun e w' => e = .returned (.tuple #[.string ⟨y.toArray⟩, .bool b]) ∧ Junk W w' :=
  (n_wdLong kd x W ht hx).mono fun e w' (hr : SBRes _ W e w') => by rw [h] at hr; exact hr
theorem tell_street : tellS (wdT 1) [83, 84, 82, 69, 69, 84] = ([83, 84], true) := by decide +kernel
theorem tell_ny : tellL (wdT 3) [78, 89] = ([78, 69, 87, 32, 89, 79, 82, 75], true) := by decide +kernel
set_option maxRecDepth 100000 in
theorem l_wdAwake (w : World) (ht : LdW w) : Calls Tryd.prog 16 #[] w fun e w' => e = .returned (.bool true) ∧ Junk w w' := by
  have HS := Lib.hid (shortAt tell_street (by decide))
  have HL := Lib.hid (longAt tell_ny (by decide))
  have HT := Lib.hid ht
  clear ht
  go_enter Tryd.func16, Tryd.ntmps16
  go_wp2_with fail
  refine (HS.out _ (HT.out.below (by (repeat' first | with_reducible (first | apply Below.refl | assumption | apply bw_a | apply bw_d | apply bw_n | apply bw_p | apply bw_c | apply bw_r) | go_size)))).mono ?_; rintro e w' ⟨rfl, J, d, rfl⟩
  go_wp2_with fail
  refine (HL.out _ (HT.out.below (by (repeat' first | with_reducible (first | apply Below.refl | assumption | apply bw_a | apply bw_d | apply bw_n | apply bw_p | apply bw_c | apply bw_r) | go_size)))).mono ?_; rintro e w' ⟨rfl, J2, d2, rfl⟩
  go_wp2
  go_ret
  exact ⟨rfl, junk_of_below (by (repeat' first | with_reducible (first | apply Below.refl | assumption | apply bw_a | apply bw_d | apply bw_n | apply bw_p | apply bw_c | apply bw_r) | go_size))⟩
theorem tell_some {T : List Wd} {x : Tx} {p : Wd} (h : shortW T x = some p) : tellS T x = (p.2, true) := by unfold tellS; rw [h]
theorem tell_none {T : List Wd} {x : Tx} (h : shortW T x = none) : tellS T x = ([], false) := by unfold tellS; rw [h]
theorem told_some {T : List Wd} {x : Tx} {p : Wd} (h : longW T x = some p) : tellL T x = (p.1, true) := by unfold tellL; rw [h]
theorem told_none' {T : List Wd} {x : Tx} (h : longW T x = none) : tellL T x = ([], false) := by unfold tellL; rw [h]
set_option maxRecDepth 100000 in
set_option maxHeartbeats 1000000 in
theorem l_wordsBack (kd : Int) (x : Tx) (w : World) (ht : LdW w) : Calls Tryd.prog 4 #[.int .i64 kd, .string ⟨x.toArray⟩] w fun e w' => e = .returned (.bool true) ∧ Junk w w' := by
  have HA := Lib.hid l_wdAwake
  have HT := Lib.hid ht
  clear ht
  by_cases hl : 1000 < x.length
  · have hl2 : (1000 : Int) < (x.length : Int) := by omega
    go_enter Tryd.func4, Tryd.ntmps4
    go_wp2_with fail
    refine (HA.out _ (HT.out.below (by (repeat' first | with_reducible (first | apply Below.refl | assumption | apply bw_a | apply bw_d | apply bw_n | apply bw_p | apply bw_c | apply bw_r) | go_size)))).mono ?_; rintro e w' ⟨rfl, J, d, rfl⟩
    go_wp2
    go_ret
    exact ⟨rfl, junk_of_below (by (repeat' first | with_reducible (first | apply Below.refl | assumption | apply bw_a | apply bw_d | apply bw_n | apply bw_p | apply bw_c | apply bw_r) | go_size))⟩
  cases hs : shortW (wdT kd) x with
  | none =>
    have HS := Lib.hid (shortAt (tell_none hs) (by omega))
    have HL := Lib.hid (longAt (told_none' (none_long hs)) (by omega))
    clear hs
    go_enter Tryd.func4, Tryd.ntmps4
    go_wp2_with fail
    refine (HA.out _ (HT.out.below (by (repeat' first | with_reducible (first | apply Below.refl | assumption | apply bw_a | apply bw_d | apply bw_n | apply bw_p | apply bw_c | apply bw_r) | go_size)))).mono ?_; rintro e w' ⟨rfl, J, d, rfl⟩
    go_wp2_with fail
    refine (HS.out _ (HT.out.below (by (repeat' first | with_reducible (first | apply Below.refl | assumption | apply bw_a | apply bw_d | apply bw_n | apply bw_p | apply bw_c | apply bw_r) | go_size)))).mono ?_; rintro e w' ⟨rfl, J1, d1, rfl⟩
    go_wp2_with fail
    refine (HL.out _ (HT.out.below (by (repeat' first | with_reducible (first | apply Below.refl | assumption | apply bw_a | apply bw_d | apply bw_n | apply bw_p | apply bw_c | apply bw_r) | go_size)))).mono ?_; rintro e w' ⟨rfl, J2, d2, rfl⟩
    go_wp2
    go_ret
    exact ⟨rfl, junk_of_below (by (repeat' first | with_reducible (first | apply Below.refl | assumption | apply bw_a | apply bw_d | apply bw_n | apply bw_p | apply bw_c | apply bw_r) | go_size))⟩
  | some p =>
    obtain ⟨b1, b2, b3, hxp, hle⟩ := back_w hs
    obtain ⟨s1, s2⟩ := wd_short kd p (short_mem hs).1
    have HS := Lib.hid (shortAt (tell_some hs) (by omega))
    have HL := Lib.hid (longAt (told_some b1) (by omega))
    have HS1 := Lib.hid (shortAt (tell_some b2) (by omega))
    have HS2 := Lib.hid (shortAt (tell_some b3) (by omega))
    clear hs b1 b2 b3 s1 s2
    obtain ⟨l, q⟩ := p
    simp only at hle hxp HS HL HS1 HS2
    have HX := Lib.hid hxp
    clear hxp
    by_cases e1 : x = q
    · have ex1 : (x == q) = true := beq_iff_eq.2 e1
      clear e1
      go_enter Tryd.func4, Tryd.ntmps4
      go_wp2_with fail
      refine (HA.out _ (HT.out.below (by (repeat' first | with_reducible (first | apply Below.refl | assumption | apply bw_a | apply bw_d | apply bw_n | apply bw_p | apply bw_c | apply bw_r) | go_size)))).mono ?_; rintro e w' ⟨rfl, J, d, rfl⟩
      go_wp2_with fail
      refine (HS.out _ (HT.out.below (by (repeat' first | with_reducible (first | apply Below.refl | assumption | apply bw_a | apply bw_d | apply bw_n | apply bw_p | apply bw_c | apply bw_r) | go_size)))).mono ?_; rintro e w' ⟨rfl, J1, d1, rfl⟩
      go_wp2_with fail
      refine (HL.out _ (HT.out.below (by (repeat' first | with_reducible (first | apply Below.refl | assumption | apply bw_a | apply bw_d | apply bw_n | apply bw_p | apply bw_c | apply bw_r) | go_size)))).mono ?_; rintro e w' ⟨rfl, J2, d2, rfl⟩
      go_wp2_with fail
      refine (HS1.out _ (HT.out.below (by (repeat' first | with_reducible (first | apply Below.refl | assumption | apply bw_a | apply bw_d | apply bw_n | apply bw_p | apply bw_c | apply bw_r) | go_size)))).mono ?_; rintro e w' ⟨rfl, J3, d3, rfl⟩
      go_wp2_with fail
      refine (HS2.out _ (HT.out.below (by (repeat' first | with_reducible (first | apply Below.refl | assumption | apply bw_a | apply bw_d | apply bw_n | apply bw_p | apply bw_c | apply bw_r) | go_size)))).mono ?_; rintro e w' ⟨rfl, J4, d4, rfl⟩
      go_wp2
      go_ret
      exact ⟨rfl, junk_of_below (by (repeat' first | with_reducible (first | apply Below.refl | assumption | apply bw_a | apply bw_d | apply bw_n | apply bw_p | apply bw_c | apply bw_r) | go_size))⟩
    · have ex1 : (x == q) = false := beq_eq_false_iff_ne.2 e1
      have ex2 : (x == l) = true := beq_iff_eq.2 (HX.out.resolve_left e1)
      clear e1
      go_enter Tryd.func4, Tryd.ntmps4
      go_wp2_with fail
      refine (HA.out _ (HT.out.below (by (repeat' first | with_reducible (first | apply Below.refl | assumption | apply bw_a | apply bw_d | apply bw_n | apply bw_p | apply bw_c | apply bw_r) | go_size)))).mono ?_; rintro e w' ⟨rfl, J, d, rfl⟩
      go_wp2_with fail
      refine (HS.out _ (HT.out.below (by (repeat' first | with_reducible (first | apply Below.refl | assumption | apply bw_a | apply bw_d | apply bw_n | apply bw_p | apply bw_c | apply bw_r) | go_size)))).mono ?_; rintro e w' ⟨rfl, J1, d1, rfl⟩
      go_wp2_with fail
      refine (HL.out _ (HT.out.below (by (repeat' first | with_reducible (first | apply Below.refl | assumption | apply bw_a | apply bw_d | apply bw_n | apply bw_p | apply bw_c | apply bw_r) | go_size)))).mono ?_; rintro e w' ⟨rfl, J2, d2, rfl⟩
      go_wp2_with fail
      refine (HS1.out _ (HT.out.below (by (repeat' first | with_reducible (first | apply Below.refl | assumption | apply bw_a | apply bw_d | apply bw_n | apply bw_p | apply bw_c | apply bw_r) | go_size)))).mono ?_; rintro e w' ⟨rfl, J3, d3, rfl⟩
      go_wp2_with fail
      refine (HS2.out _ (HT.out.below (by (repeat' first | with_reducible (first | apply Below.refl | assumption | apply bw_a | apply bw_d | apply bw_n | apply bw_p | apply bw_c | apply bw_r) | go_size)))).mono ?_; rintro e w' ⟨rfl, J4, d4, rfl⟩
      go_wp2
      go_ret
      exact ⟨rfl, junk_of_below (by (repeat' first | with_reducible (first | apply Below.refl | assumption | apply bw_a | apply bw_d | apply bw_n | apply bw_p | apply bw_c | apply bw_r) | go_size))⟩
end Go.Proofs.YtngjkmjejijfiaaDoor

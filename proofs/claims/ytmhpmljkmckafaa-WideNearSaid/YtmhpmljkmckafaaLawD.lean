/- The law WideNear: its text returns true of any three ints. Conditions: the arguments are ints. -/
import Derived.Test.YtmhpmljkmckafaaLawA
import Derived.Deep.DeepCutAuto
import Derived.OpenShut
namespace Go.Proofs.Ytmhpmljkmckafaa
set_option linter.unusedVariables false
set_option linter.unusedSimpArgs false
open Go.RowKit

/-- What the walk asks of Floor's answer (f, e). -/
def NearF (a b c s f e : Int) : Prop :=
  (e = 0 ∧ f < 9223372036854775807 ∧ ∃ sg1 sg2 : Int, (∀ w, Calls Try.prog 12 #[.int .i64 a, .int .i64 b, .int .i64 f, .int .i64 c] w fun x w' => x = .returned (.int .i64 sg1) ∧ Junk w w') ∧
    (∀ w, Calls Try.prog 12 #[.int .i64 a, .int .i64 b, .int .i64 (f + 1), .int .i64 c] w fun x w' => x = .returned (.int .i64 sg2) ∧ Junk w w') ∧
    ((s = 1 ∧ 0 ≤ sg1 ∧ sg1 ≤ 1 ∧ sg2 = -1) ∨ (s = -1 ∧ -1 ≤ sg1 ∧ sg1 ≤ 0 ∧ sg2 = 1))) ∨
  (e = 0 ∧ f = 9223372036854775807 ∧ ∃ sg1 : Int, (∀ w, Calls Try.prog 12 #[.int .i64 a, .int .i64 b, .int .i64 f, .int .i64 c] w fun x w' => x = .returned (.int .i64 sg1) ∧ Junk w w') ∧
    ((s = 1 ∧ 0 ≤ sg1 ∧ sg1 ≤ 1) ∨ (s = -1 ∧ -1 ≤ sg1 ∧ sg1 ≤ 0))) ∨
  e = 5

/-- What the walk asks of Even's answer (q, 0). -/
def NearQ (q f e : Int) : Prop := (e = 5) ∨ (e = 0 ∧ q = f) ∨ (e = 0 ∧ q = f + 1 ∧ f < 9223372036854775807)

def NearBig (a b size : Int) : Prop := 1099511627776 < a ∨ a < -1099511627776 ∨ 1048576 < b ∨ b < -1048576 ∨ 1099511627776 < size
instance (a b size : Int) : Decidable (NearBig a b size) := by unfold NearBig; infer_instance

def NearT (a b c q size : Int) : Prop := NearBig a b size ∨
  (-2305843009213693952 ≤ a * b ∧ a * b ≤ 2305843009213693952 ∧ -2305843009213693952 ≤ q * c ∧ q * c ≤ 2305843009213693952 ∧
    ((2 * (a * b - q * c) = size ∧ q.tmod 2 = 0) ∨ (2 * (a * b - q * c) = -size ∧ q.tmod 2 = 0) ∨ (-size < 2 * (a * b - q * c) ∧ 2 * (a * b - q * c) < size)))

set_option maxRecDepth 100000 in
set_option maxHeartbeats 4000000 in
theorem l_near_core (a b c s size f e q g : Int) (w : World)
    (c0 : (c == 0) = false) (c1 : (c == -9223372036854775808) = false) (cl : -9223372036854775807 ≤ c) (cu : c ≤ 9223372036854775807)
    (f0 : -9223372036854775808 ≤ f) (f1 : f ≤ 9223372036854775807)
    (hs : (0 < c ∧ s = 1 ∧ size = c) ∨ (c < 0 ∧ s = -1 ∧ size = -c))
    (F : Hid (∀ w, Calls Try.prog 17 #[.int .i64 a, .int .i64 b, .int .i64 c] w fun x w' => x = .returned (.tuple #[.int .i64 f, .int .i64 e]) ∧ Junk w w'))
    (E : Hid (∀ w, Calls Try.prog 15 #[.int .i64 a, .int .i64 b, .int .i64 c] w fun x w' => x = .returned (.tuple #[.int .i64 q, .int .i64 g]) ∧ Junk w w'))
    (hF : Hid (NearF a b c s f e)) (hG : Hid (g = 5 ∨ (g = 0 ∧ NearQ q f e ∧ NearT a b c q size))) :
    Calls Try.prog 8 #[.int .i64 a, .int .i64 b, .int .i64 c] w fun e w' => e = .returned (.bool true) ∧ Junk w w' := by
  go_enter Try.func8, Try.ntmps8
  go_wp2_with fail
  refine (l_awake _).mono ?_; rintro x w' ⟨rfl, Ja, da, rfl⟩
  go_upto_region 4 with fail
  go_cut [8] from 15 (fun x wx => x = .int .i64 size ∧ wx = w.plus Ja da)
  case first =>
    rcases hs with ⟨h1, h2, h3⟩ | ⟨h1, h2, h3⟩
    · go_wp2
      go_meet
      case rel => exact ⟨by rw [show max c (-c) = size by omega], rfl⟩
    · go_wp2
      go_meet
      case rel => exact ⟨by rw [show max c (-c) = size by omega], rfl⟩
  case rest =>
    obtain ⟨rfl, rfl⟩ := hcut
    go_upto_if 28 with fail
    go_cut [9] from 15 (fun x wx => x = .int .i64 s ∧ wx = w.plus Ja da)
    case first =>
      rcases hs with ⟨h1, rfl, h3⟩ | ⟨h1, rfl, h3⟩
      · go_wp2
        go_meet
        case rel => exact ⟨rfl, rfl⟩
      · go_wp2
        go_meet
        case rel => exact ⟨rfl, rfl⟩
    case rest =>
      obtain ⟨rfl, rfl⟩ := hcut
      go_wp2_with fail
      refine (F.out _).mono ?_; rintro x w' ⟨rfl, Jf, df, rfl⟩
      go_upto_if 37 with fail
      go_cut [] from 38 (fun wx => Junk w wx)
      case first =>
        rcases hF.out with ⟨rfl, h1, sg1, sg2, S1, S2, hh⟩ | ⟨rfl, rfl, sg1, S1, hh⟩ | rfl
        · have S1 := Lib.hid S1; have S2 := Lib.hid S2
          go_wp2_with fail
          refine (S1.out _).mono ?_; rintro x w' ⟨rfl, J1, d1, rfl⟩
          rcases hh with ⟨rfl, h2, h3, rfl⟩ | ⟨rfl, h2, h3, rfl⟩
          · go_wp2_with fail
            refine (S2.out _).mono ?_; rintro x w' ⟨rfl, J2, d2, rfl⟩
            go_wp2_with fail
            go_meet
            case rel => exact junk_of_below (by (repeat' (first | (with_reducible exact Below.refl _ _) | (with_reducible assumption) | (with_reducible refine Below.alloc ?_ ?_ _) | (with_reducible refine Below.drew ?_) | (with_reducible refine below_drewN ?_ _) | (with_reducible refine below_plus ?_ ?_ _ _) | (with_reducible refine Below.setCell ?_ ?_ _) | (with_reducible refine Below.setRow ?_ ?_ _) | go_size)))
          · go_wp2_with fail
            refine (S2.out _).mono ?_; rintro x w' ⟨rfl, J2, d2, rfl⟩
            go_wp2_with fail
            go_meet
            case rel => exact junk_of_below (by (repeat' (first | (with_reducible exact Below.refl _ _) | (with_reducible assumption) | (with_reducible refine Below.alloc ?_ ?_ _) | (with_reducible refine Below.drew ?_) | (with_reducible refine below_drewN ?_ _) | (with_reducible refine below_plus ?_ ?_ _ _) | (with_reducible refine Below.setCell ?_ ?_ _) | (with_reducible refine Below.setRow ?_ ?_ _) | go_size)))
        · have S1 := Lib.hid S1
          go_wp2_with fail
          refine (S1.out _).mono ?_; rintro x w' ⟨rfl, J1, d1, rfl⟩
          rcases hh with ⟨rfl, h2, h3⟩ | ⟨rfl, h2, h3⟩
          · go_wp2_with fail
            go_meet
            case rel => exact junk_of_below (by (repeat' (first | (with_reducible exact Below.refl _ _) | (with_reducible assumption) | (with_reducible refine Below.alloc ?_ ?_ _) | (with_reducible refine Below.drew ?_) | (with_reducible refine below_drewN ?_ _) | (with_reducible refine below_plus ?_ ?_ _ _) | (with_reducible refine Below.setCell ?_ ?_ _) | (with_reducible refine Below.setRow ?_ ?_ _) | go_size)))
          · go_wp2_with fail
            go_meet
            case rel => exact junk_of_below (by (repeat' (first | (with_reducible exact Below.refl _ _) | (with_reducible assumption) | (with_reducible refine Below.alloc ?_ ?_ _) | (with_reducible refine Below.drew ?_) | (with_reducible refine below_drewN ?_ _) | (with_reducible refine below_plus ?_ ?_ _ _) | (with_reducible refine Below.setCell ?_ ?_ _) | (with_reducible refine Below.setRow ?_ ?_ _) | go_size)))
        · go_wp2_with fail
          go_meet
          case rel => exact junk_of_below (by (repeat' (first | (with_reducible exact Below.refl _ _) | (with_reducible assumption) | (with_reducible refine Below.alloc ?_ ?_ _) | (with_reducible refine Below.drew ?_) | (with_reducible refine below_drewN ?_ _) | (with_reducible refine below_plus ?_ ?_ _ _) | (with_reducible refine Below.setCell ?_ ?_ _) | (with_reducible refine Below.setRow ?_ ?_ _) | go_size)))
      case rest =>
        obtain ⟨J3, d3, rfl⟩ := hcut
        clear hF F
        have hsz : 0 < size ∧ size ≤ 9223372036854775807 := by omega
        obtain ⟨z0, z1⟩ := hsz
        clear hs
        go_wp2_with fail
        refine (E.out _).mono ?_; rintro x w' ⟨rfl, Je, de, rfl⟩
        rcases hG.out with rfl | ⟨rfl, hQ, hT⟩
        · go_wp2
          go_ret
          exact ⟨by simp, junk_of_below (by (repeat' (first | (with_reducible exact Below.refl _ _) | (with_reducible assumption) | (with_reducible refine Below.alloc ?_ ?_ _) | (with_reducible refine Below.drew ?_) | (with_reducible refine below_drewN ?_ _) | (with_reducible refine below_plus ?_ ?_ _ _) | (with_reducible refine Below.setCell ?_ ?_ _) | (with_reducible refine Below.setRow ?_ ?_ _) | go_size)))⟩
        · have hQ := Lib.hid hQ; have hT := Lib.hid hT
          go_upto_region 15 with fail
          go_cut [87] from 75 (fun x wx => x = .bool false ∧ Junk w wx)
          case first =>
            rcases hQ.out with rfl | ⟨rfl, rfl⟩ | ⟨rfl, rfl, h2⟩
            · go_wp2_with fail
              go_meet
              case rel => exact ⟨rfl, junk_of_below (by (repeat' (first | (with_reducible exact Below.refl _ _) | (with_reducible assumption) | (with_reducible refine Below.alloc ?_ ?_ _) | (with_reducible refine Below.drew ?_) | (with_reducible refine below_drewN ?_ _) | (with_reducible refine below_plus ?_ ?_ _ _) | (with_reducible refine Below.setCell ?_ ?_ _) | (with_reducible refine Below.setRow ?_ ?_ _) | go_size)))⟩
            · go_wp2_with fail
              go_meet
              case rel => exact ⟨rfl, junk_of_below (by (repeat' (first | (with_reducible exact Below.refl _ _) | (with_reducible assumption) | (with_reducible refine Below.alloc ?_ ?_ _) | (with_reducible refine Below.drew ?_) | (with_reducible refine below_drewN ?_ _) | (with_reducible refine below_plus ?_ ?_ _ _) | (with_reducible refine Below.setCell ?_ ?_ _) | (with_reducible refine Below.setRow ?_ ?_ _) | go_size)))⟩
            · have n1 : (f + 1 == f) = false := by rw [beq_eq_false_iff_ne]; omega
              go_wp2_with fail
              go_meet
              case rel => exact ⟨rfl, junk_of_below (by (repeat' (first | (with_reducible exact Below.refl _ _) | (with_reducible assumption) | (with_reducible refine Below.alloc ?_ ?_ _) | (with_reducible refine Below.drew ?_) | (with_reducible refine below_drewN ?_ _) | (with_reducible refine below_plus ?_ ?_ _ _) | (with_reducible refine Below.setCell ?_ ?_ _) | (with_reducible refine Below.setRow ?_ ?_ _) | go_size)))⟩
          case rest =>
            obtain ⟨rfl, J4, d4, rfl⟩ := hcut
            go_upto_region 17 with fail
            go_cut [105] from 88 (fun x wx => x = .bool (decide (NearBig a b size)) ∧ Junk w wx)
            case first =>
              by_cases b1 : 1099511627776 < a
              · go_wp2_with fail
                go_meet
                case rel => exact ⟨by rw [decide_eq_true (show NearBig a b size from .inl b1)], junk_of_below (by (repeat' (first | (with_reducible exact Below.refl _ _) | (with_reducible assumption) | (with_reducible refine Below.alloc ?_ ?_ _) | (with_reducible refine Below.drew ?_) | (with_reducible refine below_drewN ?_ _) | (with_reducible refine below_plus ?_ ?_ _ _) | (with_reducible refine Below.setCell ?_ ?_ _) | (with_reducible refine Below.setRow ?_ ?_ _) | go_size)))⟩
              by_cases b2 : a < -1099511627776
              · go_wp2_with fail
                go_meet
                case rel => exact ⟨by rw [decide_eq_true (show NearBig a b size from .inr (.inl b2))], junk_of_below (by (repeat' (first | (with_reducible exact Below.refl _ _) | (with_reducible assumption) | (with_reducible refine Below.alloc ?_ ?_ _) | (with_reducible refine Below.drew ?_) | (with_reducible refine below_drewN ?_ _) | (with_reducible refine below_plus ?_ ?_ _ _) | (with_reducible refine Below.setCell ?_ ?_ _) | (with_reducible refine Below.setRow ?_ ?_ _) | go_size)))⟩
              by_cases b3 : 1048576 < b
              · go_wp2_with fail
                go_meet
                case rel => exact ⟨by rw [decide_eq_true (show NearBig a b size from .inr (.inr (.inl b3)))], junk_of_below (by (repeat' (first | (with_reducible exact Below.refl _ _) | (with_reducible assumption) | (with_reducible refine Below.alloc ?_ ?_ _) | (with_reducible refine Below.drew ?_) | (with_reducible refine below_drewN ?_ _) | (with_reducible refine below_plus ?_ ?_ _ _) | (with_reducible refine Below.setCell ?_ ?_ _) | (with_reducible refine Below.setRow ?_ ?_ _) | go_size)))⟩
              by_cases b4 : b < -1048576
              · go_wp2_with fail
                go_meet
                case rel => exact ⟨by rw [decide_eq_true (show NearBig a b size from .inr (.inr (.inr (.inl b4))))], junk_of_below (by (repeat' (first | (with_reducible exact Below.refl _ _) | (with_reducible assumption) | (with_reducible refine Below.alloc ?_ ?_ _) | (with_reducible refine Below.drew ?_) | (with_reducible refine below_drewN ?_ _) | (with_reducible refine below_plus ?_ ?_ _ _) | (with_reducible refine Below.setCell ?_ ?_ _) | (with_reducible refine Below.setRow ?_ ?_ _) | go_size)))⟩
              by_cases b5 : 1099511627776 < size
              · go_wp2_with fail
                go_meet
                case rel => exact ⟨by rw [decide_eq_true (show NearBig a b size from .inr (.inr (.inr (.inr b5))))], junk_of_below (by (repeat' (first | (with_reducible exact Below.refl _ _) | (with_reducible assumption) | (with_reducible refine Below.alloc ?_ ?_ _) | (with_reducible refine Below.drew ?_) | (with_reducible refine below_drewN ?_ _) | (with_reducible refine below_plus ?_ ?_ _ _) | (with_reducible refine Below.setCell ?_ ?_ _) | (with_reducible refine Below.setRow ?_ ?_ _) | go_size)))⟩
              · go_wp2_with fail
                go_meet
                case rel => exact ⟨by rw [decide_eq_false (show ¬ NearBig a b size by rintro (h | h | h | h | h) <;> omega)], junk_of_below (by (repeat' (first | (with_reducible exact Below.refl _ _) | (with_reducible assumption) | (with_reducible refine Below.alloc ?_ ?_ _) | (with_reducible refine Below.drew ?_) | (with_reducible refine below_drewN ?_ _) | (with_reducible refine below_plus ?_ ?_ _ _) | (with_reducible refine Below.setCell ?_ ?_ _) | (with_reducible refine Below.setRow ?_ ?_ _) | go_size)))⟩
            case rest =>
              obtain ⟨rfl, J5, d5, rfl⟩ := hcut
              by_cases hb : NearBig a b size
              · rw [decide_eq_true hb]
                have HB := Lib.hid hb; clear hb
                go_wp2
                go_ret
                exact ⟨by simp, junk_of_below (by (repeat' (first | (with_reducible exact Below.refl _ _) | (with_reducible assumption) | (with_reducible refine Below.alloc ?_ ?_ _) | (with_reducible refine Below.drew ?_) | (with_reducible refine below_drewN ?_ _) | (with_reducible refine below_plus ?_ ?_ _ _) | (with_reducible refine Below.setCell ?_ ?_ _) | (with_reducible refine Below.setRow ?_ ?_ _) | go_size)))⟩
              · rw [decide_eq_false hb]
                have ht := hT.out.resolve_left hb
                obtain ⟨p0, p1, r0, r1, ht⟩ := ht
                have HT := Lib.hid ht; clear ht
                rcases HT.out with ⟨t1, t2⟩ | ⟨t1, t2⟩ | ⟨t1, t2⟩
                · go_wp2
                  go_ret
                  exact ⟨by simp, junk_of_below (by (repeat' (first | (with_reducible exact Below.refl _ _) | (with_reducible assumption) | (with_reducible refine Below.alloc ?_ ?_ _) | (with_reducible refine Below.drew ?_) | (with_reducible refine below_drewN ?_ _) | (with_reducible refine below_plus ?_ ?_ _ _) | (with_reducible refine Below.setCell ?_ ?_ _) | (with_reducible refine Below.setRow ?_ ?_ _) | go_size)))⟩
                · go_wp2
                  go_ret
                  exact ⟨by simp, junk_of_below (by (repeat' (first | (with_reducible exact Below.refl _ _) | (with_reducible assumption) | (with_reducible refine Below.alloc ?_ ?_ _) | (with_reducible refine Below.drew ?_) | (with_reducible refine below_drewN ?_ _) | (with_reducible refine below_plus ?_ ?_ _ _) | (with_reducible refine Below.setCell ?_ ?_ _) | (with_reducible refine Below.setRow ?_ ?_ _) | go_size)))⟩
                · have t3 : (2 * (a * b - q * c) == size) = false := by rw [beq_eq_false_iff_ne]; omega
                  have t4 : (-(2 * (a * b - q * c)) == size) = false := by rw [beq_eq_false_iff_ne]; omega
                  go_wp2
                  go_ret
                  exact ⟨by simp, junk_of_below (by (repeat' (first | (with_reducible exact Below.refl _ _) | (with_reducible assumption) | (with_reducible refine Below.alloc ?_ ?_ _) | (with_reducible refine Below.drew ?_) | (with_reducible refine below_drewN ?_ _) | (with_reducible refine below_plus ?_ ?_ _ _) | (with_reducible refine Below.setCell ?_ ?_ _) | (with_reducible refine Below.setRow ?_ ?_ _) | go_size)))⟩
end Go.Proofs.Ytmhpmljkmckafaa

/- Contract of math/bits.Div64 for a high part from 1 on, below the divisor: the quotient and the rest of hi * 2^64 + lo by y. The scaled numbers come in by name. -/
import Derived.Test.YtgnmoneiiogoaaaWideA
import Derived.Test.YtgnmoneiiogoaaaDivM
import Derived.Lib.Hide
import Derived.BigQuiet
import Derived.Deep.CutBlock
import Derived.Deep.Cut
namespace Go.Proofs.Ytgnmoneiiogoaaa
set_option linter.unusedVariables false
set_option linter.unusedSimpArgs false
open Go.RowKit

/-- What the loop that corrects a digit keeps. -/
def DInv (U P R n q r : Int) : Prop := q * P + r = U ∧ (U * 4294967296 + n) / (P * 4294967296 + R) ≤ q ∧ q ≤ 4294967297 ∧ 0 ≤ q ∧ 0 ≤ r ∧ r < 4294967296

theorem u64w (a : Int) (h0 : 0 ≤ a) (h1 : a < 18446744073709551616) : IntKind.u64.wrap a = a := by
  rw [IntKind.wrap_u64]; omega
theorem u64w' (a b : Int) (h : ∃ k, a = b + k * 18446744073709551616) (h0 : 0 ≤ b) (h1 : b < 18446744073709551616) : IntKind.u64.wrap a = b := by
  obtain ⟨k, rfl⟩ := h; rw [IntKind.wrap_u64]; omega

theorem dinv_start (U P R n : Int) (p0 : 2147483648 ≤ P) (r0 : 0 ≤ R) (r1 : R ≤ 4294967295) (u0 : 0 ≤ U) (u1 : U < P * 4294967296 + R) (n1 : n < 4294967296) (p1 : P ≤ 4294967295) :
    0 ≤ U / P * P ∧ U / P * P ≤ U ∧ 0 ≤ U / P ∧ U / P ≤ 4294967297 ∧ DInv U P R n (U / P) (U - U / P * P) := by
  obtain ⟨a, b, c, d, e, f⟩ := dm_init P R U n p0 r0 r1 u0 u1 n1
  refine ⟨Int.mul_nonneg b (by omega), by omega, b, c, ?_⟩
  unfold DInv
  refine ⟨by omega, a, c, b, by omega, by omega⟩

theorem dinv_dec1 (U P R n q r : Int) (p0 : 0 < P) (u1 : U < P * 4294967296 + R) (n1 : n < 4294967296) (r0 : 0 ≤ R) (h : 4294967296 ≤ q) (inv : DInv U P R n q r) :
    (q - 1) * P + (r + P) = U ∧ (U * 4294967296 + n) / (P * 4294967296 + R) ≤ q - 1 ∧ q - 1 ≤ 4294967296 := by
  obtain ⟨a, b, c, d, e, f⟩ := inv
  exact ⟨by rw [Int.sub_mul]; omega, dm_dec1 _ U n q (by omega) u1 n1 h, by omega⟩

theorem dinv_dec2 (U P R n q r : Int) (p0 : 0 < P) (r0 : 0 ≤ R) (hq : q < 4294967296) (h : 4294967296 * r + n < q * R) (inv : DInv U P R n q r) :
    (q - 1) * P + (r + P) = U ∧ (U * 4294967296 + n) / (P * 4294967296 + R) ≤ q - 1 ∧ q - 1 ≤ 4294967296 := by
  obtain ⟨a, b, c, d, e, f⟩ := inv
  exact ⟨by rw [Int.sub_mul]; omega, dm_dec2 P R U n q r (by omega) a h, by omega⟩

/-- Going on: the invariant again. -/
theorem dinv_next (U P R n q r : Int) (p0 : 0 < P) (q0 : 1 ≤ q) (inv : DInv U P R n q r) (g : (q - 1) * P + (r + P) = U ∧ (U * 4294967296 + n) / (P * 4294967296 + R) ≤ q - 1 ∧ q - 1 ≤ 4294967296) (h : ¬ 4294967296 ≤ r + P) : DInv U P R n (q - 1) (r + P) := by
  obtain ⟨a, b, c, d, e, f⟩ := inv
  exact ⟨g.1, g.2.1, by omega, by omega, by omega, by omega⟩

/-- Leaving by the break. -/
theorem dinv_break (U P R n q r Q : Int) (p0 : 0 < P) (r0 : 0 ≤ R) (r1 : R ≤ 4294967295) (n0 : 0 ≤ n) (q0 : 1 ≤ q) (g : (q - 1) * P + (r + P) = U ∧ (U * 4294967296 + n) / (P * 4294967296 + R) ≤ q - 1 ∧ q - 1 ≤ 4294967296) (h : 4294967296 ≤ r + P)
    (hQ : (U * 4294967296 + n) / (P * 4294967296 + R) = Q) : q - 1 = Q := by
  have := dm_brk P R U n (q - 1) (r + P) (by omega) g.1 (by omega) g.2.2 r0 r1 n0 h
  omega

theorem dinv_leave (U P R n q r Q : Int) (p0 : 0 < P) (r0 : 0 ≤ R) (inv : DInv U P R n q r) (h : ¬ 4294967296 * r + n < q * R)
    (hQ : (U * 4294967296 + n) / (P * 4294967296 + R) = Q) : q = Q := by
  have := dm_exit P R U n q r (by omega) inv.1 (by omega)
  have := inv.2.1
  omega

def Div64Fin (Y U n1 n0 : Int) (s : Nat) (e : Ending) : Prop :=
  e = .returned (.tuple #[.int .u64 ((U * 18446744073709551616 + n1 * 4294967296 + n0) / Y), .int .u64 ((U * 18446744073709551616 + n1 * 4294967296 + n0) % Y / 2 ^ s)])

set_option maxRecDepth 100000 in
set_option maxHeartbeats 1000000 in
theorem w_Div64_core (hi lo y : Int) (s : Nat) (h0 : 1 ≤ hi) (h1 : hi < y) (l0 : 0 ≤ lo) (l1 : lo < 18446744073709551616) (y1 : y < 18446744073709551616) (w : World)
   (hs : s ≤ 63) (hl : 64 - (Lib.bitLen y.toNat : Int) = s) (Y P R U V n1 n0 Q1 U2 Q0 F : Int)
   (hY : IntKind.u64.wrap (y * 2 ^ s) = Y) (hP : Y / 4294967296 = P) (hR : bits .and .u64 Y 4294967295 = R)
   (hU : bits .or .u64 (IntKind.u64.wrap (hi * 2 ^ s)) (lo / 2 ^ (64 - s)) = U) (hV : IntKind.u64.wrap (lo * 2 ^ s) = V) (hn1 : V / 4294967296 = n1) (hn0 : bits .and .u64 V 4294967295 = n0)
   (yb0 : 9223372036854775808 ≤ Y) (yb1 : Y < 18446744073709551616) (pb0 : 2147483648 ≤ P) (pb1 : P ≤ 4294967295) (rb0 : 0 ≤ R) (rb1 : R ≤ 4294967295) (hYe : Hid (Y = P * 4294967296 + R))
   (ub0 : 0 ≤ U) (ub1 : U < Y) (vb0 : 0 ≤ V) (vb1 : V < 18446744073709551616) (nb0 : 0 ≤ n1) (nb1 : n1 ≤ 4294967295) (mb0 : 0 ≤ n0) (mb1 : n0 ≤ 4294967295)
   (hQ1 : Hid ((U * 4294967296 + n1) / Y = Q1)) (hU2 : IntKind.u64.wrap (IntKind.u64.wrap (IntKind.u64.wrap (U * 4294967296) + n1) - IntKind.u64.wrap (Q1 * Y)) = U2) (u2b0 : 0 ≤ U2) (u2b1 : U2 < Y) (q1b0 : 0 ≤ Q1) (q1b1 : Q1 ≤ 4294967295)
   (hQ0 : Hid ((U2 * 4294967296 + n0) / Y = Q0)) (q0b0 : 0 ≤ Q0) (q0b1 : Q0 ≤ 4294967295)
   (hF : IntKind.u64.wrap (IntKind.u64.wrap (IntKind.u64.wrap (U2 * 4294967296) + n0) - IntKind.u64.wrap (Q0 * Y)) = F) :
    Calls Try.prog 45 #[.int .u64 hi, .int .u64 lo, .int .u64 y] w fun e w' => e = .returned (.tuple #[.int .u64 (Q1 * 4294967296 + Q0), .int .u64 (F / 2 ^ s)]) ∧ w = w' := by
  have H := Lib.hid hl; clear hl
  have HC := Try.bits_LeadingZeros64 y w (by omega) (by omega)
  rw [H.out] at HC
  have HD := Lib.hid HC; clear HC
  obtain ⟨a1, a2, a3, a4, a5⟩ := dinv_start U P R n1 pb0 rb0 rb1 ub0 (by rw [← hYe.out]; exact ub1) (by omega) pb1
  obtain ⟨b1, b2, b3, b4, b5⟩ := dinv_start U2 P R n0 pb0 rb0 rb1 u2b0 (by rw [← hYe.out]; exact u2b1) (by omega) pb1
  have HA := Lib.hid a5; clear a5
  have HB := Lib.hid b5; clear b5
  go_enter Try.func45, Try.ntmps45
  go_wp2_with fail
  refine HD.out.mono ?_
  rintro e w' ⟨rfl, rfl⟩
  go_upto_block 0 with fail
  clear HD hY hP hR hU hV hn1 hn0
  go_cut [15] from 19 (fun q w'' => q = .int .u64 Q1 ∧ w'' = w')
  case first =>
    go_wp2_with fail
    go_loop [15, 16] (fun q r => ∃ a b : Int, q = .int .u64 a ∧ r = .int .u64 b ∧ DInv U P R n1 a b) (fun q _ => (intOf q).toNat)
    case atStart => exact ⟨_, _, rfl, rfl, HA.out⟩
    case round =>
      obtain ⟨q, r, rfl, rfl, hinv⟩ := hrel
      obtain ⟨hv, hq1, hq2, hq3, hr1, hr2⟩ := id hinv
      have Hv := Lib.hid hv; clear hv
      have Hq1 := Lib.hid hq1; clear hq1
      have Hi := Lib.hid hinv; clear hinv
      by_cases c1 : 4294967296 ≤ q
      · have Hd := dinv_dec1 U P R n1 q r (by omega) (by rw [← hYe.out]; exact ub1) (by omega) (by omega) c1 Hi.out
        have HD := Lib.hid Hd; clear Hd
        by_cases c3 : 4294967296 ≤ r + P
        · have HE := Lib.hid (dinv_break U P R n1 q r Q1 (by omega) rb0 rb1 (by omega) (by omega) HD.out c3 (by rw [← hYe.out]; exact hQ1.out))
          go_wp2_with fail
          go_meet
          case rel => exact ⟨by rw [HE.out], rfl⟩
        · go_wp2_with fail
          go_round
          case rel => exact ⟨q - 1, r + P, rfl, rfl, dinv_next U P R n1 q r (by omega) (by omega) Hi.out HD.out c3⟩
          case measure => simp [intOf]; omega
      · obtain ⟨p1, p2⟩ := dm_prod q R hq3 (by omega) rb0 rb1
        by_cases c2 : 4294967296 * r + n1 < q * R
        · have Hd := dinv_dec2 U P R n1 q r (by omega) rb0 (by omega) c2 Hi.out
          have HD := Lib.hid Hd; clear Hd
          have hq0 : 1 ≤ q := by
            rcases Int.lt_or_le 0 q with h | h
            · exact h
            · obtain rfl : q = 0 := by omega
              rw [Int.zero_mul] at c2; omega
          by_cases c3 : 4294967296 ≤ r + P
          · have HE := Lib.hid (dinv_break U P R n1 q r Q1 (by omega) rb0 rb1 (by omega) (by omega) HD.out c3 (by rw [← hYe.out]; exact hQ1.out))
            go_wp2_with fail
            go_meet
            case rel => exact ⟨by rw [HE.out], rfl⟩
          · go_wp2_with fail
            go_round
            case rel => exact ⟨q - 1, r + P, rfl, rfl, dinv_next U P R n1 q r (by omega) (by omega) Hi.out HD.out c3⟩
            case measure => simp [intOf]; omega
        · have HE := Lib.hid (dinv_leave U P R n1 q r Q1 (by omega) rb0 Hi.out c2 (by rw [← hYe.out]; exact hQ1.out))
          go_wp2_with fail
          go_meet
          case rel => exact ⟨by rw [HE.out], rfl⟩
  case rest =>
    obtain ⟨rfl, rfl⟩ := hcut
    go_upto_block 2 with fail
    go_cut [18] from 19 (fun q w'' => q = .int .u64 Q0 ∧ w'' = wc)
    case first =>
      go_wp2_with fail
      go_loop [18, 16] (fun q r => ∃ a b : Int, q = .int .u64 a ∧ r = .int .u64 b ∧ DInv U2 P R n0 a b) (fun q _ => (intOf q).toNat)
      case atStart => exact ⟨_, _, rfl, rfl, HB.out⟩
      case round =>
        obtain ⟨q, r, rfl, rfl, hinv⟩ := hrel
        obtain ⟨hv, hq1, hq2, hq3, hr1, hr2⟩ := id hinv
        have Hv := Lib.hid hv; clear hv
        have Hq1 := Lib.hid hq1; clear hq1
        have Hi := Lib.hid hinv; clear hinv
        by_cases c1 : 4294967296 ≤ q
        · have Hd := dinv_dec1 U2 P R n0 q r (by omega) (by rw [← hYe.out]; exact u2b1) (by omega) (by omega) c1 Hi.out
          have HD := Lib.hid Hd; clear Hd
          by_cases c3 : 4294967296 ≤ r + P
          · have HE := Lib.hid (dinv_break U2 P R n0 q r Q0 (by omega) rb0 rb1 (by omega) (by omega) HD.out c3 (by rw [← hYe.out]; exact hQ0.out))
            go_wp2_with fail
            go_meet
            case rel => exact ⟨by rw [HE.out], rfl⟩
          · go_wp2_with fail
            go_round
            case rel => exact ⟨q - 1, r + P, rfl, rfl, dinv_next U2 P R n0 q r (by omega) (by omega) Hi.out HD.out c3⟩
            case measure => simp [intOf]; omega
        · obtain ⟨p1, p2⟩ := dm_prod q R hq3 (by omega) rb0 rb1
          by_cases c2 : 4294967296 * r + n0 < q * R
          · have Hd := dinv_dec2 U2 P R n0 q r (by omega) rb0 (by omega) c2 Hi.out
            have HD := Lib.hid Hd; clear Hd
            have hq0 : 1 ≤ q := by
              rcases Int.lt_or_le 0 q with h | h
              · exact h
              · obtain rfl : q = 0 := by omega
                rw [Int.zero_mul] at c2; omega
            by_cases c3 : 4294967296 ≤ r + P
            · have HE := Lib.hid (dinv_break U2 P R n0 q r Q0 (by omega) rb0 rb1 (by omega) (by omega) HD.out c3 (by rw [← hYe.out]; exact hQ0.out))
              go_wp2_with fail
              go_meet
              case rel => exact ⟨by rw [HE.out], rfl⟩
            · go_wp2_with fail
              go_round
              case rel => exact ⟨q - 1, r + P, rfl, rfl, dinv_next U2 P R n0 q r (by omega) (by omega) Hi.out HD.out c3⟩
              case measure => simp [intOf]; omega
          · have HE := Lib.hid (dinv_leave U2 P R n0 q r Q0 (by omega) rb0 Hi.out c2 (by rw [← hYe.out]; exact hQ0.out))
            go_wp2_with fail
            go_meet
            case rel => exact ⟨by rw [HE.out], rfl⟩
    case rest =>
      obtain ⟨rfl, rfl⟩ := hcut
      go_wp2
      go_ret2
      exact ⟨ret2 rfl rfl, rfl⟩
end Go.Proofs.Ytgnmoneiiogoaaa

/- Contract of math/bits.Div64: for hi < y the quotient and the rest of hi * 2^64 + lo by y. -/
import Derived.Test.YtgnmoneiiogoaaaDivA
import Derived.Laws.BitsAllLaws
import Derived.Deep.QuietTactic
namespace Go.Proofs.Ytgnmoneiiogoaaa
set_option linter.unusedVariables false
set_option linter.unusedSimpArgs false
open Go.RowKit

theorem bitLen_log (y : Nat) (h : 0 < y) (h2 : y < 18446744073709551616) : Lib.bitLen y = y.log2 + 1 ∧ 2 ^ y.log2 ≤ y ∧ y < 2 ^ (y.log2 + 1) ∧ y.log2 ≤ 63 := by
  have a := Nat.log2_self_le (n := y) (by omega)
  have b := Nat.lt_log2_self (n := y)
  have c : y.log2 ≤ 63 := by
    rcases Nat.lt_or_ge 63 y.log2 with g | g
    · have := Nat.pow_le_pow_right (n := 2) (by omega) (show 64 ≤ y.log2 by omega)
      have e : (2:Nat) ^ 64 = 18446744073709551616 := by decide
      omega
    · exact g
  refine ⟨?_, a, b, c⟩
  rw [Lib.bitLen_shift y.log2 y a h2]
  have e : y / 2 ^ y.log2 = 1 := by
    have p := Nat.two_pow_pos y.log2
    have e1 : 1 ≤ y / 2 ^ y.log2 := (Nat.le_div_iff_mul_le p).2 (by omega)
    have e2 : y / 2 ^ y.log2 < 2 := (Nat.div_lt_iff_lt_mul p).2 (by rw [Nat.pow_succ] at b; omega)
    omega
  rw [e]; rfl

theorem split_scale (hi lo s : Nat) (hs : s ≤ 63) : (hi * 18446744073709551616 + lo) * 2 ^ s = (hi * 2 ^ s + lo / 2 ^ (64 - s)) * 18446744073709551616 + lo * 2 ^ s % 18446744073709551616 := by
  have e : (18446744073709551616 : Nat) = 2 ^ (64 - s) * 2 ^ s := by rw [← Nat.pow_add, show 64 - s + s = 64 by omega]
  have e1 : lo * 2 ^ s / 18446744073709551616 = lo / 2 ^ (64 - s) := by
    rw [e]; exact Nat.mul_div_mul_right _ _ (Nat.two_pow_pos s)
  have e2 := Nat.div_add_mod (lo * 2 ^ s) 18446744073709551616
  rw [e1] at e2
  rw [Nat.add_mul, Nat.mul_right_comm]
  omega

theorem or_split (a b s : Nat) (hb : b < 2 ^ s) (h : a * 2 ^ s + b < 18446744073709551616) : bits .or .u64 ((a * 2 ^ s : Nat) : Int) (b : Int) = ((a * 2 ^ s + b : Nat) : Int) := by
  rw [u64_or_nat _ _ (by omega) (by omega)]
  congr 1
  rw [← Nat.shiftLeft_eq, Nat.shiftLeft_add_eq_or_of_lt hb]

theorem and_mask32 (a : Nat) (h : a < 18446744073709551616) : bits .and .u64 (a : Int) 4294967295 = ((a % 4294967296 : Nat) : Int) := by
  have := u64_and_nat a 4294967295 h (by decide)
  rw [show ((4294967295 : Nat) : Int) = 4294967295 from rfl] at this
  rw [this, show (4294967295 : Nat) = 2 ^ 32 - 1 from by decide, Nat.and_two_pow_sub_one_eq_mod]

set_option maxRecDepth 100000 in
theorem w_Div64_pos (hi lo y : Nat) (h0 : 1 ≤ hi) (h1 : hi < y) (l1 : lo < 18446744073709551616) (y1 : y < 18446744073709551616) (w : World) :
    Calls Try.prog 45 #[.int .u64 hi, .int .u64 lo, .int .u64 y] w fun e w' => e = .returned (.tuple #[.int .u64 (((hi * 18446744073709551616 + lo) / y : Nat) : Int), .int .u64 (((hi * 18446744073709551616 + lo) % y : Nat) : Int)]) ∧ w = w' := by
  obtain ⟨b1, b2, b3, b4⟩ := bitLen_log y (by omega) y1
  obtain ⟨s, hs⟩ : ∃ s, s = 63 - y.log2 := ⟨_, rfl⟩
  have ps := Nat.two_pow_pos s
  have e63 : 2 ^ y.log2 * 2 ^ s = 9223372036854775808 := by rw [← Nat.pow_add, show y.log2 + s = 63 by omega]
  have e64 : 2 ^ (y.log2 + 1) * 2 ^ s = 18446744073709551616 := by rw [← Nat.pow_add, show y.log2 + 1 + s = 64 by omega]
  have Y0 : 9223372036854775808 ≤ y * 2 ^ s := by rw [← e63]; exact Nat.mul_le_mul_right _ b2
  have Y1 : y * 2 ^ s < 18446744073709551616 := by rw [← e64]; exact Nat.mul_lt_mul_of_pos_right b3 ps
  have lq : lo / 2 ^ (64 - s) < 2 ^ s := by
    rw [Nat.div_lt_iff_lt_mul (Nat.two_pow_pos _), ← Nat.pow_add, show s + (64 - s) = 64 by omega]; exact l1
  have U1 : hi * 2 ^ s + lo / 2 ^ (64 - s) < y * 2 ^ s := by
    have := Nat.mul_le_mul_right (2 ^ s) (show hi + 1 ≤ y from h1)
    rw [Nat.add_mul] at this; omega
  have hsc := split_scale hi lo s (by omega)
  obtain ⟨hd1, hd2⟩ := dm_scale (hi * 18446744073709551616 + lo) y s (by omega)
  generalize hYn : y * 2 ^ s = Y at *
  generalize hUn : hi * 2 ^ s + lo / 2 ^ (64 - s) = U at *
  generalize hVn : lo * 2 ^ s % 18446744073709551616 = V at *
  have V1 : V < 18446744073709551616 := by rw [← hVn]; exact Nat.mod_lt _ (by decide)
  obtain ⟨t1, t2⟩ := dm_two (Y : Int) (U : Int) ((V / 4294967296 : Nat) : Int) ((V % 4294967296 : Nat) : Int) (by omega)
  have t0 : ((U : Int) * 18446744073709551616 + ((V / 4294967296 : Nat) : Int) * 4294967296 + ((V % 4294967296 : Nat) : Int)) = (((hi * 18446744073709551616 + lo) * 2 ^ s : Nat) : Int) := by
    rw [hsc]; omega
  rw [t0] at t1 t2
  have g1 := Int.ediv_mul_add_emod ((U : Int) * 4294967296 + ((V / 4294967296 : Nat) : Int)) (Y : Int)
  have g2 := Int.emod_nonneg ((U : Int) * 4294967296 + ((V / 4294967296 : Nat) : Int)) (show (Y : Int) ≠ 0 by omega)
  have g3 := Int.emod_lt_of_pos ((U : Int) * 4294967296 + ((V / 4294967296 : Nat) : Int)) (show (0 : Int) < Y by omega)
  have g4 := dm_lt (Y : Int) (U : Int) ((V / 4294967296 : Nat) : Int) (by omega) (by omega) (by omega)
  have g5 : 0 ≤ ((U : Int) * 4294967296 + ((V / 4294967296 : Nat) : Int)) / (Y : Int) := Int.ediv_nonneg (by omega) (by omega)
  generalize hq1 : ((U : Int) * 4294967296 + ((V / 4294967296 : Nat) : Int)) / (Y : Int) = Q1 at *
  generalize hu2 : ((U : Int) * 4294967296 + ((V / 4294967296 : Nat) : Int)) % (Y : Int) = U2 at *
  have k1 := Int.ediv_mul_add_emod (U2 * 4294967296 + ((V % 4294967296 : Nat) : Int)) (Y : Int)
  have k2 := Int.emod_nonneg (U2 * 4294967296 + ((V % 4294967296 : Nat) : Int)) (show (Y : Int) ≠ 0 by omega)
  have k3 := Int.emod_lt_of_pos (U2 * 4294967296 + ((V % 4294967296 : Nat) : Int)) (show (0 : Int) < Y by omega)
  have k4 := dm_lt (Y : Int) U2 ((V % 4294967296 : Nat) : Int) (by omega) (by omega) (by omega)
  have k5 : 0 ≤ (U2 * 4294967296 + ((V % 4294967296 : Nat) : Int)) / (Y : Int) := Int.ediv_nonneg (by omega) (by omega)
  generalize hq0 : (U2 * 4294967296 + ((V % 4294967296 : Nat) : Int)) / (Y : Int) = Q0 at *
  generalize hf : (U2 * 4294967296 + ((V % 4294967296 : Nat) : Int)) % (Y : Int) = F at *
  have hUle : hi * 2 ^ s ≤ U := by rw [← hUn]; exact Nat.le_add_right _ _
  have hwU : IntKind.u64.wrap ((hi : Int) * 2 ^ s) = ((hi * 2 ^ s : Nat) : Int) := by
    rw [show (hi : Int) * 2 ^ s = ((hi * 2 ^ s : Nat) : Int) by simp]; exact u64w _ (by omega) (by omega)
  have hwD : (lo : Int) / 2 ^ (64 - s) = ((lo / 2 ^ (64 - s) : Nat) : Int) := by simp
  have hwY : IntKind.u64.wrap ((y : Int) * 2 ^ s) = (Y : Int) := by
    rw [show (y : Int) * 2 ^ s = ((y * 2 ^ s : Nat) : Int) by simp, hYn]; exact u64w _ (by omega) (by omega)
  have hwV : IntKind.u64.wrap ((lo : Int) * 2 ^ s) = (V : Int) := by
    rw [show (lo : Int) * 2 ^ s = ((lo * 2 ^ s : Nat) : Int) by simp, IntKind.wrap_u64]; omega
  refine (w_Div64_core hi lo y s (by omega) (by omega) (by omega) (by omega) (by omega) w (by omega) ?_ (Y : Int) ((Y / 4294967296 : Nat) : Int) ((Y % 4294967296 : Nat) : Int) (U : Int) (V : Int)
    ((V / 4294967296 : Nat) : Int) ((V % 4294967296 : Nat) : Int) Q1 U2 Q0 F hwY (by omega) (and_mask32 Y Y1) ?_ hwV (by omega) (and_mask32 V V1)
    (by omega) (by omega) (by omega) (by omega) (by omega) (by omega) (Lib.hid (by omega)) (by omega) (by omega) (by omega) (by omega) (by omega) (by omega) (by omega) (by omega)
    (Lib.hid hq1) ?_ g2 g3 g5 (by omega) (Lib.hid hq0) k5 (by omega) ?_).mono ?_
  · rw [show ((y : Int)).toNat = y from rfl, b1]; omega
  · rw [hwU, hwD, or_split hi _ s lq (by omega), hUn]
  · simp only [IntKind.wrap_u64]; generalize Q1 * (Y : Int) = z at *; omega
  · simp only [IntKind.wrap_u64]; generalize Q0 * (Y : Int) = z at *; omega
  · rintro e w' ⟨rfl, rfl⟩
    refine ⟨ret2 ?_ ?_, rfl⟩
    · rw [Int.add_comm, t1, ← hd1, Int.natCast_ediv]
    · rw [t2, ← Int.natCast_emod, hd2, show ((2 : Int) ^ s) = ((2 ^ s : Nat) : Int) by simp, ← Int.natCast_ediv, Nat.mul_div_cancel _ ps]

set_option maxHeartbeats 400000 in
theorem w_Div64_zero (lo y : Int) (h1 : 1 ≤ y) (l0 : 0 ≤ lo) (l1 : lo < 18446744073709551616) (w : World) :
    Calls Try.prog 45 #[.int .u64 0, .int .u64 lo, .int .u64 y] w fun e w' => e = .returned (.tuple #[.int .u64 (lo / y), .int .u64 (lo % y)]) ∧ ∃ n, w' = w.drewN n := by
  go_enter Try.func45, Try.ntmps45
  go_wp2_with fail
  go_quiet (fail)
  go_wp2
  go_ret2
  exact ⟨ret2 rfl rfl, _, rfl⟩

/-- Div64, for every pair hi < y. -/
theorem w_Div64 (hi lo y : Nat) (h1 : hi < y) (l1 : lo < 18446744073709551616) (y1 : y < 18446744073709551616) (w : World) :
    Calls Try.prog 45 #[.int .u64 hi, .int .u64 lo, .int .u64 y] w fun e w' => e = .returned (.tuple #[.int .u64 (((hi * 18446744073709551616 + lo) / y : Nat) : Int), .int .u64 (((hi * 18446744073709551616 + lo) % y : Nat) : Int)]) ∧ ∃ n, w' = w.drewN n := by
  by_cases h : hi = 0
  · subst h
    refine (w_Div64_zero lo y (by omega) (by omega) (by omega) w).mono ?_
    rintro e w' ⟨rfl, h⟩
    refine ⟨ret2 ?_ ?_, h⟩ <;> simp
  · refine (w_Div64_pos hi lo y (by omega) h1 l1 y1 w).mono ?_
    rintro e w' ⟨rfl, rfl⟩
    exact ⟨rfl, 0, rfl⟩
end Go.Proofs.Ytgnmoneiiogoaaa

/- Contracts of wide.signed, quotientSign, divide, Even and Floor: a * b / c, rounded half to even, and rounded down. Conditions: the arguments are ints. -/
import Derived.Test.YtgnmoneiiogoaaaWideA
import Derived.Lib.Hide
import Derived.Test.YtgnmoneiiogoaaaDivB
import Derived.WalkSmall
namespace Go.Proofs.Ytgnmoneiiogoaaa
set_option linter.unusedVariables false
set_option linter.unusedSimpArgs false
open Go.RowKit

/-- What is answered of a whole number: itself, or ErrRange. -/
def intRes (v : Int) : Int × Int := if -9223372036854775808 ≤ v ∧ v ≤ 9223372036854775807 then (v, 0) else (0, 5)
theorem intRes_in (v : Int) (h0 : -9223372036854775808 ≤ v) (h1 : v ≤ 9223372036854775807) : intRes v = (v, 0) := if_pos ⟨h0, h1⟩
theorem intRes_out (v : Int) (h : v < -9223372036854775808 ∨ 9223372036854775807 < v) : intRes v = (0, 5) := if_neg (by omega)
def absQ (a b c : Int) : Nat := (a * b).natAbs / c.natAbs
def absR (a b c : Int) : Nat := (a * b).natAbs % c.natAbs
def divSgn (a b c : Int) : Int := sgn a * sgn b * sgn c
def divRes (a b c : Int) (up : Bool) : Int × Int := if c = 0 then (0, 2) else intRes (divSgn a b c * (absQ a b c + if up then 1 else 0))

set_option maxHeartbeats 400000 in
theorem w_qsign (a b c : Int) (w : World) :
    Calls Try.prog 47 #[.int .i64 a, .int .i64 b, .int .i64 c] w fun e w' => e = .returned (.int .i64 (divSgn a b c)) ∧ w = w' := by
  have h1 := sign_bd a
  have h2 := sign_mul_bd a b
  have h3 : -1 ≤ sgn a * sgn b * sgn c ∧ sgn a * sgn b * sgn c ≤ 1 := by rw [← sgn_mul, ← sgn_mul]; exact sign_bd _
  go_enter Try.func47, Try.ntmps47
  go_wp2_with (go_at_call 58; refine (w_sign _ _).mono ?_; rintro e w' ⟨rfl, rfl⟩)
  go_ret
  exact ⟨rfl, rfl⟩

set_option maxHeartbeats 400000 in
theorem w_signed (x : Nat) (d v : Int) (hx : x < 18446744073709551616) (hv : v = if d < 0 then -(x : Int) else x) (w : World) :
    Calls Try.prog 46 #[.int .u64 x, .int .i64 d] w fun e w' => e = .returned (.tuple #[.int .i64 (intRes v).1, .int .i64 (intRes v).2]) ∧ w = w' := by
  by_cases h : d < 0
  · rw [if_pos h] at hv
    by_cases g : (x : Int) ≤ 9223372036854775808
    · rw [intRes_in v (by omega) (by omega)]
      have H := Lib.hid hv; clear hv
      go_enter Try.func46, Try.ntmps46
      go_wp2
      go_ret2
      refine ⟨ret2 ?_ rfl, rfl⟩
      rw [H.out]; simp only [wrap64, IntKind.wrap_i64, IntKind.wrap_u64]; omega
    · rw [intRes_out v (by omega)]
      clear hv
      go_enter Try.func46, Try.ntmps46
      go_wp2
      go_ret2
      exact ⟨rfl, rfl⟩
  · rw [if_neg h] at hv
    by_cases g : (x : Int) ≤ 9223372036854775807
    · rw [intRes_in v (by omega) (by omega)]
      have H := Lib.hid hv; clear hv
      go_enter Try.func46, Try.ntmps46
      go_wp2
      go_ret2
      refine ⟨ret2 ?_ rfl, rfl⟩
      rw [H.out]
    · rw [intRes_out v (by omega)]
      clear hv
      go_enter Try.func46, Try.ntmps46
      go_wp2
      go_ret2
      exact ⟨rfl, rfl⟩

theorem sgn3_cases (a b c : Int) (hc : c ≠ 0) : (a * b = 0 ∧ divSgn a b c = 0) ∨ (a * b ≠ 0 ∧ (divSgn a b c = 1 ∨ divSgn a b c = -1)) := by
  unfold divSgn
  rw [← sgn_mul]
  rcases sgn_cases (a * b) with h | h | h <;> rcases sgn_cases c with g | g | g <;> rw [h.2, g.2] <;> omega

theorem divRes_big (a b c : Int) (up : Bool) (hc : c ≠ 0) (h : 18446744073709551615 ≤ absQ a b c) : divRes a b c up = (0, 5) := by
  unfold divRes
  rw [if_neg hc]
  rcases sgn3_cases a b c hc with ⟨h1, h2⟩ | ⟨h1, h2 | h2⟩
  · have : absQ a b c = 0 := by unfold absQ; rw [h1]; simp
    omega
  · rw [h2]; apply intRes_out; split <;> omega
  · rw [h2]; apply intRes_out; split <;> omega

def DivDone (p : Int × Int) (w : World) (e : Ending) (w' : World) : Prop := e = .returned (.tuple #[.int .i64 p.1, .int .i64 p.2]) ∧ ∃ n, w' = w.drewN n

set_option maxHeartbeats 1000000 in
theorem w_divide_core (a b c : Int) (a0 : -9223372036854775808 ≤ a) (a1 : a ≤ 9223372036854775807) (b0 : -9223372036854775808 ≤ b) (b1 : b ≤ 9223372036854775807)
    (c0 : -9223372036854775808 ≤ c) (c1 : c ≤ 9223372036854775807) (hcz : (c == 0) = false) (fn : Nat) (hcf : ∀ (args : Array Value) (w : World), (callFunc fn args).run Try.prog w = .ok (.enter fn args) w) (cap : Value) (up : Bool) (w : World) (H L C q r q' : Int) (p : Int × Int)
    (hM : Hid (∀ w : World, Calls Try.prog 44 #[.int .i64 a, .int .i64 b] w fun e w' => e = .returned (.tuple #[.int .u64 H, .int .u64 L, .int .i64 (sgn (a * b))]) ∧ w = w'))
    (hS : Hid (∀ w : World, Calls Try.prog 29 #[.int .i64 c] w fun e w' => e = .returned (.int .u64 C) ∧ w = w'))
    (hD : Hid (∀ w : World, Calls Try.prog 45 #[.int .u64 H, .int .u64 L, .int .u64 C] w fun e w' => e = .returned (.tuple #[.int .u64 q, .int .u64 r]) ∧ ∃ n, w' = w.drewN n))
    (hF : q < 18446744073709551615 → Hid (∀ n, Calls Try.prog fn #[.int .u64 q, .int .u64 r, cap] (w.drewN n) fun e w' => e = .returned (.bool up) ∧ w.drewN n = w'))
    (hR : Hid (∀ w : World, Calls Try.prog 46 #[.int .u64 q', .int .i64 (divSgn a b c)] w fun e w' => e = .returned (.tuple #[.int .i64 p.1, .int .i64 p.2]) ∧ w = w'))
    (hh : H < C) (q0 : 0 ≤ q) (q1 : q < 18446744073709551616) (hq' : q' = if q < 18446744073709551615 ∧ up = true then q + 1 else q) :
    Calls Try.prog 30 #[.int .i64 a, .int .i64 b, .int .i64 c, .func (.func fn) #[] #[cap]] w (DivDone p w) := by
  by_cases hm : q < 18446744073709551615
  · have HF := hF hm; clear hF
    cases up with
    | false =>
      rw [if_neg (by simp)] at hq'; subst hq'
      go_enter Try.func30, Try.ntmps30
      go_wp2_with fail
      refine (hM.out _).mono ?_
      rintro e w' ⟨rfl, rfl⟩
      go_wp2_with fail
      refine (hS.out _).mono ?_
      rintro e w' ⟨rfl, rfl⟩
      go_wp2_with fail
      refine (hD.out _).mono ?_
      rintro e w' ⟨rfl, n, rfl⟩
      go_wp2_with fail
      refine (HF.out n).mono ?_
      rintro e w' ⟨rfl, rfl⟩
      go_wp2_with fail
      refine (w_qsign _ _ _ _).mono ?_
      rintro e w' ⟨rfl, rfl⟩
      go_wp2_with fail
      refine (hR.out _).mono ?_
      rintro e w' ⟨rfl, rfl⟩
      go_wp2
      go_ret2
      exact ⟨ret2 rfl rfl, n, rfl⟩
    | true =>
      rw [if_pos ⟨hm, rfl⟩] at hq'; subst hq'
      go_enter Try.func30, Try.ntmps30
      go_wp2_with fail
      refine (hM.out _).mono ?_
      rintro e w' ⟨rfl, rfl⟩
      go_wp2_with fail
      refine (hS.out _).mono ?_
      rintro e w' ⟨rfl, rfl⟩
      go_wp2_with fail
      refine (hD.out _).mono ?_
      rintro e w' ⟨rfl, n, rfl⟩
      go_wp2_with fail
      refine (HF.out n).mono ?_
      rintro e w' ⟨rfl, rfl⟩
      go_wp2_with fail
      refine (w_qsign _ _ _ _).mono ?_
      rintro e w' ⟨rfl, rfl⟩
      go_wp2_with fail
      refine (hR.out _).mono ?_
      rintro e w' ⟨rfl, rfl⟩
      go_wp2
      go_ret2
      exact ⟨ret2 rfl rfl, n, rfl⟩
  · rw [if_neg (by simp [hm])] at hq'; subst hq'
    clear hF
    go_enter Try.func30, Try.ntmps30
    go_wp2_with fail
    refine (hM.out _).mono ?_
    rintro e w' ⟨rfl, rfl⟩
    go_wp2_with fail
    refine (hS.out _).mono ?_
    rintro e w' ⟨rfl, rfl⟩
    go_wp2_with fail
    refine (hD.out _).mono ?_
    rintro e w' ⟨rfl, n, rfl⟩
    go_wp2_with fail
    refine (w_qsign _ _ _ _).mono ?_
    rintro e w' ⟨rfl, rfl⟩
    go_wp2_with fail
    refine (hR.out _).mono ?_
    rintro e w' ⟨rfl, rfl⟩
    go_wp2
    go_ret2
    exact ⟨ret2 rfl rfl, n, rfl⟩

set_option maxHeartbeats 400000 in
theorem w_divide_zero (a b : Int) (fv : Value) (w : World) :
    Calls Try.prog 30 #[.int .i64 a, .int .i64 b, .int .i64 0, fv] w (DivDone (0, 2) w) := by
  go_enter Try.func30, Try.ntmps30
  go_wp2
  go_ret2
  exact ⟨rfl, 0, rfl⟩

set_option maxHeartbeats 400000 in
theorem w_divide_big (a b c : Int) (hcz : (c == 0) = false) (fv : Value) (w : World) (H L C : Int)
    (hM : Hid (∀ w : World, Calls Try.prog 44 #[.int .i64 a, .int .i64 b] w fun e w' => e = .returned (.tuple #[.int .u64 H, .int .u64 L, .int .i64 (sgn (a * b))]) ∧ w = w'))
    (hS : Hid (∀ w : World, Calls Try.prog 29 #[.int .i64 c] w fun e w' => e = .returned (.int .u64 C) ∧ w = w'))
    (hh : C ≤ H) :
    Calls Try.prog 30 #[.int .i64 a, .int .i64 b, .int .i64 c, fv] w (DivDone (0, 5) w) := by
  go_enter Try.func30, Try.ntmps30
  go_wp2_with fail
  refine (hM.out _).mono ?_
  rintro e w' ⟨rfl, rfl⟩
  go_wp2_with fail
  refine (hS.out _).mono ?_
  rintro e w' ⟨rfl, rfl⟩
  go_wp2
  go_ret2
  exact ⟨rfl, 0, rfl⟩

theorem w_divide (a b c : Int) (a0 : -9223372036854775808 ≤ a) (a1 : a ≤ 9223372036854775807) (b0 : -9223372036854775808 ≤ b) (b1 : b ≤ 9223372036854775807)
    (c0 : -9223372036854775808 ≤ c) (c1 : c ≤ 9223372036854775807) (fn : Nat) (hcf : ∀ (args : Array Value) (w : World), (callFunc fn args).run Try.prog w = .ok (.enter fn args) w) (cap : Value) (up : Bool) (w : World)
    (hup : a * b = 0 → up = false)
    (hf : c ≠ 0 → ∀ n, Calls Try.prog fn #[.int .u64 (absQ a b c), .int .u64 (absR a b c), cap] (w.drewN n) fun e w' => e = .returned (.bool up) ∧ w.drewN n = w') :
    Calls Try.prog 30 #[.int .i64 a, .int .i64 b, .int .i64 c, .func (.func fn) #[] #[cap]] w (DivDone (divRes a b c up) w) := by
  by_cases hc : c = 0
  · subst hc
    exact w_divide_zero a b _ w
  · have hcz : (c == 0) = false := by simp [hc]
    by_cases hh : (c.natAbs : Int) ≤ mulHi a b
    · have hq : 18446744073709551616 ≤ absQ a b c := by
        unfold absQ mulHi at *
        rw [Nat.le_div_iff_mul_le (by omega)]
        omega
      rw [divRes_big a b c up hc (by omega)]
      exact w_divide_big a b c hcz _ w (mulHi a b) (mulLo a b) c.natAbs (w_Mul a b a0 a1 b0 b1) (w_size c c0 c1) hh
    · have hD := w_Div64 ((a * b).natAbs / 18446744073709551616) ((a * b).natAbs % 18446744073709551616) c.natAbs (by unfold mulHi at hh; omega) (by omega) (by omega)
      have eM : (a * b).natAbs / 18446744073709551616 * 18446744073709551616 + (a * b).natAbs % 18446744073709551616 = (a * b).natAbs := by omega
      rw [eM] at hD
      have hq : absQ a b c < 18446744073709551616 := by
        unfold absQ mulHi at *
        rw [Nat.div_lt_iff_lt_mul (by omega)]
        omega
      have hq' : ((absQ a b c + if absQ a b c < 18446744073709551615 ∧ up = true then 1 else 0 : Nat) : Int) = if (absQ a b c : Int) < 18446744073709551615 ∧ up = true then (absQ a b c : Int) + 1 else absQ a b c := by
        by_cases g : absQ a b c < 18446744073709551615 ∧ up = true
        · rw [if_pos g, if_pos ⟨by omega, g.2⟩]; omega
        · rw [if_neg g, if_neg (fun k => g ⟨by omega, k.2⟩)]; omega
      refine w_divide_core a b c a0 a1 b0 b1 c0 c1 hcz fn hcf cap up w (mulHi a b) (mulLo a b) c.natAbs (absQ a b c) (absR a b c) _ (divRes a b c up)
        (w_Mul a b a0 a1 b0 b1) (w_size c c0 c1) hD (fun _ => hf hc) ?_ (by omega) (by omega) (by omega) hq'
      intro w'
      by_cases g : absQ a b c < 18446744073709551615
      · have hres : divRes a b c up = intRes (divSgn a b c * (absQ a b c + if up then 1 else 0)) := if_neg hc
        rw [hres]
        refine w_signed _ _ _ (by split <;> omega) ?_ w'
        cases up with
        | false =>
          rw [if_neg (by simp)]
          rcases sgn3_cases a b c hc with ⟨h1, h2⟩ | ⟨h1, h2 | h2⟩
          · have : absQ a b c = 0 := by unfold absQ; rw [h1]; simp
            rw [h2, this]; rfl
          · rw [h2]; simp
          · rw [h2]; simp
        | true =>
          rw [show (if absQ a b c < 18446744073709551615 ∧ true = true then 1 else 0 : Nat) = 1 from if_pos ⟨g, rfl⟩]
          rcases sgn3_cases a b c hc with ⟨h1, h2⟩ | ⟨h1, h2 | h2⟩
          · exact absurd (hup h1) (by simp)
          · rw [h2]; simp
          · rw [h2]; simp
      · rw [divRes_big a b c up hc (by omega), if_neg (fun k => g k.1)]
        have : intRes (if divSgn a b c < 0 then -((absQ a b c + 0 : Nat) : Int) else ((absQ a b c + 0 : Nat) : Int)) = (0, 5) := intRes_out _ (by split <;> omega)
        rw [← this]
        exact w_signed _ _ _ (by omega) rfl w'

theorem cf_even (args : Array Value) (w : World) : (callFunc 31 args).run Try.prog w = .ok (.enter 31 args) w := by kernel_rfl
theorem cf_floor (args : Array Value) (w : World) : (callFunc 62 args).run Try.prog w = .ok (.enter 62 args) w := by kernel_rfl

/-- Half to even: is the quotient raised? -/
def evenUp (a b c : Int) : Bool := decide (c.natAbs < 2 * absR a b c ∨ 2 * absR a b c = c.natAbs ∧ absQ a b c % 2 = 1)
def floorUp (a b c : Int) : Bool := decide (divSgn a b c < 0 ∧ absR a b c ≠ 0)

set_option maxHeartbeats 400000 in
theorem w_even1 (q r d : Int) (b : Nat) (w : World) (hc : w.cell? ⟨b, 0, none⟩ = some (.int .u64 d)) (q0 : 0 ≤ q) (h0 : 0 ≤ r) (h1 : r < d) (h2 : d < 18446744073709551616) (up : Bool) (hu : up = decide (d < 2 * r ∨ 2 * r = d ∧ q % 2 = 1)) :
    Calls Try.prog 31 #[.int .u64 q, .int .u64 r, .pointer (some ⟨b, 0, none⟩)] w fun e w' => e = .returned (.bool up) ∧ w = w' := by
  have HC := w_cmpu r (d - r)
  rcases sgn_cases (r - (d - r)) with ⟨g, e⟩ | ⟨g, e⟩ | ⟨g, e⟩
  · have hu' : up = true := by rw [hu]; simp; omega
    subst hu'; clear hu
    rw [e] at HC
    have H := Lib.hid HC; clear HC e
    go_enter Try.func31, Try.ntmps31
    go_wp2_with fail
    refine (H.out _).mono ?_
    rintro e w' ⟨rfl, rfl⟩
    go_wp2
    go_ret
    exact ⟨rfl, rfl⟩
  · rw [e] at HC
    have H := Lib.hid HC; clear HC e
    by_cases hq : q % 2 = 1
    · have hu' : up = true := by rw [hu]; simp; omega
      subst hu'; clear hu
      go_enter Try.func31, Try.ntmps31
      go_wp2_with fail
      refine (H.out _).mono ?_
      rintro e w' ⟨rfl, rfl⟩
      go_wp2
      go_ret
      exact ⟨rfl, rfl⟩
    · have hu' : up = false := by rw [hu]; simp; omega
      have hb : (q % 2 == 1) = false := by simp [hq]
      subst hu'; clear hu
      go_enter Try.func31, Try.ntmps31
      go_wp2_with fail
      refine (H.out _).mono ?_
      rintro e w' ⟨rfl, rfl⟩
      go_wp2
      go_ret
      exact ⟨retb (by simp [hq]), rfl⟩
  · have hu' : up = false := by rw [hu]; simp; omega
    subst hu'; clear hu
    rw [e] at HC
    have H := Lib.hid HC; clear HC e
    go_enter Try.func31, Try.ntmps31
    go_wp2_with fail
    refine (H.out _).mono ?_
    rintro e w' ⟨rfl, rfl⟩
    go_wp2
    go_ret
    exact ⟨rfl, rfl⟩

set_option maxHeartbeats 400000 in
theorem w_floor1 (q r : Int) (n : Bool) (b : Nat) (w : World) (hc : w.cell? ⟨b, 0, none⟩ = some (.bool n)) (up : Bool) (hu : up = (n && decide (r ≠ 0))) :
    Calls Try.prog 62 #[.int .u64 q, .int .u64 r, .pointer (some ⟨b, 0, none⟩)] w fun e w' => e = .returned (.bool up) ∧ w = w' := by
  subst hu
  cases n with
  | false =>
    go_enter Try.func62, Try.ntmps62
    go_wp2
    go_ret
    exact ⟨rfl, rfl⟩
  | true =>
    go_enter Try.func62, Try.ntmps62
    go_wp2
    go_ret
    refine ⟨retb ?_, rfl⟩
    by_cases h : r = 0 <;> simp [h]

def evenRes (a b c : Int) : Int × Int := divRes a b c (evenUp a b c)
def floorRes (a b c : Int) : Int × Int := divRes a b c (floorUp a b c)

theorem absR_lt (a b c : Int) (hc : c ≠ 0) : absR a b c < c.natAbs := Nat.mod_lt _ (by omega)
theorem absQR_zero (a b c : Int) (h : a * b = 0) : absQ a b c = 0 ∧ absR a b c = 0 := by
  unfold absQ absR; rw [h]; simp

set_option maxHeartbeats 400000 in
theorem w_Even (a b c : Int) (a0 : -9223372036854775808 ≤ a) (a1 : a ≤ 9223372036854775807) (b0 : -9223372036854775808 ≤ b) (b1 : b ≤ 9223372036854775807)
    (c0 : -9223372036854775808 ≤ c) (c1 : c ≤ 9223372036854775807) (w : World) :
    Calls Try.prog 20 #[.int .i64 a, .int .i64 b, .int .i64 c] w fun e w' => e = .returned (.tuple #[.int .i64 (evenRes a b c).1, .int .i64 (evenRes a b c).2]) ∧ Below w.heap.size w w' := by
  have hdiv : ∀ (bk : Nat) (w : World), w.cell? ⟨bk, 0, none⟩ = some (.int .u64 (c.natAbs : Int)) → Calls Try.prog 30 #[.int .i64 a, .int .i64 b, .int .i64 c, .func (.func 31) #[] #[.pointer (some ⟨bk, 0, none⟩)]] w (DivDone (evenRes a b c) w) := by
    intro bk w hcell
    refine w_divide a b c a0 a1 b0 b1 c0 c1 _ cf_even _ (evenUp a b c) w ?_ ?_
    · intro h
      obtain ⟨h1, h2⟩ := absQR_zero a b c h
      unfold evenUp; rw [h1, h2]; simp
    · intro hc n
      have hr := absR_lt a b c hc
      refine w_even1 (absQ a b c) (absR a b c) c.natAbs bk (w.drewN n) (by simpa using hcell) (by omega) (by omega) (by omega) (by omega) _ ?_
      unfold evenUp
      exact decide_eq_decide.2 (by omega)
  have HV := Lib.hid hdiv; clear hdiv
  go_enter Try.func20, Try.ntmps20
  go_wp2_with fail
  refine (w_size c c0 c1 _).mono ?_
  rintro e w' ⟨rfl, rfl⟩
  go_wp2_with fail
  refine (HV.out _ _ ?_).mono ?_
  · go_cell
  rintro e w' ⟨rfl, n, rfl⟩
  go_wp2
  go_ret2
  exact ⟨rfl, below_drewN (by go_grown) _⟩

set_option maxHeartbeats 400000 in
theorem w_Floor (a b c : Int) (a0 : -9223372036854775808 ≤ a) (a1 : a ≤ 9223372036854775807) (b0 : -9223372036854775808 ≤ b) (b1 : b ≤ 9223372036854775807)
    (c0 : -9223372036854775808 ≤ c) (c1 : c ≤ 9223372036854775807) (w : World) :
    Calls Try.prog 54 #[.int .i64 a, .int .i64 b, .int .i64 c] w fun e w' => e = .returned (.tuple #[.int .i64 (floorRes a b c).1, .int .i64 (floorRes a b c).2]) ∧ Below w.heap.size w w' := by
  have hdiv : ∀ (bk : Nat) (w : World), w.cell? ⟨bk, 0, none⟩ = some (.bool (decide (divSgn a b c < 0))) → Calls Try.prog 30 #[.int .i64 a, .int .i64 b, .int .i64 c, .func (.func 62) #[] #[.pointer (some ⟨bk, 0, none⟩)]] w (DivDone (floorRes a b c) w) := by
    intro bk w hcell
    refine w_divide a b c a0 a1 b0 b1 c0 c1 _ cf_floor _ (floorUp a b c) w ?_ ?_
    · intro h
      obtain ⟨h1, h2⟩ := absQR_zero a b c h
      unfold floorUp; rw [h2]; simp
    · intro hc n
      refine w_floor1 (absQ a b c) (absR a b c) _ bk (w.drewN n) (by simpa using hcell) _ ?_
      unfold floorUp
      rw [Bool.decide_and]; congr 1
      exact decide_eq_decide.2 (by omega)
  have HV := Lib.hid hdiv; clear hdiv
  go_enter Try.func54, Try.ntmps54
  go_wp2_with fail
  refine (w_qsign _ _ _ _).mono ?_
  rintro e w' ⟨rfl, rfl⟩
  go_wp2_with fail
  refine (HV.out _ _ ?_).mono ?_
  · go_cell
  rintro e w' ⟨rfl, n, rfl⟩
  go_wp2
  go_ret2
  exact ⟨rfl, below_drewN (by go_grown) _⟩
end Go.Proofs.Ytgnmoneiiogoaaa

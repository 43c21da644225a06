/- Contracts of wide.signed, quotientSign, divide, Even and Floor: a * b / c, rounded half to even, and rounded down. Conditions: the arguments are ints. -/
import Derived.Test.YtegliapkbapigaaGreatWideA
import Derived.Lib.Hide
import Derived.Test.YtegliapkbapigaaGreatDivB
import Derived.WalkSmall
namespace Go.Proofs.YtegliapkbapigaaGreat
set_option linter.unusedVariables false
set_option linter.unusedSimpArgs false
open Go.RowKit

/-- What is answered of a whole number: itself, or ErrRange. -/
def intRes (v : Int) : Int × Int := if -9223372036854775808 ≤ v ∧ v ≤ 9223372036854775807 then (v, 0) else (0, 5)
theorem intRes_in (v : Int) (h0 : -9223372036854775808 ≤ v) (h1 : v ≤ 9223372036854775807) : intRes v = (v, 0) := if_pos ⟨h0, h1⟩
theorem intRes_out (v : Int) (h : v < -9223372036854775808 ∨ 9223372036854775807 < v) : intRes v = (0, 5) := if_neg (by omega)
def absQ (a b c : Int) : Nat := (a * b).natAbs / c.natAbs
def absR (a b c : Int) : Nat := (a * b).natAbs % c.natAbs
def divSgn (a b c : Int) : Int := sgn a * sgn b * sgn c
def divRes (a b c : Int) (up : Bool) : Int × Int := if c = 0 then (0, 2) else intRes (divSgn a b c * (absQ a b c + if up then 1 else 0))

theorem sgn3_cases (a b c : Int) (hc : c ≠ 0) : (a * b = 0 ∧ divSgn a b c = 0) ∨ (a * b ≠ 0 ∧ (divSgn a b c = 1 ∨ divSgn a b c = -1)) := by
  unfold divSgn
  rw [← sgn_mul]
  rcases sgn_cases (a * b) with h | h | h <;> rcases sgn_cases c with g | g | g <;> rw [h.2, g.2] <;> omega

theorem divRes_big (a b c : Int) (up : Bool) (hc : c ≠ 0) (h : 18446744073709551615 ≤ absQ a b c) : divRes a b c up = (0, 5) := by
  unfold divRes
  rw [if_neg hc]
  rcases sgn3_cases a b c hc with ⟨h1, h2⟩ | ⟨h1, h2 | h2⟩
  · have : absQ a b c = 0 := by unfold absQ; rw [h1]; simp
    omega
  · rw [h2]; apply intRes_out; split <;> omega
  · rw [h2]; apply intRes_out; split <;> omega

def DivDone (p : Int × Int) (w : World) (e : Ending) (w' : World) : Prop := e = .returned (.tuple #[.int .i64 p.1, .int .i64 p.2]) ∧ ∃ n, w' = w.drewN n

/-- Half to even: is the quotient raised? -/
def evenUp (a b c : Int) : Bool := decide (c.natAbs < 2 * absR a b c ∨ 2 * absR a b c = c.natAbs ∧ absQ a b c % 2 = 1)
def floorUp (a b c : Int) : Bool := decide (divSgn a b c < 0 ∧ absR a b c ≠ 0)

def evenRes (a b c : Int) : Int × Int := divRes a b c (evenUp a b c)
def floorRes (a b c : Int) : Int × Int := divRes a b c (floorUp a b c)

theorem absR_lt (a b c : Int) (hc : c ≠ 0) : absR a b c < c.natAbs := Nat.mod_lt _ (by omega)
theorem absQR_zero (a b c : Int) (h : a * b = 0) : absQ a b c = 0 ∧ absR a b c = 0 := by
  unfold absQ absR; rw [h]; simp

end Go.Proofs.YtegliapkbapigaaGreat

/- Plain arithmetic behind a division of 128 bits by 64: the estimate of one digit to the base 2^32, and what it comes to. No program. Contract of math/bits.Div64 for a high part from 1 on, below the divisor: the quotient and the rest of hi * 2^64 + lo by y. The scaled numbers come in by name. Contract of math/bits.Div64: for hi < y the quotient and the rest of hi * 2^64 + lo by y. Contracts of wide.signed, quotientSign, divide, Even and Floor: a * b / c, rounded half to even, and rounded down. Conditions: the arguments are ints. -/
import Derived.Test.YthphdiigjimchaaGreatWideA
import Derived.Lib.Hide
import Derived.BigQuiet
import Derived.Deep.CutBlock
import Derived.Deep.Cut
import Derived.Laws.BitsAllLaws
import Derived.Lib.BitFns
import Derived.Deep.QuietTactic
import Derived.WalkSmall
namespace Go.Proofs.YthphdiigjimchaaGreat
section
set_option linter.unusedVariables false
set_option linter.unusedSimpArgs false
theorem dm_exp (q P R : Int) : q * (P * 4294967296 + R) = (q * P) * 4294967296 + q * R := by rw [Int.mul_add, ← Int.mul_assoc]
end

section
set_option linter.unusedVariables false
set_option linter.unusedSimpArgs false
open Go.RowKit
def DInv (U P R n q r : Int) : Prop := q * P + r = U ∧ (U * 4294967296 + n) / (P * 4294967296 + R) ≤ q ∧ q ≤ 4294967297 ∧ 0 ≤ q ∧ 0 ≤ r ∧ r < 4294967296
def Div64Fin (Y U n1 n0 : Int) (s : Nat) (e : Ending) : Prop :=
  e = .returned (.tuple #[.int .u64 ((U * 18446744073709551616 + n1 * 4294967296 + n0) / Y), .int .u64 ((U * 18446744073709551616 + n1 * 4294967296 + n0) % Y / 2 ^ s)])
end

section
set_option linter.unusedVariables false
set_option linter.unusedSimpArgs false
open Go.RowKit
end

section
set_option linter.unusedVariables false
set_option linter.unusedSimpArgs false
open Go.RowKit
def intRes (v : Int) : Int × Int := if -9223372036854775808 ≤ v ∧ v ≤ 9223372036854775807 then (v, 0) else (0, 5)
def absQ (a b c : Int) : Nat := (a * b).natAbs / c.natAbs
def absR (a b c : Int) : Nat := (a * b).natAbs % c.natAbs
def divSgn (a b c : Int) : Int := sgn a * sgn b * sgn c
def divRes (a b c : Int) (up : Bool) : Int × Int := if c = 0 then (0, 2) else intRes (divSgn a b c * (absQ a b c + if up then 1 else 0))
def DivDone (p : Int × Int) (w : World) (e : Ending) (w' : World) : Prop := e = .returned (.tuple #[.int .i64 p.1, .int .i64 p.2]) ∧ ∃ n, w' = w.drewN n
def evenUp (a b c : Int) : Bool := decide (c.natAbs < 2 * absR a b c ∨ 2 * absR a b c = c.natAbs ∧ absQ a b c % 2 = 1)
def floorUp (a b c : Int) : Bool := decide (divSgn a b c < 0 ∧ absR a b c ≠ 0)
def evenRes (a b c : Int) : Int × Int := divRes a b c (evenUp a b c)
def floorRes (a b c : Int) : Int × Int := divRes a b c (floorUp a b c)
end
end Go.Proofs.YthphdiigjimchaaGreat

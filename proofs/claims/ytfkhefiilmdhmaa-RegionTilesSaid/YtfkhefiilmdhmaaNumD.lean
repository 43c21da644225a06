/- Contracts of apportionref01's Num.Int, told and Num.Plus. Conditions: numbers below 2^192 in size. -/
import Derived.Test.YtfkhefiilmdhmaaNumC
namespace Go.Proofs.Ytfkhefiilmdhmaa
set_option linter.unusedVariables false
set_option linter.unusedSimpArgs false
open Go.RowKit

def inI64 (z : Int) : Bool := decide (-9223372036854775808 ≤ z ∧ z ≤ 9223372036854775807)
def i64Or0 (z : Int) : Int := if -9223372036854775808 ≤ z ∧ z ≤ 9223372036854775807 then z else 0

theorem retib {a b : Int} {p q : Bool} (h : a = b) (g : p = q) : Ending.returned (.tuple #[.int .i64 a, .bool p]) = .returned (.tuple #[.int .i64 b, .bool q]) := by rw [h, g]

theorem told_int (z : Int) : (inI64 z = true → intRes z = (i64Or0 z, 0)) ∧ (inI64 z = false → intRes z = (0, 5)) := by
  unfold inI64 i64Or0 intRes
  by_cases h : -9223372036854775808 ≤ z ∧ z ≤ 9223372036854775807
  · simp [h]
  · simp [h]

end Go.Proofs.Ytfkhefiilmdhmaa

/- What the laws of money ask of money's small functions. -/
import Derived.Test.YtgnmoneiiogoaaaMonD
import Derived.Test.YtgnmoneiiogoaaaPlus
namespace Go.Proofs.Ytgnmoneiiogoaaa
set_option linter.unusedVariables false
set_option linter.unusedSimpArgs false
open Go.RowKit

/-- What the laws ask of money's small functions: they answer as the document says, and leave what was there. -/
structure MonOk : Prop where
  check : ∀ (a : Int) (w : World), -9223372036854775808 ≤ a → a ≤ 9223372036854775807 → Calls Try.prog 7 #[.int .i64 a] w fun e w' => e = .returned (.int .i64 (amtErr a)) ∧ Junk w w'
  rate : ∀ (a : Int) (w : World), -9223372036854775808 ≤ a → a ≤ 9223372036854775807 → Calls Try.prog 9 #[.int .i64 a] w fun e w' => e = .returned (.int .i64 (rateErr a)) ∧ Junk w w'
  tax : ∀ (a r : Int) (w : World), -9223372036854775808 ≤ a → a ≤ 9223372036854775807 → -9223372036854775808 ≤ r → r ≤ 9223372036854775807 →
    Calls Try.prog 11 #[.int .i64 a, .int .i64 r] w fun e w' => e = .returned (.tuple #[.int .i64 (taxRes a r).1, .int .i64 (taxRes a r).2]) ∧ Junk w w'
  share : ∀ (t p v : Int) (w : World), -9223372036854775808 ≤ t → t ≤ 9223372036854775807 → -9223372036854775808 ≤ p → p ≤ 9223372036854775807 → -9223372036854775808 ≤ v → v ≤ 9223372036854775807 →
    Calls Try.prog 13 #[.int .i64 t, .int .i64 p, .int .i64 v] w fun e w' => e = .returned (.tuple #[.int .i64 (shareRes t p v).1, .int .i64 (shareRes t p v).2]) ∧ Junk w w'
def AwakeOk : Prop := ∀ w, Calls Try.prog 15 #[] w fun e w' => e = .returned (.bool true) ∧ Junk w w'

end Go.Proofs.Ytgnmoneiiogoaaa

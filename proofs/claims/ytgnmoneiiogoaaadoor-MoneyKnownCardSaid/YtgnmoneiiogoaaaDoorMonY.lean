/- The laws MoneyTexts, MoneyKnown, MoneyBounds and MoneyBack hold. -/
import Derived.Test.YtgnmoneiiogoaaaDoorMonF
namespace Go.Proofs.YtgnmoneiiogoaaaDoor
set_option linter.unusedVariables false
set_option linter.unusedSimpArgs false
open Go.RowKit

theorem bytes_list (s : ByteArray) : s = ⟨s.data.toList.toArray⟩ := by
  apply ByteArray.ext; simp
theorem d_texts (a : Int) (s : ByteArray) (w : World) (ht : Tab w) (w0 : (Lit.int .i64 a).wf = true) (hs : s.data.toList.length ≤ 9223372036854775807) :
    Calls Tryd.prog 3 #[.int .i64 a, .string s] w fun e w' => e = .returned (.bool true) ∧ Below w.heap.size w w' := by
  rw [bytes_list s]; exact (l_moneyTexts awake_ok text_ok parse_ok a _ w ht w0 hs).mono fun e w1 h => ⟨h.1, h.2.below⟩
theorem d_back (a : Int) (s : ByteArray) (w : World) (ht : Tab w) (w0 : (Lit.int .i64 a).wf = true) (hs : s.data.toList.length ≤ 9223372036854775807) :
    Calls Tryd.prog 6 #[.int .i64 a, .string s] w fun e w' => e = .returned (.bool true) ∧ Below w.heap.size w w' := by
  rw [bytes_list s]; exact (l_moneyBack mon_ok awake_ok text_ok parse_ok a _ w ht w0 hs).mono fun e w1 h => ⟨h.1, h.2.below⟩
end Go.Proofs.YtgnmoneiiogoaaaDoor

/- Shares and taxes: bounds. Mathematics alone. -/
import Derived.Test.YtgnmoneiiogoaaaDoorMonD
import Derived.Test.YtgnmoneiiogoaaaDoorNear
namespace Go.Proofs.YtgnmoneiiogoaaaDoor
set_option linter.unusedVariables false
set_option linter.unusedSimpArgs false
open Go.RowKit

/-- A share that rises. -/
theorem share_q (t p v : Int) (t0 : 0 ≤ t) (t1 : t ≤ 1099511627775) (p0 : 0 ≤ p) (p1 : p ≤ v) (v0 : 1 ≤ v) (v1 : v ≤ 1099511627775) :
    shareRes t p v = (evenQ t p v, 0) ∧ 0 ≤ evenQ t p v ∧ evenQ t p v ≤ t := by
  have h0 : 0 ≤ evenQ t p v := by
    have := evenQ_mono 0 0 t p v (by omega) (by rw [Int.zero_mul]; exact Int.mul_nonneg t0 p0)
    rw [evenQ_exact 0 0 v 0 (by omega) (by simp)] at this; exact this
  have h1 : evenQ t p v ≤ t := by
    have := evenQ_mono t p t v v (by omega) (Int.mul_le_mul_of_nonneg_left p1 t0)
    rw [evenQ_exact t v v t (by omega) rfl] at this; exact this
  refine ⟨?_, h0, h1⟩
  unfold shareRes
  rw [if_neg (by omega), if_neg (by omega), evenRes_evenQ t p v (by omega), intRes_in _ (by omega) (by omega)]

theorem tax_q (a r : Int) (a0 : 0 ≤ a) (a1 : a ≤ 1099511627775) (r0 : 0 ≤ r) (r1 : r ≤ 1000000) :
    taxRes a r = (evenQ a r 1000000, 0) ∧ taxRes (-a) r = (-evenQ a r 1000000, 0) ∧ 0 ≤ evenQ a r 1000000 ∧ evenQ a r 1000000 ≤ a := by
  obtain ⟨_, h0, h1⟩ := share_q a r 1000000 a0 a1 r0 r1 (by decide) (by decide)
  refine ⟨?_, ?_, h0, h1⟩
  · unfold taxRes
    rw [if_pos ⟨⟨by omega, by omega⟩, r0, r1⟩, evenRes_evenQ a r 1000000 (by decide), intRes_in _ (by omega) (by omega)]
  · unfold taxRes
    rw [if_pos ⟨⟨by omega, by omega⟩, r0, r1⟩, evenRes_evenQ (-a) r 1000000 (by decide), evenQ_neg, intRes_in _ (by omega) (by omega)]
end Go.Proofs.YtgnmoneiiogoaaaDoor

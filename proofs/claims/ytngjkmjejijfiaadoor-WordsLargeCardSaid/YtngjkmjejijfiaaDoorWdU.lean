/- Package words: textOf. -/
import Derived.Test.YtngjkmjejijfiaaDoorWdT
namespace Go.Proofs.YtngjkmjejijfiaaDoor
set_option linter.unusedVariables false
set_option linter.unusedSimpArgs false
open Go.RowKit

def TxRes (t : Tx) (w : World) (e : Ending) (w' : World) : Prop := e = .returned (sV t) ∧ Junk w w'
theorem tx_ret {t : Tx} {x : Value} {w w' : World} (hx : x = sV t) (hj : Junk w w') : TxRes t w (.returned x) w' := ⟨by rw [hx], hj⟩
theorem sV_of {b : ByteArray} {t : Tx} (h : b.data = t.toArray) : Value.string b = sV t := by
  obtain ⟨d⟩ := b
  simp at h
  rw [h]
set_option maxRecDepth 100000 in
set_option maxHeartbeats 1000000 in
theorem n_textOf (kd : Int) (w : World) : Calls Tryd.prog 22 #[.int .i64 kd] w (TxRes (txT kd) w) := by
  by_cases h0 : kd < 0
  · have e : txT kd = [] := by unfold txT; rw [if_neg (by omega), if_neg (by omega), if_neg (by omega), if_neg (by omega)]
    rw [e]
    go_enter Tryd.func22, Tryd.ntmps22
    go_wp2
    go_ret
    exact tx_ret rfl (junk_of_below (by (repeat' first | with_reducible (first | apply Below.refl | assumption | apply bw_a | apply bw_d | apply bw_n | apply bw_p | apply bw_c | apply bw_r) | go_size)))
  by_cases h5 : 5 ≤ kd
  · have e : txT kd = [] := by unfold txT; rw [if_neg (by omega), if_neg (by omega), if_neg (by omega), if_neg (by omega)]
    rw [e]
    go_enter Tryd.func22, Tryd.ntmps22
    go_wp2
    go_ret
    exact tx_ret rfl (junk_of_below (by (repeat' first | with_reducible (first | apply Below.refl | assumption | apply bw_a | apply bw_d | apply bw_n | apply bw_p | apply bw_c | apply bw_r) | go_size)))
  have hk : kd = 0 ∨ kd = 1 ∨ kd = 2 ∨ kd = 3 ∨ kd = 4 := by omega
  rcases hk with rfl | rfl | rfl | rfl | rfl
  all_goals
    go_enter Tryd.func22, Tryd.ntmps22
    go_wp2
    go_ret
    exact tx_ret (by kernel_rfl) (junk_of_below (by (repeat' first | with_reducible (first | apply Below.refl | assumption | apply bw_a | apply bw_d | apply bw_n | apply bw_p | apply bw_c | apply bw_r) | go_size)))
end Go.Proofs.YtngjkmjejijfiaaDoor

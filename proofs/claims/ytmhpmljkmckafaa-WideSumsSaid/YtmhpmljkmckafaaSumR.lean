/- Contract of apportionref01's Sum: what ints come to together. Conditions: the slice reads as those ints, fewer than 2^60 of them. -/
import Derived.Test.YtmhpmljkmckafaaNumH
import Derived.Test.YtmhpmljkmckafaaWideD
namespace Go.Proofs.Ytmhpmljkmckafaa
set_option linter.unusedVariables false
set_option linter.unusedSimpArgs false
open Go.RowKit

section
variable {P : Program} {ops : Array Oper} {Q : Act → Prop} {rest : List Oper} {o : Oper} {a : Act}
theorem q_val {C : World → Prop} (hgd : o.guard = none) (v : Value) (hv : ∀ w, C w → (execOp a.eval o).run P w = .ok (.value v) w) (h : wpQuiet P ops C Q rest (a.put o.dst v)) : wpQuiet P ops C Q (o :: rest) a :=
  q_op hgd v (fun w hw => by unfold Oper.quietAt; rw [hv w hw]; exact ⟨rfl, rfl⟩) h
theorem q_move {C : World → Prop} (hgd : o.guard = none) (x : Operand) (ho : o.op = .move x) (v : Value) (hx : a.eval x = v) (h : wpQuiet P ops C Q rest (a.put o.dst v)) : wpQuiet P ops C Q (o :: rest) a :=
  q_val hgd v (fun w _ => by simp only [execOp, ho, hx]; rfl) h
end

theorem q_assign {P : Program} {ops : Array Oper} {Q : Act → Prop} {rest : List Oper} {o : Oper} {a : Act} {C : World → Prop} (hgd : o.guard = none) (x : Operand) (ho : o.op = .assign x) (v : Value) (hx : a.eval x = v) (h : wpQuiet P ops C Q rest (a.put o.dst v)) : wpQuiet P ops C Q (o :: rest) a :=
  q_val hgd v (fun w _ => by simp only [execOp, ho, hx]; rfl) h

theorem lt_of_cell {w : World} {b i : Nat} {v : Value} (h : w.cell? ⟨b, i, none⟩ = some v) : b < w.heap.size := by
  by_cases hb : b < w.heap.size
  · exact hb
  · simp [World.cell?, Array.getElem?_eq_none (Nat.le_of_not_lt hb)] at h

set_option maxRecDepth 100000 in
set_option maxHeartbeats 2000000 in
theorem r_Sum (a : Option Addr) (len cap : Nat) (zs : List Int) (hl : len < 1152921504606846976) (w : World) (hr : Reads w a len zs) :
    Calls Try.prog 20 #[.slice a len cap] w fun e w' => e = .returned (.tuple #[.int .i64 (intRes (sumL zs)).1, .int .i64 (intRes (sumL zs)).2]) ∧ Junk w w' := by
  obtain ⟨hz, hb, hc⟩ := hr
  have HZ := Lib.hid hz
  have HS := Lib.hid (sumL_bd zs len hb hz)
  have HB := Lib.hid hb
  have HC := Lib.hid hc
  have HT := Lib.hid (fun k (h : k < len) => sumL_take zs k (by omega))
  have HF := Lib.hid (fun k (h : k ≤ len) => show Fits (sumL (zs.take k)) from fits_of _ (by have := sumL_bd zs len hb hz k h; omega))
  clear hz hb hc
  go_enter Try.func20, Try.ntmps20
  go_wp2_with fail
  go_loopw [5] (fun i wr => ∃ (k : Nat) (J : Array Obj) (d : Nat), i = .int .i64 k ∧ k ≤ len ∧ wr = (w.alloc (.cells (cellsOf (sumL (zs.take k))) 44)).plus J d) (fun i _ => len - (intOf i).toNat)
  case atStart => exact ⟨0, #[], w.drawn, rfl, Nat.zero_le _, by rw [List.take_zero, show sumL [] = 0 from rfl, cellsOf_zero]; exact (plus_nil _).symm⟩
  case round =>
    obtain ⟨k, J, d, rfl, hk, rfl⟩ := hrel
    by_cases hlt : k < len
    · obtain ⟨nb0, nb1⟩ := HB.out k hlt
      have F1 := Lib.hid (HF.out k (by omega))
      have F2 := Lib.hid (HF.out (k + 1) hlt)
      have HTT := Lib.hid (HT.out k hlt)
      rcases HC.out with h0 | ⟨b, off, rfl, hcell⟩
      · omega
      have hce := hcell k hlt
      clear hcell
      rw [HTT.out] at F2
      generalize zs.getD k 0 = n at *
      generalize hse : sumL (zs.take k) = s at *
      have HSE := Lib.hid hse; clear hse
      go_upto_region 5 with fail
      have hbs : b < w.heap.size := lt_of_cell hce
      refine region_quiet_tail (C := Cls (w.alloc (.cells (cellsOf s) 44))) 7 (by kernel_rfl) (by kernel_rfl) ⟨_, _, rfl⟩ ?_
      simp only [List.take_succ_cons, List.take_zero, List.drop_succ_cons, List.drop_zero]
      (refine q_load rfl _ _ rfl _ Try.underlying44 rfl 13 (by kernel_rfl) _ rfl (by simp [go_sem]) _ (by simp [go_sem]; rfl) (by simp [go_sem]) ?_)
      try simp only [Act.put, List.setIfInBounds_toArray, List.set_cons_succ, List.set_cons_zero]
      refine q_move rfl _ rfl (.slice (some ⟨b, off, none⟩) len cap) rfl ?_
      refine q_move rfl _ rfl (.int .i64 k) rfl ?_
      try simp only [Act.put, List.setIfInBounds_toArray, List.set_cons_succ, List.set_cons_zero]
      refine q_val rfl (.pointer (some ⟨b, off + k, none⟩)) (fun w1 _ => ?_) ?_
      · simp [execOp, Act.eval, go_sem]
        intro h; omega
      refine q_val rfl (.int .i64 n) ?_ ?_
      · rintro w1 ⟨J1, d1, rfl⟩
        have hb2 : b < (w.alloc (.cells (cellsOf s) 44)).heap.size := by simp [go_sem]; omega
        have hcw : ((w.alloc (.cells (cellsOf s) 44)).plus J1 d1).cell? ⟨b, off + k, none⟩ = some (.int .i64 n) := by
          rw [cell_plus _ _ _ _ _ hb2, World.cell?_alloc_past _ _ _ hbs]; exact hce
        simp [execOp, Act.eval, go_sem]
        rw [hcw]
        rfl
      refine q_call rfl 28 _ _ rfl #[.int .i64 n] (by simp [Act.eval, Act.put]) (fun _ => by kernel_rfl) _ (r_Of' n nb0 nb1) ?_
      refine q_call rfl 34 _ _ rfl #[.agg (cellsOf s), .agg (cellsOf n)] (by simp [Act.eval, Act.put]) (fun _ => by kernel_rfl) _ (r_Plus' s n F1.out (fits_of n (by omega)) F2.out) ?_
      refine wpQuiet_nil ?_
      rintro w3 ⟨J3, d3, rfl⟩
      try simp only [Act.put, List.setIfInBounds_toArray, List.set_cons_succ, List.set_cons_zero]
      go_wp2_with (first | (refine wpList_num_load rfl _ rfl _ rfl (by first | (simp [go_sem]; done) | (simp [go_sem, *]; done)) ?_; intro c_ hc_; simp [go_sem] at hc_; subst hc_; try simp only [Act.put, List.setIfInBounds_toArray, List.set_cons_succ, List.set_cons_zero]) | (refine wpList_cells_store rfl _ _ rfl _ rfl _ rfl (by first | (simp [go_sem]; done) | (simp [go_sem, *]; done)) ?_; intro w1_ hw1_; simp [go_sem] at hw1_; subst hw1_; try simp only [Act.put, List.setIfInBounds_toArray, List.set_cons_succ, List.set_cons_zero]))
      go_round
      case rel => exact ⟨k + 1, J3, d3, by go_num, by omega, by rw [HTT.out]⟩
      case measure => simp [intOf]; omega
    · obtain rfl : k = len := by omega
      have hsum : sumL (zs.take k) = sumL zs := by rw [List.take_of_length_le (by rw [HZ.out]; exact Nat.le_refl _)]
      have F1 := Lib.hid (HF.out k (Nat.le_refl _))
      rw [hsum] at F1 ⊢
      clear hsum
      have RT := Lib.hid (r_told (sumL zs) F1.out)
      rw [num_agg] at RT
      go_wp2_with (first | (refine wpList_num_load rfl _ rfl _ rfl (by first | (simp [go_sem]; done) | (simp [go_sem, *]; done)) ?_; intro c_ hc_; simp [go_sem] at hc_; subst hc_; try simp only [Act.put, List.setIfInBounds_toArray, List.set_cons_succ, List.set_cons_zero]) | (refine wpList_cells_store rfl _ _ rfl _ rfl _ rfl (by first | (simp [go_sem]; done) | (simp [go_sem, *]; done)) ?_; intro w1_ hw1_; simp [go_sem] at hw1_; subst hw1_; try simp only [Act.put, List.setIfInBounds_toArray, List.set_cons_succ, List.set_cons_zero]))
      refine (RT.out _).mono ?_
      rintro e w' ⟨rfl, J1, d1, rfl⟩
      go_wp2_with fail
      go_ret2
      exact ⟨rfl, junk_of_below (by (repeat' (first | (with_reducible exact Below.refl _ _) | (with_reducible assumption) | (with_reducible refine Below.alloc ?_ ?_ _) | (with_reducible refine Below.drew ?_) | (with_reducible refine below_drewN ?_ _) | (with_reducible refine below_plus ?_ ?_ _ _) | (with_reducible refine Below.setCell ?_ ?_ _) | (with_reducible refine Below.setRow ?_ ?_ _) | go_size)))⟩
end Go.Proofs.Ytmhpmljkmckafaa

/- The law WideSums: its text returns true of any slice of ints. Conditions: none beyond the reading of a slice. -/
import Derived.Test.YtmhpmljkmckafaaLawA
import Derived.Test.YtmhpmljkmckafaaSumR
import Derived.Test.YtmhpmljkmckafaaLists
import Derived.Deep.DeepCutAuto
namespace Go.Proofs.Ytmhpmljkmckafaa
set_option linter.unusedVariables false
set_option linter.unusedSimpArgs false
open Go.RowKit

theorem cls_drew (w : World) (J : Array Obj) (d : Nat) : Cls w { w.plus J d with drawn := (w.plus J d).drawn + 1 } := ⟨J, _, rfl⟩

set_option maxRecDepth 100000 in
set_option maxHeartbeats 2000000 in
theorem l_sums (a : Option Addr) (len cap : Nat) (zs : List Int) (w : World) (hn : a = none → len = 0 ∧ cap = 0) (hr : Reads w a len zs) :
    Calls Try.prog 5 #[.slice a len cap] w fun e w' => e = .returned (.bool true) ∧ Junk w w' := by
  have HR := Lib.hid hr; clear hr
  have HN := Lib.hid hn; clear hn
  go_enter Try.func5, Try.ntmps5
  by_cases h1000 : 1000 < len
  · go_wp2_with fail
    refine (l_awake _).mono ?_; rintro e w' ⟨rfl, Ja, da, rfl⟩
    go_wp2
    go_ret
    exact ⟨rfl, junk_of_below (by (repeat' (first | (with_reducible exact Below.refl _ _) | (with_reducible assumption) | (with_reducible refine Below.alloc ?_ ?_ _) | (with_reducible refine Below.drew ?_) | (with_reducible refine below_drewN ?_ _) | (with_reducible refine below_plus ?_ ?_ _ _) | (with_reducible refine Below.setCell ?_ ?_ _) | (with_reducible refine Below.setRow ?_ ?_ _) | go_size)))⟩
  · have hm : len < 1152921504606846976 := by omega
    go_upto_region 3 with fail
    go_cut [3] from 13 (fun v wx => Copied w a len zs v wx)
    case first =>
      go_wp2_with (at_builtin; refine wpList_copy rfl (.tmp 17) (.tmp 18) rfl rfl a len cap zs rfl HN.out HR.out (by omega) ?_; intro v' w' hc)
      go_meet
      case rel => exact hc
    case rest =>
      obtain ⟨a', cap', rfl, hown, R2, hb⟩ := hcut
      have R1 : Reads wc a' len zs := by
        obtain ⟨a2, c2, he, hR⟩ := reads_of_owns hown R2.2.1
        injection he with h1 h2 h3; subst h1 h3; exact hR
      clear hown
      have W1 := w_Sum a' len cap' zs hm wc R1
      have W2 := r_Sum a len cap zs hm wc R2
      generalize hsv : (intRes (sumL zs)).1 = sv at *
      generalize hse : (intRes (sumL zs)).2 = se at *
      have H1 := Lib.hid R1; have H2 := Lib.hid R2; have W1 := Lib.hid W1; have W2 := Lib.hid W2; have HB := Lib.hid hb
      clear R1 R2 hb hsv hse HR HN
      go_wp2_with fail
      refine W1.out.mono ?_; rintro e w' ⟨rfl, rfl⟩
      go_wp2_with fail
      refine W2.out.mono ?_; rintro e w' ⟨rfl, J, d, rfl⟩
      go_wp2_with fail
      go_loopw [8] (fun i wr => ∃ (k : Nat) (J : Array Obj) (d : Nat), i = .int .i64 k ∧ k ≤ len ∧ wr = wc.plus J d) (fun i _ => len - (intOf i).toNat)
      case atStart => exact ⟨0, J, d, rfl, Nat.zero_le _, rfl⟩
      case round =>
        obtain ⟨k, J, d, rfl, hk, rfl⟩ := hrel
        by_cases hlt : k < len
        · obtain ⟨_, _, hc1⟩ := H1.out
          obtain ⟨_, _, hc2⟩ := H2.out
          rcases hc1 with h0 | ⟨b1, off1, rfl, hc1⟩
          · omega
          rcases hc2 with h0 | ⟨b2, off2, rfl, hc2⟩
          · omega
          have c1 := hc1 k hlt
          have c2 := hc2 k hlt
          clear hc1 hc2
          have hbs1 := lt_of_cell c1
          have hbs2 := lt_of_cell c2
          generalize zs.getD k 0 = n at *
          go_upto_region 9 with fail
          go_quiet (fail)
          go_wp2_with fail
          go_round
          case rel => exact ⟨k + 1, J, _, by go_num, by omega, rfl⟩
          case measure => simp [intOf]; omega
        · obtain rfl : k = len := by omega
          by_cases h2 : 2 ≤ k
          · obtain ⟨_, hfit, hc2⟩ := H2.out
            rcases hc2 with h0 | ⟨b2, off2, rfl, hc2⟩
            · omega
            have c0 := hc2 0 (by omega)
            have c1 := hc2 1 (by omega)
            rw [Nat.add_zero] at c0
            obtain ⟨f0, f1⟩ := hfit 0 (by omega)
            obtain ⟨g0, g1⟩ := hfit 1 (by omega)
            clear hc2 hfit
            have hbs2 := lt_of_cell c0
            generalize zs.getD 0 0 = z0 at *
            generalize zs.getD 1 0 = z1 at *
            have A2 := Lib.hid (r_Add z0 z1 f0 f1 g0 g1)
            have A1 := Lib.hid (fun w => (w_Add z0 z1 f0 f1 g0 g1 w).mono fun e w' h => (⟨h.1, junk_of_below h.2⟩ : _ ∧ Junk w w'))
            generalize (intRes (z0 + z1)).1 = av at *
            generalize (intRes (z0 + z1)).2 = ae at *
            clear f0 f1 g0 g1
            go_upto_region 12 with fail
            refine wp_region_quiet (C := Cls wc) (by kernel_rfl) (by kernel_rfl) (cls_drew _ _ _) ?_
            refine q_move rfl _ rfl (.slice (some ⟨b2, off2, none⟩) k cap) rfl ?_
            try simp only [Act.put, List.setIfInBounds_toArray, List.set_cons_succ, List.set_cons_zero]
            refine q_val rfl (.pointer (some ⟨b2, off2, none⟩)) (fun w1 _ => by simp [execOp, Act.eval, go_sem]; intro h; omega) ?_
            try simp only [Act.put, List.setIfInBounds_toArray, List.set_cons_succ, List.set_cons_zero]
            refine q_val rfl (.int .i64 z0) (by rintro w1 ⟨J1, d1, rfl⟩; simp [execOp, Act.eval, go_sem]; rw [cell_plus _ _ _ _ _ hbs2, c0]; rfl) ?_
            try simp only [Act.put, List.setIfInBounds_toArray, List.set_cons_succ, List.set_cons_zero]
            refine q_move rfl _ rfl (.slice (some ⟨b2, off2, none⟩) k cap) rfl ?_
            try simp only [Act.put, List.setIfInBounds_toArray, List.set_cons_succ, List.set_cons_zero]
            refine q_val rfl (.pointer (some ⟨b2, off2 + 1, none⟩)) (fun w1 _ => by simp [execOp, Act.eval, go_sem]; intro h; omega) ?_
            try simp only [Act.put, List.setIfInBounds_toArray, List.set_cons_succ, List.set_cons_zero]
            refine q_val rfl (.int .i64 z1) (by rintro w1 ⟨J1, d1, rfl⟩; simp [execOp, Act.eval, go_sem]; rw [cell_plus _ _ _ _ _ hbs2, c1]; rfl) ?_
            try simp only [Act.put, List.setIfInBounds_toArray, List.set_cons_succ, List.set_cons_zero]
            refine q_call rfl 21 _ _ rfl #[.int .i64 z0, .int .i64 z1] (by simp [Act.eval]) (fun _ => by kernel_rfl) _ A1.out ?_
            try simp only [Act.put, List.setIfInBounds_toArray, List.set_cons_succ, List.set_cons_zero]
            refine q_move rfl _ rfl (.tuple #[.int .i64 av, .int .i64 ae]) rfl ?_
            try simp only [Act.put, List.setIfInBounds_toArray, List.set_cons_succ, List.set_cons_zero]
            refine q_val rfl (.int .i64 av) (fun w1 _ => by simp [execOp, Act.eval, go_sem]; done) ?_
            try simp only [Act.put, List.setIfInBounds_toArray, List.set_cons_succ, List.set_cons_zero]
            refine q_val rfl (.int .i64 ae) (fun w1 _ => by simp [execOp, Act.eval, go_sem]; done) ?_
            try simp only [Act.put, List.setIfInBounds_toArray, List.set_cons_succ, List.set_cons_zero]
            refine q_assign rfl _ rfl (.int .i64 av) rfl ?_
            try simp only [Act.put, List.setIfInBounds_toArray, List.set_cons_succ, List.set_cons_zero]
            refine q_assign rfl _ rfl (.int .i64 ae) rfl ?_
            try simp only [Act.put, List.setIfInBounds_toArray, List.set_cons_succ, List.set_cons_zero]
            refine wpQuiet_nil ?_
            rintro w3 ⟨J3, d3, rfl⟩
            try simp only [Act.put, List.setIfInBounds_toArray, List.set_cons_succ, List.set_cons_zero]
            go_upto_region 13 with fail
            refine wp_region_quiet (C := Cls wc) (by kernel_rfl) (by kernel_rfl) (cls_drew _ _ _) ?_
            refine q_move rfl _ rfl (.slice (some ⟨b2, off2, none⟩) k cap) rfl ?_
            try simp only [Act.put, List.setIfInBounds_toArray, List.set_cons_succ, List.set_cons_zero]
            refine q_val rfl (.pointer (some ⟨b2, off2, none⟩)) (fun w1 _ => by simp [execOp, Act.eval, go_sem]; intro h; omega) ?_
            try simp only [Act.put, List.setIfInBounds_toArray, List.set_cons_succ, List.set_cons_zero]
            refine q_val rfl (.int .i64 z0) (by rintro w1 ⟨J1, d1, rfl⟩; simp [execOp, Act.eval, go_sem]; rw [cell_plus _ _ _ _ _ hbs2, c0]; rfl) ?_
            try simp only [Act.put, List.setIfInBounds_toArray, List.set_cons_succ, List.set_cons_zero]
            refine q_move rfl _ rfl (.slice (some ⟨b2, off2, none⟩) k cap) rfl ?_
            try simp only [Act.put, List.setIfInBounds_toArray, List.set_cons_succ, List.set_cons_zero]
            refine q_val rfl (.pointer (some ⟨b2, off2 + 1, none⟩)) (fun w1 _ => by simp [execOp, Act.eval, go_sem]; intro h; omega) ?_
            try simp only [Act.put, List.setIfInBounds_toArray, List.set_cons_succ, List.set_cons_zero]
            refine q_val rfl (.int .i64 z1) (by rintro w1 ⟨J1, d1, rfl⟩; simp [execOp, Act.eval, go_sem]; rw [cell_plus _ _ _ _ _ hbs2, c1]; rfl) ?_
            try simp only [Act.put, List.setIfInBounds_toArray, List.set_cons_succ, List.set_cons_zero]
            refine q_call rfl 22 _ _ rfl #[.int .i64 z0, .int .i64 z1] (by simp [Act.eval]) (fun _ => by kernel_rfl) _ A2.out ?_
            try simp only [Act.put, List.setIfInBounds_toArray, List.set_cons_succ, List.set_cons_zero]
            refine q_move rfl _ rfl (.tuple #[.int .i64 av, .int .i64 ae]) rfl ?_
            try simp only [Act.put, List.setIfInBounds_toArray, List.set_cons_succ, List.set_cons_zero]
            refine q_val rfl (.int .i64 av) (fun w1 _ => by simp [execOp, Act.eval, go_sem]; done) ?_
            try simp only [Act.put, List.setIfInBounds_toArray, List.set_cons_succ, List.set_cons_zero]
            refine q_val rfl (.int .i64 ae) (fun w1 _ => by simp [execOp, Act.eval, go_sem]; done) ?_
            try simp only [Act.put, List.setIfInBounds_toArray, List.set_cons_succ, List.set_cons_zero]
            refine q_assign rfl _ rfl (.int .i64 av) rfl ?_
            try simp only [Act.put, List.setIfInBounds_toArray, List.set_cons_succ, List.set_cons_zero]
            refine q_assign rfl _ rfl (.int .i64 ae) rfl ?_
            try simp only [Act.put, List.setIfInBounds_toArray, List.set_cons_succ, List.set_cons_zero]
            refine wpQuiet_nil ?_
            rintro w4 ⟨J4, d4, rfl⟩
            try simp only [Act.put, List.setIfInBounds_toArray, List.set_cons_succ, List.set_cons_zero]
            go_wp2_with fail
            refine (l_awake _).mono ?_; rintro e w' ⟨rfl, J5, d5, rfl⟩
            go_wp2
            go_ret
            exact ⟨by simp, junk_of_below (below_plus HB.out HB.out.size _ _)⟩
          · go_wp2_with fail
            refine (l_awake _).mono ?_; rintro e w' ⟨rfl, J5, d5, rfl⟩
            go_wp2
            go_ret
            exact ⟨by simp, junk_of_below (below_plus HB.out HB.out.size _ _)⟩

/-- The law's walk of a slice that came in. -/
theorem l_sums_arg {x : Addr} {len cap : Nat} {zs : List Int} {w : World} (hl : len ≤ cap) (hz : zs.length = cap) (hc : ∀ i, i < zs.length → w.cell? (x.add i) = some (.int .i64 (zs.getD i 0))) (hb : ∀ n ∈ zs, (Lit.int .i64 n).wf = true) :
    Calls Try.prog 5 #[.slice (some x) len cap] w fun e w' => e = .returned (.bool true) ∧ Below w.heap.size w w' :=
  (l_sums (some x) len cap (zs.take len) w (fun h => by cases h) (reads_arg hl hz hc hb)).mono fun e w1 ⟨h1, h2⟩ => ⟨h1, h2.below⟩
theorem l_sums_nil (w : World) : Calls Try.prog 5 #[.slice none 0 0] w fun e w' => e = .returned (.bool true) ∧ Below w.heap.size w w' :=
  (l_sums none 0 0 [] w (fun _ => ⟨rfl, rfl⟩) (reads_nil _ _)).mono fun e w1 ⟨h1, h2⟩ => ⟨h1, h2.below⟩
end Go.Proofs.Ytmhpmljkmckafaa

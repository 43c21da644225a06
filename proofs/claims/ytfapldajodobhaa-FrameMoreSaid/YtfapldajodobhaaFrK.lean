/- Contract of apportionkit's SameLists. -/
import Derived.Test.YtfapldajodobhaaFrL
import Derived.Test.YtfapldajodobhaaFrD
namespace Go.Proofs.Ytfapldajodobhaa
set_option linter.unusedVariables false
set_option linter.unusedSimpArgs false
open Go.RowKit

def SameAt (w : World) (Ls Ms : List (List UInt8)) (i : Value) (wr : World) : Prop := ∃ k : Nat, i = .int .i64 (k : Int) ∧ k ≤ Ls.length ∧ Ls.take k = Ms.take k ∧ Cls w wr

set_option maxRecDepth 100000 in
set_option maxHeartbeats 2000000 in
theorem k_SameLists (w : World) (a b : Option Addr) (n m ca cb : Nat) (Ls Ms : List (List UInt8)) (hL : LIn w a n Ls ca) (hM : LIn w b m Ms cb) :
    Calls Try.prog 22 #[.slice a n ca, .slice b m cb] w fun e w' => e = .returned (.bool (decide (Ls = Ms))) ∧ Junk w w' := by
  have l1 := hL.len_eq
  have l2 := hM.len_eq
  have s1 := hL.small
  have s2 := hM.small
  by_cases hnm : n = m
  · have e1 : ((n : Int) == (m : Int)) = true := by rw [beq_iff_eq]; omega
    have HL := Lib.hid hL
    have HM := Lib.hid hM
    obtain ⟨R, hR⟩ : ∃ R, decide (Ls = Ms) = R := ⟨_, rfl⟩
    rw [hR]
    have HR := Lib.hid hR
    subst hnm
    clear hL hM hR
    go_enter Try.func22, Try.ntmps22
    go_wp2_with fail
    go_loopw [5] (fun i wr => SameAt w Ls Ms i wr) (fun i _ => n - (intOf i).toNat)
    case atStart => exact ⟨0, rfl, by omega, by simp, ⟨#[], w.drawn, (plus_self w).symm⟩⟩
    case round =>
      obtain ⟨k, rfl, k1, hk, J, d, rfl⟩ := hrel
      by_cases hlt : k < n
      · rcases HL.out.cells with h0 | ⟨b1, o1, rfl, hc1⟩
        · omega
        rcases HM.out.cells with h0 | ⟨b2, o2, rfl, hc2⟩
        · omega
        obtain ⟨a1, n1, c1, q1, B1⟩ := hc1 k Ls[k] (by simp)
        obtain ⟨a2, n2, c2, q2, B2⟩ := hc2 k Ms[k] (by simp)
        have hb1 := World.block_lt_of_cell? _ _ q1
        have hb2 := World.block_lt_of_cell? _ _ q2
        have hB1 : b1 < w.heap.size := hb1
        have hB2 : b2 < w.heap.size := hb2
        have HS := Lib.hid (show ∀ w1, Cls w w1 → Calls Try.prog 14 #[.slice a1 n1 c1, .slice a2 n2 c2] w1 fun e w'' => e = .returned (.bool (decide (Ls[k] = Ms[k]))) ∧ Cls w w'' by
          rintro w1 ⟨J, d, rfl⟩
          exact (k_SameBytes _ a1 a2 n1 n2 c1 c2 Ls[k] Ms[k] (B1.reads.below (Junk.below ⟨J, d, rfl⟩)) (B2.reads.below (Junk.below ⟨J, d, rfl⟩))).mono fun _ _ ⟨h1, J2, d2, h2⟩ => ⟨h1, J ++ J2, d2, by rw [h2, plus_plus]⟩)
        have ht1 : Ls.take (k + 1) = Ls.take k ++ [Ls[k]] := List.take_succ_eq_append_getElem (by omega)
        have ht2 : Ms.take (k + 1) = Ms.take k ++ [Ms[k]] := List.take_succ_eq_append_getElem (by omega)
        have HK := Lib.hid (show Ls[k] = Ms[k] → Ls.take (k + 1) = Ms.take (k + 1) by intro e; rw [ht1, ht2, hk, e])
        have HN := Lib.hid (show Ls[k] ≠ Ms[k] → R = false by
          intro e
          rw [← HR.out, decide_eq_false]
          intro h
          subst h
          exact e rfl)
        obtain ⟨g, hg⟩ : ∃ g, decide (Ls[k] = Ms[k]) = g := ⟨_, rfl⟩
        rw [hg] at HS
        have HG := Lib.hid hg
        clear hb1 hb2 hc1 hc2 B1 B2 ht1 ht2 hk hg
        go_upto_region 6 with fail
        refine wp_rq6 (C := Cls w) (by kernel_rfl) (by kernel_rfl) ⟨J, _, rfl⟩ ?_
        repeat (refine wpQuiet_step (fun K hK => ?_); go_simp; first | (refine hK _ ?_; clear hK K) | (apply Exists.intro; refine ⟨?_, hK _ ?_⟩; (intro w3_ hw3_; first | (with_reducible exact rfl) | (go_simp; with_reducible exact rfl) | (with_reducible exact HS.out _ hw3_) | (obtain ⟨J3_, d3_, rfl⟩ := hw3_; go_simp; with_reducible exact rfl)); clear hK K))
        refine wpQuiet_nil ?_
        intro w3 hw3
        obtain ⟨J3, d3, rfl⟩ := hw3
        cases g
        · have hne : Ls[k] ≠ Ms[k] := of_decide_eq_false HG.out
          have HRf := Lib.hid (HN.out hne)
          clear hne
          go_wp2
          go_ret
          exact ⟨by rw [HRf.out]; rfl, ⟨_, _, rfl⟩⟩
        · have heq : Ls[k] = Ms[k] := of_decide_eq_true HG.out
          have HT := Lib.hid (HK.out heq)
          clear heq
          go_wp2_with fail
          go_roundw
          case rel => exact ⟨k + 1, by go_num, by omega, HT.out, ⟨J3, d3, rfl⟩⟩
          case measure => simp [intOf]; omega
      · obtain rfl : k = n := by omega
        have HRt := Lib.hid (show R = true by
          rw [← HR.out, decide_eq_true]
          rw [List.take_of_length_le (by omega), List.take_of_length_le (by omega)] at hk
          exact hk)
        clear hk
        go_wp2
        go_ret
        exact ⟨by rw [HRt.out]; rfl, ⟨_, _, rfl⟩⟩
  · have e1 : ((n : Int) == (m : Int)) = false := by rw [beq_eq_false_iff_ne]; omega
    have HR := Lib.hid (show decide (Ls = Ms) = false by rw [decide_eq_false]; intro h; subst h; omega)
    clear hL hM
    rw [HR.out]
    go_enter Try.func22, Try.ntmps22
    go_wp2
    go_ret
    exact ⟨rfl, junk_of_below (by (repeat' (first | (with_reducible exact Below.refl _ _) | (with_reducible assumption) | (with_reducible refine Below.alloc ?_ ?_ _) | (with_reducible refine Below.drew ?_) | (with_reducible refine below_drewN ?_ _) | (with_reducible refine below_plus ?_ ?_ _ _) | (with_reducible refine Below.setCell ?_ ?_ _) | (with_reducible refine Below.setRow ?_ ?_ _) | go_size)))⟩
end Go.Proofs.Ytfapldajodobhaa

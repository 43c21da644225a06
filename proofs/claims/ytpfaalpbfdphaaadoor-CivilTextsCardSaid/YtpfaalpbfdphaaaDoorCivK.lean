/- Contract of apportionref03.Parse. -/
import Derived.Test.YtpfaalpbfdphaaaDoorCivJ
namespace Go.Proofs.YtpfaalpbfdphaaaDoor
set_option linter.unusedVariables false
set_option linter.unusedSimpArgs false
open Go.RowKit

/-! apportionref03's. -/
/-- Which number a byte belongs to. -/
def kOf (i : Nat) : Nat := if i ≤ 4 then 0 else if i ≤ 7 then 1 else 2

set_option maxHeartbeats 8000000 in
theorem r_Parse (L : List UInt8) (w : World) (hl : L.length ≤ 1000) (r : Int × Int × Int) (hr : Hid (parseC L = r)) :
    Calls Tryd.prog 24 #[.string ⟨L.toArray⟩] w fun e w' => e = .returned (.tuple #[.int .i64 r.1, .agg #[.int .i64 r.2.1, .int .i64 r.2.2]]) ∧ Junk w w' := by
  obtain ⟨g1, g2, g3, g4⟩ := good_spec L
  have G1 := Lib.hid g1; have G2 := Lib.hid g2
  have HB := Lib.hid (fun (k : Nat) (hk : k ≤ goodTo L) => (show (0 ≤ foldD L 0 (min k 4) ∧ foldD L 0 (min k 4) ≤ 9999) ∧ (0 ≤ foldD L 5 (min (k - 5) 2) ∧ foldD L 5 (min (k - 5) 2) ≤ 9999) ∧ (0 ≤ foldD L 8 (min (k - 8) 2) ∧ foldD L 8 (min (k - 8) 2) ≤ 9999) by
    have hd : ∀ i, i < k → i ≠ 4 → i ≠ 7 → 48 ≤ byteAt L i ∧ byteAt L i ≤ 57 := fun i h h4 h7 => (ok_digit (g1 i (by omega)) h4 h7).2.2
    have h1 := foldD_bd L 0 (min k 4) (fun i hi => by rw [Nat.zero_add]; exact hd i (by omega) (by omega) (by omega)) (by omega) _ (Nat.le_refl _)
    have h2 := foldD_bd L 5 (min (k - 5) 2) (fun i hi => hd (5 + i) (by omega) (by omega) (by omega)) (by omega) _ (Nat.le_refl _)
    have h3 := foldD_bd L 8 (min (k - 8) 2) (fun i hi => hd (8 + i) (by omega) (by omega) (by omega)) (by omega) _ (Nat.le_refl _)
    exact ⟨⟨h1.1, h1.2.1⟩, ⟨h2.1, h2.2.1⟩, h3.1, h3.2.1⟩))
  have HR := Lib.hid (show r = if goodTo L < 10 ∨ 10 < L.length then (0, 4, ((goodTo L : Nat) : Int)) else ((dayRes (foldD L 0 4) (foldD L 5 2) (foldD L 8 2)).1, (dayRes (foldD L 0 4) (foldD L 5 2) (foldD L 8 2)).2, 0) from hr.out.symm)
  generalize goodTo L = M at *
  clear g1 g2 hr
  go_enter Tryd.func24, Tryd.ntmps24
  go_wp2_with fail
  go_loopw [5, 6] (fun s i wr => ∃ (k q : Nat) (a0 a1 a2 : Int) (n : Nat), i = .int .i64 k ∧ k ≤ M ∧ s = .int .i64 q ∧ q = kOf k ∧ (a0 = foldD L 0 (min k 4) ∧ a1 = foldD L 5 (min (k - 5) 2) ∧ a2 = foldD L 8 (min (k - 8) 2)) ∧ wr = ((w.alloc (.cells #[.int .i64 0, .int .i64 0] 38)).alloc (.cells #[.int .i64 a0, .int .i64 a1, .int .i64 a2] 52)).drewN n) (fun _ i _ => 10 - (intOf i).toNat)
  case atStart => exact ⟨0, 0, 0, 0, 0, 0, rfl, Nat.zero_le _, rfl, rfl, ⟨rfl, rfl, rfl⟩, rfl⟩
  case round =>
    obtain ⟨k, q, a0, a1, a2, n, rfl, hk, rfl, hq, h0, rfl⟩ := hrel
    have hb := HB.out k hk
    rw [← h0.1, ← h0.2.1, ← h0.2.2] at hb
    obtain ⟨⟨x0, x1⟩, ⟨x2, x3⟩, x4, x5⟩ := hb
    have H0 := Lib.hid h0
    clear h0
    by_cases h10 : k < 10
    · by_cases hM : k < M
      · have hok := G1.out k hM
        by_cases h4 : k = 4
        · subst h4
          obtain ⟨_, hlt, hb⟩ := ok_dash hok (.inl rfl)
          have e45 : ((byteAt L 4 : Int) == 45) = true := by rw [hb]; rfl
          have e45' : ((byteAt L 4 : Int) != 45) = false := by rw [hb]; rfl
          clear hok hb
          have HN := Lib.hid (show a0 = foldD L 0 (min (4 + 1) 4) ∧ a1 = foldD L 5 (min (4 + 1 - 5) 2) ∧ a2 = foldD L 8 (min (4 + 1 - 8) 2) from H0.out)
          obtain rfl : q = 0 := by rw [hq]; rfl
          clear hq
          go_wp2_with fail
          go_roundw
          case rel => exact ⟨4 + 1, 1, _, _, _, _, by go_num, by omega, rfl, rfl, HN.out, rfl⟩
          case measure => simp [intOf]
        by_cases h7 : k = 7
        · subst h7
          obtain ⟨_, hlt, hb⟩ := ok_dash hok (.inr rfl)
          have e45 : ((byteAt L 7 : Int) == 45) = true := by rw [hb]; rfl
          have e45' : ((byteAt L 7 : Int) != 45) = false := by rw [hb]; rfl
          clear hok hb
          have HN := Lib.hid (show a0 = foldD L 0 (min (7 + 1) 4) ∧ a1 = foldD L 5 (min (7 + 1 - 5) 2) ∧ a2 = foldD L 8 (min (7 + 1 - 8) 2) from H0.out)
          obtain rfl : q = 1 := by rw [hq]; rfl
          clear hq
          go_wp2_with fail
          go_roundw
          case rel => exact ⟨7 + 1, 2, _, _, _, _, by go_num, by omega, rfl, rfl, HN.out, rfl⟩
          case measure => simp [intOf]
        obtain ⟨_, hlt, hdig⟩ := ok_digit hok h4 h7
        clear hok
        by_cases c0 : k < 4
        · skip
          have HN := Lib.hid (show 10 * a0 + ((byteAt L k : Int) - 48) = foldD L 0 (min (k + 1) 4) ∧ a1 = foldD L 5 (min (k + 1 - 5) 2) ∧ a2 = foldD L 8 (min (k + 1 - 8) 2) by
            have := H0.out; obtain ⟨q0, q1, q2⟩ := this
            rw [q0, q1, q2]
            refine ⟨?_, ?_, ?_⟩
            · rw [show min (k + 1) 4 = k + 1 by omega, show min k 4 = k by omega, foldD, Nat.zero_add]
            · rw [show k + 1 - 5 = 0 by omega, show k - 5 = 0 by omega]
            · rw [show k + 1 - 8 = 0 by omega, show k - 8 = 0 by omega])
          obtain ⟨b0, b1⟩ := hdig
          have e4 : ((k : Int) == 4) = false := by rw [beq_eq_false_iff_ne]; omega
          have e7 : ((k : Int) == 7) = false := by rw [beq_eq_false_iff_ne]; omega
          have e45 : ((byteAt L k : Int) == 45) = false := by rw [beq_eq_false_iff_ne]; omega
          have e45' : ((byteAt L k : Int) != 45) = true := by rw [bne_iff_ne]; omega
          have e1 : IntKind.u8.wrap ((byteAt L k : Int) - 48) = (byteAt L k : Int) - 48 := by simp [IntKind.wrap, IntKind.signed, IntKind.bits]; omega
          obtain rfl : q = 0 := by rw [hq]; unfold kOf; (repeat' split) <;> omega
          clear hq
          go_upto_region 10 with fail
          go_region
          go_wp2_with fail
          go_roundw
          case rel => exact ⟨k + 1, 0, _, _, _, _, by go_num, by omega, rfl, by unfold kOf; (repeat' split) <;> omega, HN.out, rfl⟩
          case measure => simp [intOf]; omega
        by_cases c1 : k < 7
        · skip
          have HN := Lib.hid (show a0 = foldD L 0 (min (k + 1) 4) ∧ 10 * a1 + ((byteAt L k : Int) - 48) = foldD L 5 (min (k + 1 - 5) 2) ∧ a2 = foldD L 8 (min (k + 1 - 8) 2) by
            have := H0.out; obtain ⟨q0, q1, q2⟩ := this
            rw [q0, q1, q2]
            refine ⟨?_, ?_, ?_⟩
            · rw [show min (k + 1) 4 = 4 by omega, show min k 4 = 4 by omega]
            · rw [show min (k + 1 - 5) 2 = (k - 5) + 1 by omega, show min (k - 5) 2 = k - 5 by omega, foldD, show 5 + (k - 5) = k by omega]
            · rw [show k + 1 - 8 = 0 by omega, show k - 8 = 0 by omega])
          obtain ⟨b0, b1⟩ := hdig
          have e4 : ((k : Int) == 4) = false := by rw [beq_eq_false_iff_ne]; omega
          have e7 : ((k : Int) == 7) = false := by rw [beq_eq_false_iff_ne]; omega
          have e45 : ((byteAt L k : Int) == 45) = false := by rw [beq_eq_false_iff_ne]; omega
          have e45' : ((byteAt L k : Int) != 45) = true := by rw [bne_iff_ne]; omega
          have e1 : IntKind.u8.wrap ((byteAt L k : Int) - 48) = (byteAt L k : Int) - 48 := by simp [IntKind.wrap, IntKind.signed, IntKind.bits]; omega
          obtain rfl : q = 1 := by rw [hq]; unfold kOf; (repeat' split) <;> omega
          clear hq
          go_upto_region 10 with fail
          go_region
          go_wp2_with fail
          go_roundw
          case rel => exact ⟨k + 1, 1, _, _, _, _, by go_num, by omega, rfl, by unfold kOf; (repeat' split) <;> omega, HN.out, rfl⟩
          case measure => simp [intOf]; omega
        · skip
          have HN := Lib.hid (show a0 = foldD L 0 (min (k + 1) 4) ∧ a1 = foldD L 5 (min (k + 1 - 5) 2) ∧ 10 * a2 + ((byteAt L k : Int) - 48) = foldD L 8 (min (k + 1 - 8) 2) by
            have := H0.out; obtain ⟨q0, q1, q2⟩ := this
            rw [q0, q1, q2]
            refine ⟨?_, ?_, ?_⟩
            · rw [show min (k + 1) 4 = 4 by omega, show min k 4 = 4 by omega]
            · rw [show min (k + 1 - 5) 2 = 2 by omega, show min (k - 5) 2 = 2 by omega]
            · rw [show min (k + 1 - 8) 2 = (k - 8) + 1 by omega, show min (k - 8) 2 = k - 8 by omega, foldD, show 8 + (k - 8) = k by omega])
          obtain ⟨b0, b1⟩ := hdig
          have e4 : ((k : Int) == 4) = false := by rw [beq_eq_false_iff_ne]; omega
          have e7 : ((k : Int) == 7) = false := by rw [beq_eq_false_iff_ne]; omega
          have e45 : ((byteAt L k : Int) == 45) = false := by rw [beq_eq_false_iff_ne]; omega
          have e45' : ((byteAt L k : Int) != 45) = true := by rw [bne_iff_ne]; omega
          have e1 : IntKind.u8.wrap ((byteAt L k : Int) - 48) = (byteAt L k : Int) - 48 := by simp [IntKind.wrap, IntKind.signed, IntKind.bits]; omega
          obtain rfl : q = 2 := by rw [hq]; unfold kOf; (repeat' split) <;> omega
          clear hq
          go_upto_region 10 with fail
          go_region
          go_wp2_with fail
          go_roundw
          case rel => exact ⟨k + 1, 2, _, _, _, _, by go_num, by omega, rfl, by unfold kOf; (repeat' split) <;> omega, HN.out, rfl⟩
          case measure => simp [intOf]; omega
      · obtain rfl : k = M := by omega
        have hbad := G2.out
        have hres : r = (0, 4, (k : Int)) := by rw [HR.out, if_pos (.inl h10)]
        subst hres
        clear hq
        unfold okAt at hbad
        rw [decide_eq_true h10, Bool.true_and] at hbad
        by_cases hlt : k < L.length
        · rw [decide_eq_true hlt, Bool.true_and] at hbad
          by_cases h47 : k = 4 ∨ k = 7
          · rw [if_pos h47] at hbad
            have hbad := of_decide_eq_false hbad
            have e45 : ((byteAt L k : Int) == 45) = false := by rw [beq_eq_false_iff_ne]; omega
            clear hbad
            rcases h47 with rfl | rfl
            · skip
              go_wp2
              refine bodyPost_ret (results_fault rfl _ _ w.heap.size #[.int .i64 4, .int .i64 4] rfl (by simp [go_sem]) rfl) rfl ⟨rfl, junk_of_below (by (repeat' (first | (with_reducible exact Below.refl _ _) | (with_reducible assumption) | (with_reducible refine Below.alloc ?_ ?_ _) | (with_reducible refine Below.drew ?_) | (with_reducible refine below_drewN ?_ _) | (with_reducible refine below_plus ?_ ?_ _ _) | (with_reducible refine Below.setCell ?_ ?_ _) | (with_reducible refine Below.setRow ?_ ?_ _) | go_size)))⟩
            · skip
              go_wp2
              refine bodyPost_ret (results_fault rfl _ _ w.heap.size #[.int .i64 4, .int .i64 7] rfl (by simp [go_sem]) rfl) rfl ⟨rfl, junk_of_below (by (repeat' (first | (with_reducible exact Below.refl _ _) | (with_reducible assumption) | (with_reducible refine Below.alloc ?_ ?_ _) | (with_reducible refine Below.drew ?_) | (with_reducible refine below_drewN ?_ _) | (with_reducible refine below_plus ?_ ?_ _ _) | (with_reducible refine Below.setCell ?_ ?_ _) | (with_reducible refine Below.setRow ?_ ?_ _) | go_size)))⟩
          · rw [if_neg h47] at hbad
            have hbad := of_decide_eq_false hbad
            have e4 : ((k : Int) == 4) = false := by rw [beq_eq_false_iff_ne]; omega
            have e7 : ((k : Int) == 7) = false := by rw [beq_eq_false_iff_ne]; omega
            by_cases h45 : byteAt L k = 45
            · have e45 : ((byteAt L k : Int) == 45) = true := by rw [h45]; rfl
              have e45' : ((byteAt L k : Int) != 45) = false := by rw [h45]; rfl
              clear hbad h47 h45
              go_wp2
              refine bodyPost_ret (results_fault rfl _ _ w.heap.size #[.int .i64 4, .int .i64 k] rfl (by simp [go_sem]) rfl) rfl ⟨rfl, junk_of_below (by (repeat' (first | (with_reducible exact Below.refl _ _) | (with_reducible assumption) | (with_reducible refine Below.alloc ?_ ?_ _) | (with_reducible refine Below.drew ?_) | (with_reducible refine below_drewN ?_ _) | (with_reducible refine below_plus ?_ ?_ _ _) | (with_reducible refine Below.setCell ?_ ?_ _) | (with_reducible refine Below.setRow ?_ ?_ _) | go_size)))⟩
            · have e45 : ((byteAt L k : Int) == 45) = false := by rw [beq_eq_false_iff_ne]; omega
              have e45' : ((byteAt L k : Int) != 45) = true := by rw [bne_iff_ne]; omega
              by_cases h48 : byteAt L k < 48
              · clear hbad h47 h45
                go_wp2
                refine bodyPost_ret (results_fault rfl _ _ w.heap.size #[.int .i64 4, .int .i64 k] rfl (by simp [go_sem]) rfl) rfl ⟨rfl, junk_of_below (by (repeat' (first | (with_reducible exact Below.refl _ _) | (with_reducible assumption) | (with_reducible refine Below.alloc ?_ ?_ _) | (with_reducible refine Below.drew ?_) | (with_reducible refine below_drewN ?_ _) | (with_reducible refine below_plus ?_ ?_ _ _) | (with_reducible refine Below.setCell ?_ ?_ _) | (with_reducible refine Below.setRow ?_ ?_ _) | go_size)))⟩
              · have h57 : 57 < byteAt L k := by omega
                clear hbad h47 h45
                go_wp2
                refine bodyPost_ret (results_fault rfl _ _ w.heap.size #[.int .i64 4, .int .i64 k] rfl (by simp [go_sem]) rfl) rfl ⟨rfl, junk_of_below (by (repeat' (first | (with_reducible exact Below.refl _ _) | (with_reducible assumption) | (with_reducible refine Below.alloc ?_ ?_ _) | (with_reducible refine Below.drew ?_) | (with_reducible refine below_drewN ?_ _) | (with_reducible refine below_plus ?_ ?_ _ _) | (with_reducible refine Below.setCell ?_ ?_ _) | (with_reducible refine Below.setRow ?_ ?_ _) | go_size)))⟩
        · clear hbad
          go_wp2
          refine bodyPost_ret (results_fault rfl _ _ w.heap.size #[.int .i64 4, .int .i64 k] rfl (by simp [go_sem]) rfl) rfl ⟨rfl, junk_of_below (by (repeat' (first | (with_reducible exact Below.refl _ _) | (with_reducible assumption) | (with_reducible refine Below.alloc ?_ ?_ _) | (with_reducible refine Below.drew ?_) | (with_reducible refine below_drewN ?_ _) | (with_reducible refine below_plus ?_ ?_ _ _) | (with_reducible refine Below.setCell ?_ ?_ _) | (with_reducible refine Below.setRow ?_ ?_ _) | go_size)))⟩
    · obtain rfl : k = 10 := by omega
      obtain rfl : M = 10 := by omega
      obtain ⟨q0, q1, q2⟩ := H0.out
      clear hq
      by_cases hlen : 10 < L.length
      · have hres : r = (0, 4, 10) := by rw [HR.out, if_pos (.inr hlen)]; rfl
        subst hres
        clear q0 q1 q2
        go_wp2
        refine bodyPost_ret (results_fault rfl _ _ w.heap.size #[.int .i64 4, .int .i64 10] rfl (by simp [go_sem]) rfl) rfl ⟨rfl, junk_of_below (by (repeat' (first | (with_reducible exact Below.refl _ _) | (with_reducible assumption) | (with_reducible refine Below.alloc ?_ ?_ _) | (with_reducible refine Below.drew ?_) | (with_reducible refine below_drewN ?_ _) | (with_reducible refine below_plus ?_ ?_ _ _) | (with_reducible refine Below.setCell ?_ ?_ _) | (with_reducible refine Below.setRow ?_ ?_ _) | go_size)))⟩
      · have hl10 : L.length = 10 := by omega
        have HD := Lib.hid (r_Day a0 a1 a2)
        have hres : r = ((dayRes a0 a1 a2).1, (dayRes a0 a1 a2).2, 0) := by rw [HR.out, if_neg (by omega), q0, q1, q2]; rfl
        generalize dayRes a0 a1 a2 = p at *
        obtain ⟨a, b⟩ := p
        subst hres
        clear q0 q1 q2
        go_wp2_with fail
        refine (HD.out _).mono ?_; rintro e w' ⟨rfl, rfl⟩
        go_wp2
        refine bodyPost_ret (results_fault rfl _ _ w.heap.size #[.int .i64 b, .int .i64 0] rfl (by simp [go_sem]) rfl) rfl ⟨rfl, junk_of_below (by (repeat' (first | (with_reducible exact Below.refl _ _) | (with_reducible assumption) | (with_reducible refine Below.alloc ?_ ?_ _) | (with_reducible refine Below.drew ?_) | (with_reducible refine below_drewN ?_ _) | (with_reducible refine below_plus ?_ ?_ _ _) | (with_reducible refine Below.setCell ?_ ?_ _) | (with_reducible refine Below.setRow ?_ ?_ _) | go_size)))⟩
end Go.Proofs.YtpfaalpbfdphaaaDoor

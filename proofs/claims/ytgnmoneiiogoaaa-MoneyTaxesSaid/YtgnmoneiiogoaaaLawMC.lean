/- The law MoneyCumulates, given what money's functions answer. -/
import Derived.Test.YtgnmoneiiogoaaaLawMT
import Derived.Test.YtgnmoneiiogoaaaMonQ
import Derived.Test.YtgnmoneiiogoaaaSums
import Derived.Test.YtgnmoneiiogoaaaKitA
import Derived.Deep.DeepCutAuto
namespace Go.Proofs.Ytgnmoneiiogoaaa
set_option linter.unusedVariables false
set_option linter.unusedSimpArgs false
open Go.RowKit

set_option maxRecDepth 100000 in
set_option maxHeartbeats 4000000 in
theorem l_moneyCumulates (O : MonOk) (A : AwakeOk) (t : Int) (a : Option Addr) (len cap : Nat) (zs : List Int) (w : World) (ht : (Lit.int .i64 t).wf = true) (hr : Reads w a len zs) :
    Calls Try.prog 6 #[.int .i64 t, .slice a len cap] w fun e w' => e = .returned (.bool true) ∧ Junk w w' := by
  obtain ⟨t0, t1⟩ := bounds_i64 ht
  clear ht
  have HR := Lib.hid hr; clear hr
  go_enter Try.func6, Try.ntmps6
  go_wp2_with fail
  refine (A _).mono ?_; rintro e w' ⟨rfl, Ja, da, rfl⟩
  by_cases h1 : t < 0
  · go_wp2
    go_ret
    exact ⟨rfl, junk_of_below (by (repeat' (first | (with_reducible exact Below.refl _ _) | (with_reducible assumption) | (with_reducible refine Below.alloc ?_ ?_ _) | (with_reducible refine Below.drew ?_) | (with_reducible refine below_drewN ?_ _) | (with_reducible refine below_plus ?_ ?_ _ _) | (with_reducible refine Below.setCell ?_ ?_ _) | (with_reducible refine Below.setRow ?_ ?_ _) | go_size)))⟩
  by_cases h2 : 1099511627775 < t
  · go_wp2
    go_ret
    exact ⟨rfl, junk_of_below (by (repeat' (first | (with_reducible exact Below.refl _ _) | (with_reducible assumption) | (with_reducible refine Below.alloc ?_ ?_ _) | (with_reducible refine Below.drew ?_) | (with_reducible refine below_drewN ?_ _) | (with_reducible refine below_plus ?_ ?_ _ _) | (with_reducible refine Below.setCell ?_ ?_ _) | (with_reducible refine Below.setRow ?_ ?_ _) | go_size)))⟩
  by_cases h3 : 100 < len
  · go_wp2
    go_ret
    exact ⟨rfl, junk_of_below (by (repeat' (first | (with_reducible exact Below.refl _ _) | (with_reducible assumption) | (with_reducible refine Below.alloc ?_ ?_ _) | (with_reducible refine Below.drew ?_) | (with_reducible refine below_drewN ?_ _) | (with_reducible refine below_plus ?_ ?_ _ _) | (with_reducible refine Below.setCell ?_ ?_ _) | (with_reducible refine Below.setRow ?_ ?_ _) | go_size)))⟩
  obtain ⟨hzl, hzb, hzc⟩ := HR.out
  have HZL := Lib.hid hzl; have HZC := Lib.hid hzc
  clear HR hzl hzc hzb
  go_wp2_with fail
  go_loopw [6, 7] (fun s i wr => ∃ k : Nat, i = .int .i64 k ∧ k ≤ len ∧ s = .int .i64 (sumL (zs.take k)) ∧ (∀ j, j < k → 0 ≤ zs.getD j 0 ∧ zs.getD j 0 ≤ 1073741824) ∧ wr = w.plus Ja da) (fun _ i _ => len - (intOf i).toNat)
  case atStart => exact ⟨0, rfl, Nat.zero_le _, by simp [sumL], fun j h => by omega, rfl⟩
  case round =>
    obtain ⟨k, rfl, hk, rfl, hall, rfl⟩ := hrel
    by_cases hlt : k < len
    · rcases HZC.out with h0 | ⟨b, off, rfl, hc⟩
      · omega
      have c1 := hc k hlt
      clear hc
      have s1 := lt_of_cell' c1
      have HT := Lib.hid (sumL_take zs k (by rw [HZL.out]; exact hlt))
      have hsb := sumL_nonneg (zs.take k) 1073741824 (fun i hi => by
        have hik : i < k := by simp at hi; omega
        have e : (zs.take k).getD i 0 = zs.getD i 0 := by simp [List.getD_eq_getElem?_getD, List.getElem?_take_of_lt hik]
        rw [e]; exact hall i hik) k (by simp; rw [HZL.out]; omega)
      rw [List.take_take, Nat.min_self] at hsb
      obtain ⟨sb0, sb1⟩ := hsb
      have HA := Lib.hid hall; clear hall
      obtain ⟨z, hz⟩ : ∃ z, z = zs.getD k 0 := ⟨_, rfl⟩
      rw [← hz] at c1 HT
      have HZ := Lib.hid hz; clear hz
      have hs2 : sumL (zs.take k) ≤ 107374182400 := by omega
      clear sb1
      generalize hse : sumL (zs.take k) = s at *
      clear hse
      by_cases z0 : z < 0
      · go_wp2
        go_ret
        exact ⟨rfl, junk_of_below (by (repeat' (first | (with_reducible exact Below.refl _ _) | (with_reducible assumption) | (with_reducible refine Below.alloc ?_ ?_ _) | (with_reducible refine Below.drew ?_) | (with_reducible refine below_drewN ?_ _) | (with_reducible refine below_plus ?_ ?_ _ _) | (with_reducible refine Below.setCell ?_ ?_ _) | (with_reducible refine Below.setRow ?_ ?_ _) | go_size)))⟩
      by_cases z1 : 1073741824 < z
      · go_wp2
        go_ret
        exact ⟨rfl, junk_of_below (by (repeat' (first | (with_reducible exact Below.refl _ _) | (with_reducible assumption) | (with_reducible refine Below.alloc ?_ ?_ _) | (with_reducible refine Below.drew ?_) | (with_reducible refine below_drewN ?_ _) | (with_reducible refine below_plus ?_ ?_ _ _) | (with_reducible refine Below.setCell ?_ ?_ _) | (with_reducible refine Below.setRow ?_ ?_ _) | go_size)))⟩
      go_wp2_with fail
      go_round
      case rel => exact ⟨k + 1, by go_num, by omega, by rw [HT.out], fun j hj => by
        by_cases e : j = k
        · rw [e, ← HZ.out]; omega
        · exact HA.out j (by omega), trivial⟩
      case measure => simp [intOf]; omega
    · obtain rfl : k = len := by omega
      have htk : zs.take k = zs := List.take_of_length_le (by rw [HZL.out]; exact Nat.le_refl _)
      have hb : ∀ i, i < zs.length → 0 ≤ zs.getD i 0 ∧ zs.getD i 0 ≤ 1073741824 := fun i hi => hall i (by rw [HZL.out] at hi; exact hi)
      have hW := sumL_nonneg zs 1073741824 hb k (by rw [HZL.out]; exact Nat.le_refl _)
      have HM := Lib.hid (fun j (h : j ≤ k) => sumL_mono zs (fun i hi => (hb i hi).1) j k h (by rw [HZL.out]; exact Nat.le_refl _))
      have HN := Lib.hid (fun j (h : j ≤ k) => (sumL_nonneg zs 1073741824 hb j (by rw [HZL.out]; exact h)).1)
      have HMS := Lib.hid (fun j (h : j < k) => sumL_mono zs (fun i hi => (hb i hi).1) j (j + 1) (by omega) (by rw [HZL.out]; omega))
      have HB := Lib.hid hb
      rw [htk] at hW ⊢
      have HTK := Lib.hid htk
      clear hall htk hb hk hlt
      obtain ⟨W0, W1⟩ := hW
      have W2 : sumL zs ≤ 107374182400 := by omega
      clear W1
      generalize hWe : sumL zs = W at *
      have HWE := Lib.hid hWe; clear hWe
      by_cases hw0 : W = 0
      · subst hw0
        go_wp2
        go_ret
        exact ⟨rfl, junk_of_below (by (repeat' (first | (with_reducible exact Below.refl _ _) | (with_reducible assumption) | (with_reducible refine Below.alloc ?_ ?_ _) | (with_reducible refine Below.drew ?_) | (with_reducible refine below_drewN ?_ _) | (with_reducible refine below_plus ?_ ?_ _ _) | (with_reducible refine Below.setCell ?_ ?_ _) | (with_reducible refine Below.setRow ?_ ?_ _) | go_size)))⟩
      have hwb : (W == 0) = false := by rw [beq_eq_false_iff_ne]; exact hw0
      have W3 : 1 ≤ W := by omega
      clear hw0
      go_wp2_with fail
      go_loopw [8, 9, 10, 11, 12] (fun p l i _ _ wr => ∃ (j : Nat) (J : Array Obj) (d : Nat), i = .int .i64 j ∧ j ≤ k ∧ p = .int .i64 (sumL (zs.take j)) ∧ l = .int .i64 (evenQ t (sumL (zs.take j)) W) ∧ wr = w.plus J d) (fun _ _ i _ _ _ => k - (intOf i).toNat)
      case atStart => exact ⟨0, Ja, da, rfl, Nat.zero_le _, by simp [sumL], by rw [show sumL (zs.take 0) = 0 by simp [sumL], evenQ_exact t 0 W 0 (by omega) (by simp)], rfl⟩
      case round =>
        obtain ⟨j, J, d, rfl, hj, rfl, rfl, rfl⟩ := hrel
        by_cases hlt : j < k
        · rcases HZC.out with h0 | ⟨b, off, rfl, hc⟩
          · omega
          have c1 := hc j hlt
          clear hc
          have s1 := lt_of_cell' c1
          have HT := Lib.hid (sumL_take zs j (by rw [HZL.out]; exact hlt))
          have n0 := HN.out j (by omega)
          have n1 := HM.out (j + 1) (by omega)
          have n2 := HMS.out j hlt
          rw [HTK.out, HWE.out] at n1
          obtain ⟨q1, q2, q3⟩ := share_q t (sumL (zs.take (j + 1))) W (by omega) (by omega) (by omega) n1 W3 (by omega)
          have q4 := evenQ_mono t (sumL (zs.take j)) t (sumL (zs.take (j + 1))) W (by omega) (Int.mul_le_mul_of_nonneg_left n2 (by omega))
          have S1 := Lib.hid (fun w => O.share t (sumL (zs.take (j + 1))) W w (by omega) (by omega) (by omega) (by omega) (by omega) (by omega))
          rw [q1] at S1
          clear q1
          have hz := (HB.out j (by rw [HZL.out]; exact hlt))
          obtain ⟨z0, z1⟩ := hz
          generalize zs.getD j 0 = z at *
          generalize hse : sumL (zs.take j) = s at *
          generalize hqe : evenQ t (sumL (zs.take (j + 1))) W = q at *
          generalize evenQ t s W = l at *
          generalize hs2 : sumL (zs.take (j + 1)) = s' at *
          have HQE := Lib.hid hqe; have HS2 := Lib.hid hs2
          clear hse hqe hs2
          obtain rfl : s' = s + z := HT.out
          go_wp2_with fail
          refine (S1.out _).mono ?_; rintro e w' ⟨rfl, J2, d2, rfl⟩
          go_wp2_with fail
          go_round
          case rel => exact ⟨j + 1, _, _, by go_num, by omega, by rw [HS2.out], by rw [HS2.out, HQE.out], rfl⟩
          case measure => simp [intOf]; omega
        · obtain rfl : j = k := by omega
          rw [HTK.out, HWE.out, evenQ_exact t W W t (by omega) rfl]
          go_wp2
          go_ret
          exact ⟨by simp, junk_of_below (by (repeat' (first | (with_reducible exact Below.refl _ _) | (with_reducible assumption) | (with_reducible refine Below.alloc ?_ ?_ _) | (with_reducible refine Below.drew ?_) | (with_reducible refine below_drewN ?_ _) | (with_reducible refine below_plus ?_ ?_ _ _) | (with_reducible refine Below.setCell ?_ ?_ _) | (with_reducible refine Below.setRow ?_ ?_ _) | go_size)))⟩
end Go.Proofs.Ytgnmoneiiogoaaa

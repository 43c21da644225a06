/- Contracts of money's weigh and proportion. Conditions: the weights read as a list of ints; the numbers are in their bounds. -/
import Derived.Test.YtgnmoneiiogoaaaMonW
import Derived.Test.YtgnmoneiiogoaaaSums
import Derived.Test.YtgnmoneiiogoaaaKitA
import Derived.Test.YtgnmoneiiogoaaaNear
import Derived.Deep.DeepCutAuto
namespace Go.Proofs.Ytgnmoneiiogoaaa
set_option linter.unusedVariables false
set_option linter.unusedSimpArgs false
open Go.RowKit

/-- Can a total be split by these weights? -/
def Good (zs : List Int) : Prop := zs.length ≤ 1000 ∧ (∀ i, i < zs.length → 0 ≤ zs.getD i 0 ∧ zs.getD i 0 ≤ 1099511627775) ∧ sumL zs ≠ 0

set_option maxHeartbeats 1000000 in
theorem n_weigh (a : Option Addr) (len cap : Nat) (zs : List Int) (r1 r2 : Int) (w : World) (hr : Reads w a len zs) (hm : len ≤ 1152921504606846976) (hg : Good zs → r1 = sumL zs ∧ r2 = 0) (hb : ¬ Good zs → r1 = 0 ∧ r2 = 2) :
    Calls Try.prog 25 #[.slice a len cap] w fun e w' => e = .returned (.tuple #[.int .i64 r1, .int .i64 r2]) ∧ w = w' := by
  obtain ⟨hzl, hzb, hzc⟩ := hr
  have HZL := Lib.hid hzl; have HZC := Lib.hid hzc
  have HG := Lib.hid hg; have HB := Lib.hid hb
  clear hzl hzc hzb hg hb
  by_cases h3 : 1000 < len
  · obtain ⟨rfl, rfl⟩ := HB.out (fun h => by have := h.1; have := HZL.out; omega)
    go_enter Try.func25, Try.ntmps25
    go_wp2
    go_ret2
    exact ⟨rfl, rfl⟩
  go_enter Try.func25, Try.ntmps25
  go_wp2_with fail
  go_loopw [4, 12] (fun s i wr => ∃ k : Nat, i = .int .i64 k ∧ k ≤ len ∧ s = .int .i64 (sumL (zs.take k)) ∧ (∀ j, j < k → 0 ≤ zs.getD j 0 ∧ zs.getD j 0 ≤ 1099511627775) ∧ wr = w) (fun _ i _ => len - (intOf i).toNat)
  case atStart => exact ⟨0, rfl, Nat.zero_le _, by simp [sumL], fun j h => by omega, rfl⟩
  case round =>
    obtain ⟨k, rfl, hk, rfl, hall, rfl⟩ := hrel
    by_cases hlt : k < len
    · rcases HZC.out with h0 | ⟨b, off, rfl, hc⟩
      · omega
      have c1 := hc k hlt
      clear hc
      have HT := Lib.hid (sumL_take zs k (by rw [HZL.out]; exact hlt))
      have hsb := sumL_nonneg (zs.take k) 1099511627775 (fun i hi => by
        have hik : i < k := by simp at hi; omega
        have e : (zs.take k).getD i 0 = zs.getD i 0 := by simp [List.getD_eq_getElem?_getD, List.getElem?_take_of_lt hik]
        rw [e]; exact hall i hik) k (by simp; rw [HZL.out]; omega)
      rw [List.take_take, Nat.min_self] at hsb
      obtain ⟨sb0, sb1⟩ := hsb
      have HA := Lib.hid hall; clear hall
      obtain ⟨z, hz⟩ : ∃ z, z = zs.getD k 0 := ⟨_, rfl⟩
      rw [← hz] at c1 HT
      have HZ := Lib.hid hz; clear hz
      have hs2 : sumL (zs.take k) ≤ 1099511627775000 := by omega
      clear sb1
      generalize hse : sumL (zs.take k) = s at *
      clear hse
      by_cases z0 : z < 0
      · obtain ⟨rfl, rfl⟩ := HB.out (fun h => by have h1 := h.2.1 k (by rw [HZL.out]; exact hlt); rw [← HZ.out] at h1; omega)
        go_wp2
        go_ret2
        exact ⟨rfl, rfl⟩
      by_cases z1 : 1099511627775 < z
      · obtain ⟨rfl, rfl⟩ := HB.out (fun h => by have h1 := h.2.1 k (by rw [HZL.out]; exact hlt); rw [← HZ.out] at h1; omega)
        go_wp2
        go_ret2
        exact ⟨rfl, rfl⟩
      go_wp2_with fail
      go_roundw
      case rel => exact ⟨k + 1, by go_num, by omega, by rw [HT.out], fun j hj => by
        by_cases e : j = k
        · rw [e, ← HZ.out]; omega
        · exact HA.out j (by omega), trivial⟩
      case measure => simp [intOf]; omega
    · obtain rfl : k = len := by omega
      have htk : zs.take k = zs := List.take_of_length_le (by rw [HZL.out]; exact Nat.le_refl _)
      rw [htk]
      have HA := Lib.hid hall
      clear hall htk
      by_cases hs : sumL zs = 0
      · obtain ⟨rfl, rfl⟩ := HB.out (fun h => h.2.2 hs)
        rw [hs]
        go_wp2
        go_ret2
        exact ⟨rfl, rfl⟩
      · obtain ⟨rfl, rfl⟩ := HG.out ⟨by rw [HZL.out]; omega, fun i hi => HA.out i (by rw [HZL.out] at hi; exact hi), hs⟩
        have hwb : (sumL zs == 0) = false := by rw [beq_eq_false_iff_ne]; exact hs
        generalize hse : sumL zs = s at *
        have HSE := Lib.hid hse; clear hse
        go_wp2
        go_ret2
        exact ⟨ret2 (by rw [HSE.out]) rfl, rfl⟩

theorem good_sum {zs : List Int} (h : Good zs) : 1 ≤ sumL zs ∧ sumL zs ≤ 1099511627775000 := by
  obtain ⟨h1, h2, h3⟩ := h
  have h4 := sumL_nonneg zs 1099511627775 h2 zs.length (Nat.le_refl _)
  rw [List.take_length] at h4
  omega

theorem floor_pos (t z W : Int) (t0 : 0 ≤ t) (z0 : 0 ≤ z) (zW : z ≤ W) (W0 : 1 ≤ W) (t1 : t ≤ 1099511627775) : floorRes t z W = (t * z / W, 0) := by
  rw [floorRes_val t z W (by omega)]
  obtain ⟨h1, h2⟩ := floor_near t z W (by omega)
  rw [sgn_pos (show 0 < W by omega), Int.one_mul] at h1 h2
  generalize qVal t z W (floorUp t z W) = q at *
  have e : q = t * z / W := by
    have a1 : q ≤ t * z / W := Int.le_ediv_of_mul_le (by omega) (by omega)
    have a2 : t * z / W < q + 1 := Int.ediv_lt_of_lt_mul (by omega) (by rw [Int.add_mul, Int.one_mul]; omega)
    omega
  have b0 : 0 ≤ t * z / W := Int.ediv_nonneg (Int.mul_nonneg t0 z0) (by omega)
  have b1 : t * z / W ≤ t := Int.ediv_le_of_le_mul (by omega) (Int.mul_le_mul_of_nonneg_left zW t0)
  rw [e]; exact intRes_in _ (by omega) (by omega)

set_option maxHeartbeats 1000000 in
theorem n_prop (t z W : Int) (t0 : 0 ≤ t) (t1 : t ≤ 1099511627775) (z0 : 0 ≤ z) (z1 : z ≤ 1099511627775) (zW : z ≤ W) (W0 : 1 ≤ W) (W1 : W ≤ 1099511627775000) (w : World) :
    Calls Try.prog 40 #[.int .i64 t, .int .i64 z, .int .i64 W] w fun e w' => e = .returned (.tuple #[.int .i64 (t * z / W), .int .i64 (t * z % W)]) ∧ Junk w w' := by
  have HF := Lib.hid (fun w => (w_Floor t z W (by omega) (by omega) (by omega) (by omega) (by omega) (by omega) w).mono fun e w' h => (⟨h.1, junk_of_below h.2⟩ : _ ∧ Junk w w'))
  rw [floor_pos t z W t0 z0 zW W0 t1] at HF
  have r0 := Int.emod_nonneg (t * z) (show W ≠ 0 by omega)
  have r1 := Int.emod_lt_of_pos (t * z) (show 0 < W by omega)
  have hd := Int.mul_ediv_add_emod (t * z) W
  have hc := Int.mul_comm W (t * z / W)
  generalize hq : t * z / W = q at *
  generalize hr : t * z % W = r at *
  generalize hP : t * z = P at *
  clear hq hr 
  go_enter Try.func40, Try.ntmps40
  go_wp2_with fail
  refine (HF.out _).mono ?_; rintro e w' ⟨rfl, J, d, rfl⟩
  go_wp2_with fail
  go_ret2
  refine ⟨ret2 rfl ?_, junk_of_below (by (repeat' (first | (with_reducible exact Below.refl _ _) | (with_reducible assumption) | (with_reducible refine Below.alloc ?_ ?_ _) | (with_reducible refine Below.drew ?_) | (with_reducible refine below_drewN ?_ _) | (with_reducible refine below_plus ?_ ?_ _ _) | (with_reducible refine Below.setCell ?_ ?_ _) | (with_reducible refine Below.setRow ?_ ?_ _) | go_size)))⟩
  generalize q * W = Q at *
  unfold wrap64; omega
end Go.Proofs.Ytgnmoneiiogoaaa

/- Contracts of period's isComplete, scan. -/
import Derived.Test.YtlbbampmonkleaaDoorPerP2
namespace Go.Proofs.YtlbbampmonkleaaDoor
set_option linter.unusedVariables false
set_option linter.unusedSimpArgs false
open Go.RowKit

def ComplAt (L : List UInt8) : Bool := decide (L.length = 4 ∨ (6 ≤ L.length ∧ L.length = 6 + dOf (kd (byteAt L 5))))

theorem n_isComplete (L : List UInt8) (hl : L.length ≤ 1000) (w : World) :
    Calls Tryd.prog 50 #[.string ⟨L.toArray⟩] w fun e w' => e = .returned (.bool (ComplAt L)) ∧ Junk w w' := by
  unfold ComplAt
  by_cases c6 : L.length < 6
  · rw [show decide (L.length = 4 ∨ (6 ≤ L.length ∧ L.length = 6 + dOf (kd (byteAt L 5)))) = decide (L.length = 4) from decide_eq_decide.2 (by omega)]
    have e4 : ((L.length : Int) == 4) = decide (L.length = 4) := by
      by_cases h : L.length = 4
      · simp [h]
      · rw [decide_eq_false h]; exact beq_eq_false_iff_ne.2 (by omega)
    go_enter Tryd.func50, Tryd.ntmps50
    go_wp2
    go_ret
    exact ⟨by first | rfl | (simp [*]; done), junk_of_below (by (repeat' (first | (with_reducible exact Below.refl _ _) | (with_reducible assumption) | (with_reducible refine Below.alloc ?_ ?_ _) | (with_reducible refine Below.drew ?_) | (with_reducible refine below_drewN ?_ _) | (with_reducible refine below_plus ?_ ?_ _ _) | (with_reducible refine Below.setCell ?_ ?_ _) | (with_reducible refine Below.setRow ?_ ?_ _) | go_size)))⟩
  · have HK5 := Lib.hid (n_kindOf (byteAt L 5) (byte_lt _ _))
    generalize kd (byteAt L 5) = k at *
    have HDO := n_digitsOf (k : Int)
    rw [show (if (k : Int) = 1 then 2 else 1 : Int) = (dOf k : Int) by unfold dOf; by_cases h : k = 1 <;> simp [h]; omega] at HDO
    have HDO := Lib.hid HDO
    obtain ⟨d1, d2⟩ := dOf_bd k
    generalize dOf k = d at *
    rw [show decide (L.length = 4 ∨ (6 ≤ L.length ∧ L.length = 6 + d)) = decide (L.length = 6 + d) from decide_eq_decide.2 (by omega)]
    have e4 : ((L.length : Int) == 6 + (d : Int)) = decide (L.length = 6 + d) := by
      by_cases h : L.length = 6 + d
      · simp [h]
      · rw [decide_eq_false h]; exact beq_eq_false_iff_ne.2 (by omega)
    go_enter Tryd.func50, Tryd.ntmps50
    go_wp2_with fail
    refine (HK5.out _).mono ?_; rintro e w' ⟨rfl, rfl⟩
    go_wp2_with fail
    refine (HDO.out _).mono ?_; rintro e w' ⟨rfl, rfl⟩
    go_wp2
    go_ret
    exact ⟨by first | rfl | (simp [*]; done), junk_of_below (by (repeat' (first | (with_reducible exact Below.refl _ _) | (with_reducible assumption) | (with_reducible refine Below.alloc ?_ ?_ _) | (with_reducible refine Below.drew ?_) | (with_reducible refine below_drewN ?_ _) | (with_reducible refine below_plus ?_ ?_ _ _) | (with_reducible refine Below.setCell ?_ ?_ _) | (with_reducible refine Below.setRow ?_ ?_ _) | go_size)))⟩

theorem compl_dec (L : List UInt8) (h : stop L = L.length) : decide (Compl L) = ComplAt L := by
  unfold ComplAt
  exact decide_eq_decide.2 ⟨fun h => h.2, fun h' => ⟨h, h'⟩⟩

set_option maxHeartbeats 2000000 in
theorem n_scan (L : List UInt8) (hl : L.length ≤ 1000) (w : World) :
    Calls Tryd.prog 36 #[.string ⟨L.toArray⟩] w fun e w' => e = .returned (.tuple #[.int .i64 (stop L : Nat), .bool (decide (Compl L))]) ∧ Junk w w' := by
  obtain ⟨g1, g2, g3, g4⟩ := stop_spec L
  have G1 := Lib.hid g1; have G2 := Lib.hid g2
  have HM := Lib.hid (fun i hi hg => n_mayFollow L hl i hi hg (byteAt L i) rfl (L.take i) rfl)
  have HC := Lib.hid (n_isComplete L hl)
  have HCD := Lib.hid (compl_dec L)
  have hnc : stop L < L.length → decide (Compl L) = false := fun h => decide_eq_false fun h' => by have := h'.1; omega
  have HN := Lib.hid hnc
  generalize decide (Compl L) = c at *
  generalize stop L = M at *
  clear g1 g2 hnc
  go_enter Tryd.func36, Tryd.ntmps36
  go_wp2_with fail
  go_loopw [4, 7] (fun x i wr => ∃ k : Nat, i = .int .i64 k ∧ k ≤ M ∧ Junk w wr) (fun _ i _ => L.length - (intOf i).toNat)
  case atStart => exact ⟨0, rfl, Nat.zero_le _, Junk.refl w⟩
  case round =>
    obtain ⟨k, rfl, hk, J, dr, rfl⟩ := hrel
    by_cases hlt : k < L.length
    · have hkle : (k ≤ L.length) = True := eq_true (by omega)
      have HMk := HM.out k hlt (fun j hj => G1.out j (by omega))
      rw [show L.take k = (L.drop 0).take k by simp, ex_sub4 L 0 k k (by omega)] at HMk
      by_cases hM : k < M
      · rw [decide_eq_true (G1.out k hM).2] at HMk
        have HMk := Lib.hid HMk
        go_wp2_with fail
        refine wp_rq4 (C := fun w' => ∃ J d, w' = w.plus J d) (by kernel_rfl) (by kernel_rfl) ⟨J, dr + 1, rfl⟩ ?_
        repeat (refine wpQuiet_step (fun K hK => ?_); go_simp; first | (refine hK _ ?_; clear hK K) | (apply Exists.intro; refine ⟨?_, hK _ ?_⟩; (intro w3_ J3_ d3_ hw3_; subst hw3_; first | (with_reducible exact rfl) | (go_simp; with_reducible exact rfl) | (simp only [hkle, if_true]; (first | (with_reducible exact rfl) | (with_reducible exact ⟨rfl, rfl⟩) | (go_simp; with_reducible exact rfl))) | (go_simp; (with_reducible refine (HMk.out _).mono ?_); rintro e_ w_ ⟨rfl, J4_, d4_, rfl⟩; exact ⟨rfl, _, _, by rw [plus_plus]⟩)); clear hK K))
        refine wpQuiet_nil ?_
        intro w3 hw3
        obtain ⟨J2, dr2, rfl⟩ := hw3
        go_wp2_with fail
        go_roundw
        case rel => exact ⟨k + 1, by go_num, by omega, junk_of_below (by (repeat' (first | (with_reducible exact Below.refl _ _) | (with_reducible assumption) | (with_reducible refine Below.alloc ?_ ?_ _) | (with_reducible refine Below.drew ?_) | (with_reducible refine below_drewN ?_ _) | (with_reducible refine below_plus ?_ ?_ _ _) | (with_reducible refine Below.setCell ?_ ?_ _) | (with_reducible refine Below.setRow ?_ ?_ _) | go_size)))⟩
        case measure => simp [intOf]; omega
      · obtain rfl : k = M := by omega
        rw [decide_eq_false (fun h => G2.out ⟨hlt, h⟩)] at HMk
        have HMk := Lib.hid HMk
        have hc := HN.out hlt
        subst hc
        go_wp2_with fail
        refine wp_rq4 (C := fun w' => ∃ J d, w' = w.plus J d) (by kernel_rfl) (by kernel_rfl) ⟨J, dr + 1, rfl⟩ ?_
        repeat (refine wpQuiet_step (fun K hK => ?_); go_simp; first | (refine hK _ ?_; clear hK K) | (apply Exists.intro; refine ⟨?_, hK _ ?_⟩; (intro w3_ J3_ d3_ hw3_; subst hw3_; first | (with_reducible exact rfl) | (go_simp; with_reducible exact rfl) | (simp only [hkle, if_true]; (first | (with_reducible exact rfl) | (with_reducible exact ⟨rfl, rfl⟩) | (go_simp; with_reducible exact rfl))) | (go_simp; (with_reducible refine (HMk.out _).mono ?_); rintro e_ w_ ⟨rfl, J4_, d4_, rfl⟩; exact ⟨rfl, _, _, by rw [plus_plus]⟩)); clear hK K))
        refine wpQuiet_nil ?_
        intro w3 hw3
        obtain ⟨J2, dr2, rfl⟩ := hw3
        go_wp2_with fail
        go_ret2
        exact ⟨rfl, junk_of_below (by (repeat' (first | (with_reducible exact Below.refl _ _) | (with_reducible assumption) | (with_reducible refine Below.alloc ?_ ?_ _) | (with_reducible refine Below.drew ?_) | (with_reducible refine below_drewN ?_ _) | (with_reducible refine below_plus ?_ ?_ _ _) | (with_reducible refine Below.setCell ?_ ?_ _) | (with_reducible refine Below.setRow ?_ ?_ _) | go_size)))⟩
    · have hkl : k = L.length := by omega
      have hML : M = L.length := by omega
      have hc := HCD.out hML
      subst hc
      subst hML
      subst hkl
      go_wp2_with fail
      refine (HC.out _).mono ?_; rintro e w' ⟨rfl, J2, dr2, rfl⟩
      go_wp2_with fail
      go_ret2
      exact ⟨rfl, junk_of_below (by (repeat' (first | (with_reducible exact Below.refl _ _) | (with_reducible assumption) | (with_reducible refine Below.alloc ?_ ?_ _) | (with_reducible refine Below.drew ?_) | (with_reducible refine below_drewN ?_ _) | (with_reducible refine below_plus ?_ ?_ _ _) | (with_reducible refine Below.setCell ?_ ?_ _) | (with_reducible refine Below.setRow ?_ ?_ _) | go_size)))⟩
end Go.Proofs.YtlbbampmonkleaaDoor

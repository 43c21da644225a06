/- The law RingLong: the walk. -/
import Derived.Test.YtmofejcafbjlnaaRiS
import Derived.Test.YtmofejcafbjlnaaPick
namespace Go.Proofs.Ytmofejcafbjlnaa
set_option linter.unusedVariables false
set_option linter.unusedSimpArgs false
open Go.RowKit

def stairL (k : Nat) : List Pt := (List.range k).map (fun i : Nat => ((((i + 1) / 2 : Nat) : Int), ((i / 2 : Nat) : Int)))
theorem stair_len (k : Nat) : (stairL k).length = k := by simp [stairL]
theorem stair_next (k : Nat) : stairL (k + 1) = stairL k ++ [((((k + 1) / 2 : Nat) : Int), ((k / 2 : Nat) : Int))] := by unfold stairL; rw [List.range_succ, List.map_append]; rfl
def LnAt (W : World) (m : Nat) (v i : Value) (wr : World) : Prop := ∃ k : Nat, i = .int .i64 (k : Int) ∧ k ≤ m ∧ wr.ownsRow W.heap.size 39 2 v k (pcells (stairL k)) ∧ Below W.heap.size W wr
set_option maxRecDepth 100000 in
set_option maxHeartbeats 8000000 in
theorem l_ringLong (w : World) (x : Int) (hx : -9223372036854775808 ≤ x ∧ x ≤ 9223372036854775807) :
    Calls Try.prog 5 #[.int .i64 x] w fun e w' => e = .returned (.bool true) ∧ Junk w w' := by
  have HAw := Lib.hid l_rgAwake
  have hpk := fun w' => kp_Pick w' x 11 hx ⟨by decide, by decide⟩
  rw [if_neg (by decide)] at hpk
  have h0 := Int.emod_nonneg x (b := 11) (by decide)
  have h1 := Int.emod_lt_of_pos x (b := 11) (by decide)
  obtain ⟨p, hp⟩ : ∃ p : Nat, x % 11 = (p : Int) := ⟨(x % 11).toNat, by omega⟩
  rw [hp] at hpk h0 h1
  have HPk := Lib.hid hpk
  have hpb : p < 11 := by omega
  clear hpk h0 h1 hp hx
  obtain ⟨m, hm⟩ : ∃ m : Nat, m = 194 + p := ⟨_, rfl⟩
  have e1 : 195 + (p : Int) = (m : Int) + 1 := by omega
  have hm1 : 194 ≤ m := by omega
  have hm2 : m ≤ 204 := by omega
  have HC1 := Lib.hid (fun w' a ca h => c_rgCheck w' a (m + 1) ca (stairL m ++ [(-1, (m : Int) + 1)]) h (by omega))
  have HC2 := Lib.hid (fun w' a ca h => s_rgCheck w' a (m + 1) ca (stairL m ++ [(-1, (m : Int) + 1)]) h (by omega))
  generalize checkF (stairL m ++ [(-1, (m : Int) + 1)]) = ck at *
  obtain ⟨ce, ct⟩ := ck
  unfold fltV at HC1 HC2
  simp only at HC1 HC2
  clear hm hpb
  go_enter Try.func5, Try.ntmps5
  go_wp2_with (go_at_call 27; refine (HPk.out _).mono ?_; rintro e w1 ⟨rfl, J0, d0, rfl⟩)
  clear e1
  obtain ⟨W, hW⟩ : ∃ W, w.plus J0 d0 = W := ⟨_, rfl⟩
  have HW := Lib.hid (show Below w.heap.size w W by rw [← hW]; exact Junk.below ⟨_, _, rfl⟩)
  rw [hW]
  clear hW
  go_loopw [3, 4] (fun v i wr => LnAt W m v i wr) (fun _ i _ => m - (intOf i).toNat)
  case atStart => exact ⟨0, rfl, by omega, pnil_owns _ _, Below.refl _ _⟩
  case round =>
    obtain ⟨k, rfl, k1, hown, hB⟩ := hrel
    have HOW := Lib.hid hown
    have HB := Lib.hid hB
    have hsz2 := hB.size
    obtain ⟨wo, rfl⟩ : ∃ wo : World, wo = wr := ⟨_, rfl⟩
    clear hown hB
    by_cases hlt : k < m
    · have i1 : (k : Int) < (m : Int) := by omega
      obtain ⟨q, hq⟩ : ∃ q : Nat, (k + 1) / 2 = q := ⟨_, rfl⟩
      obtain ⟨r, hr⟩ : ∃ r : Nat, k / 2 = r := ⟨_, rfl⟩
      have HS := Lib.hid (stair_next k)
      rw [hq, hr] at HS
      have f1 : ((k : Int) + 1) / 2 = (q : Int) := by omega
      have f2 : (k : Int) / 2 = (r : Int) := by omega
      have f3 : ((k : Int) + 1).tdiv 2 = (q : Int) := by rw [Int.tdiv_eq_ediv_of_nonneg (by omega)]; exact f1
      have f4 : (k : Int).tdiv 2 = (r : Int) := by rw [Int.tdiv_eq_ediv_of_nonneg (by omega)]; exact f2
      clear hq hr
      go_wp2_with (at_builtin; refine wpList_papp rfl (.tmp 14) (.tmp 21) rfl W.heap.size _ _ (stairL k) rfl (powns_below HOW.out (by (repeat' (first | (with_reducible exact Below.refl _ _) | (with_reducible assumption) | (with_reducible refine Below.alloc ?_ ?_ _) | (with_reducible refine Below.drew ?_) | (with_reducible refine below_drewN ?_ _) | (with_reducible refine below_plus ?_ ?_ _ _) | (with_reducible refine Below.setCell ?_ ?_ _) | (with_reducible refine Below.setRow ?_ ?_ _) | go_size)))) _ (q : Int) (r : Int) rfl (by simp [go_sem]) (by simp [go_sem]) (by omega) (by simp; have := HB.out.size; omega) ?_; intro v' w' hown' hg')
      go_roundw
      case rel => exact ⟨k + 1, by go_num, by omega, by rw [HS.out]; exact hown', grown_below (B := W.heap.size) (a := W) (HB.out.trans (by (repeat' (first | (with_reducible exact Below.refl _ _) | (with_reducible assumption) | (with_reducible refine Below.alloc ?_ ?_ _) | (with_reducible refine Below.drew ?_) | (with_reducible refine below_drewN ?_ _) | (with_reducible refine below_plus ?_ ?_ _ _) | (with_reducible refine Below.setCell ?_ ?_ _) | (with_reducible refine Below.setRow ?_ ?_ _) | go_size)))) hg' (by simp; have := HB.out.size; omega) (powns_block HOW.out)⟩
      case measure => simp [intOf]; omega
    · obtain rfl : m = k := by omega
      have i1 : ¬ (m : Int) < (m : Int) := by omega
      go_wp2_with (first
        | (at_builtin; refine wpList_papp rfl (.tmp 23) (.tmp 26) rfl W.heap.size _ _ (stairL m) rfl (powns_below HOW.out (by (repeat' (first | (with_reducible exact Below.refl _ _) | (with_reducible assumption) | (with_reducible refine Below.alloc ?_ ?_ _) | (with_reducible refine Below.drew ?_) | (with_reducible refine below_drewN ?_ _) | (with_reducible refine below_plus ?_ ?_ _ _) | (with_reducible refine Below.setCell ?_ ?_ _) | (with_reducible refine Below.setRow ?_ ?_ _) | go_size)))) _ (-1) ((m : Int) + 1) rfl (by simp [go_sem]) (by simp [go_sem]) (by omega) (by simp; have := HB.out.size; omega) ?_; rintro v' w' hown' hg'; obtain ⟨a', cap', rfl, hR⟩ := prc_owns hown'; have HR := Lib.hid hR; have HB2 := Lib.hid (grown_below (B := W.heap.size) (a := W) (HB.out.trans (by (repeat' (first | (with_reducible exact Below.refl _ _) | (with_reducible assumption) | (with_reducible refine Below.alloc ?_ ?_ _) | (with_reducible refine Below.drew ?_) | (with_reducible refine below_drewN ?_ _) | (with_reducible refine below_plus ?_ ?_ _ _) | (with_reducible refine Below.setCell ?_ ?_ _) | (with_reducible refine Below.setRow ?_ ?_ _) | go_size)))) hg' (by simp; have := HB.out.size; omega) (powns_block HOW.out)); clear hown' hg' hR)
        | (go_at_call 14; refine (HC1.out _ _ _ HR.out).mono ?_; rintro e w1 ⟨rfl, J1, d1, rfl⟩)
        | (go_at_call 17; refine (HC2.out _ _ _ (HR.out.below (by (repeat' (first | (with_reducible exact Below.refl _ _) | (with_reducible assumption) | (with_reducible refine Below.alloc ?_ ?_ _) | (with_reducible refine Below.drew ?_) | (with_reducible refine below_drewN ?_ _) | (with_reducible refine below_plus ?_ ?_ _ _) | (with_reducible refine Below.setCell ?_ ?_ _) | (with_reducible refine Below.setRow ?_ ?_ _) | go_size))))).mono ?_; rintro e w1 ⟨rfl, J2, d2, rfl⟩)
        | (go_at_call 24; refine (HAw.out _).mono ?_; rintro e w1 ⟨rfl, J3, d3, rfl⟩))
      go_ret
      have hs2 := HB2.out.size
      exact ⟨by simp, junk_of_below ((HW.out.trans (HB2.out.mono HW.out.size)).trans (by have := HW.out.size; (repeat' (first | (with_reducible exact Below.refl _ _) | (with_reducible assumption) | (with_reducible refine Below.alloc ?_ ?_ _) | (with_reducible refine Below.drew ?_) | (with_reducible refine below_drewN ?_ _) | (with_reducible refine below_plus ?_ ?_ _ _) | (with_reducible refine Below.setCell ?_ ?_ _) | (with_reducible refine Below.setRow ?_ ?_ _) | go_size))))⟩
end Go.Proofs.Ytmofejcafbjlnaa

/- The law RingSames: the walk. -/
import Derived.Test.YtmofejcafbjlnaaRiP
namespace Go.Proofs.Ytmofejcafbjlnaa
set_option linter.unusedVariables false
set_option linter.unusedSimpArgs false
open Go.RowKit

set_option maxRecDepth 100000 in
set_option maxHeartbeats 4000000 in
theorem sames_big (w : World) (a b : Option Addr) (n m ca cb : Nat) (h : 210 < n ∨ 210 < m) :
    Calls Try.prog 4 #[.slice a n ca, .slice b m cb] w fun e w' => e = .returned (.bool true) ∧ Junk w w' := by
  have HB1 := Lib.hid (fun w' => l_rgBig a n ca w')
  have HB2 := Lib.hid (fun w' => l_rgBig b m cb w')
  rcases (show 210 < n ∨ (¬ 210 < n ∧ 210 < m) by omega) with h1 | ⟨h1, h2⟩
  · rw [decide_eq_true h1] at HB1
    clear h h1
    go_enter Try.func4, Try.ntmps4
    go_wp2_with (go_at_call 11; (first | (with_reducible refine (HB1.out _).mono ?_; clear HB1) | (with_reducible refine (HB2.out _).mono ?_)); rintro e w1 ⟨rfl, rfl⟩)
    go_ret
    exact ⟨rfl, junk_of_below (by (repeat' (first | (with_reducible exact Below.refl _ _) | (with_reducible assumption) | (with_reducible refine Below.alloc ?_ ?_ _) | (with_reducible refine Below.drew ?_) | (with_reducible refine below_drewN ?_ _) | (with_reducible refine below_plus ?_ ?_ _ _) | (with_reducible refine Below.setCell ?_ ?_ _) | (with_reducible refine Below.setRow ?_ ?_ _) | go_size)))⟩
  · rw [decide_eq_false h1] at HB1
    rw [decide_eq_true h2] at HB2
    clear h h1 h2
    go_enter Try.func4, Try.ntmps4
    go_wp2_with (go_at_call 11; (first | (with_reducible refine (HB1.out _).mono ?_; clear HB1) | (with_reducible refine (HB2.out _).mono ?_)); rintro e w1 ⟨rfl, rfl⟩)
    go_ret
    exact ⟨rfl, junk_of_below (by (repeat' (first | (with_reducible exact Below.refl _ _) | (with_reducible assumption) | (with_reducible refine Below.alloc ?_ ?_ _) | (with_reducible refine Below.drew ?_) | (with_reducible refine below_drewN ?_ _) | (with_reducible refine below_plus ?_ ?_ _ _) | (with_reducible refine Below.setCell ?_ ?_ _) | (with_reducible refine Below.setRow ?_ ?_ _) | go_size)))⟩
theorem spt (K : List Pt) (n : Nat) (hn : n ≤ 400) (w : World) (a b : Option Addr) (ca cb : Nat) (h1 : PRC w a n ca K) (h2 : PRC w b n cb K) : Calls Try.prog 20 #[.slice a n ca, .slice b n cb] w fun e w' => e = .returned (.bool true) ∧ Junk w w' := sp_pt K n hn w a b ca cb h1 h2
set_option maxRecDepth 100000 in
set_option maxHeartbeats 8000000 in
theorem sames_in (w : World) (a b : Option Addr) (n m ca cb : Nat) (K M : List Pt) (hK : PRC w a n ca K) (hM : PRC w b m cb M) (hz : a = none → n = 0 ∧ ca = 0) (hz2 : b = none → m = 0 ∧ cb = 0) (h1 : ¬ 210 < n) (h2 : ¬ 210 < m) :
    Calls Try.prog 4 #[.slice a n ca, .slice b m cb] w fun e w' => e = .returned (.bool true) ∧ Junk w w' := by
  have HAw := Lib.hid l_rgAwake
  have HB1 := Lib.hid (fun w' => l_rgBig a n ca w')
  have HB2 := Lib.hid (fun w' => l_rgBig b m cb w')
  rw [decide_eq_false h1] at HB1
  rw [decide_eq_false h2] at HB2
  have HS1 := Lib.hid (fun w' a' b' ca' cb' h1' h2' => c_rgSame w' a' b' n m ca' cb' K M h1' h2' (by omega) (by omega))
  have HS2 := Lib.hid (fun w' h1' h2' => s_rgSame w' a b n m ca cb K M h1' h2' (by omega) (by omega))
  have HP1 := Lib.hid (fun w' a' b' ca' cb' h1' h2' => spt K n (by omega) w' a' b' ca' cb' h1' h2')
  have HP2 := Lib.hid (fun w' a' b' ca' cb' h1' h2' => spt M m (by omega) w' a' b' ca' cb' h1' h2')
  generalize sameB K M = s at *
  have HK := Lib.hid hK
  have HM := Lib.hid hM
  have HZ := Lib.hid hz
  have HZ2 := Lib.hid hz2
  have L1 := Lib.hid (show n ≤ 500 by omega)
  have L2 := Lib.hid (show m ≤ 500 by omega)
  clear hK hM hz hz2 h1 h2
  go_enter Try.func4, Try.ntmps4
  go_wp2_with (first
    | (go_at_call 11; (first | (with_reducible refine (HB1.out _).mono ?_; clear HB1) | (with_reducible refine (HB2.out _).mono ?_)); rintro e w1 ⟨rfl, rfl⟩)
    | (at_builtin; refine wpList_ccopy rfl (.tmp 13) (.tmp 14) rfl rfl a n ca K rfl HZ.out HK.out L1.out ?_; clear L1; rintro v1 wA ⟨a1, c1, rfl, hr1, hb1⟩; have HR1 := Lib.hid hr1; have HBA := Lib.hid hb1; clear hr1 hb1)
    | (at_builtin; refine wpList_ccopy rfl (.tmp 16) (.tmp 17) rfl rfl b m cb M rfl HZ2.out (HM.out.below HBA.out) L2.out ?_; clear L2; rintro v2 wB ⟨a2, c2, rfl, hr2, hb2⟩; have HR2 := Lib.hid hr2; have HKB := Lib.hid ((HK.out.below HBA.out).below hb2); have HMB := Lib.hid ((HM.out.below HBA.out).below hb2); have HRB := Lib.hid (HR1.out.below hb2); have HBB := Lib.hid (HBA.out.trans (hb2.mono HBA.out.size)); clear hr2 hb2)
    | (go_at_call 25; refine (HS1.out _ _ _ _ _ HRB.out HR2.out).mono ?_; rintro e w1 ⟨rfl, J4, d4, rfl⟩)
    | (go_at_call 26; refine (HS2.out _ (HKB.out.below (by (repeat' (first | (with_reducible exact Below.refl _ _) | (with_reducible assumption) | (with_reducible refine Below.alloc ?_ ?_ _) | (with_reducible refine Below.drew ?_) | (with_reducible refine below_drewN ?_ _) | (with_reducible refine below_plus ?_ ?_ _ _) | (with_reducible refine Below.setCell ?_ ?_ _) | (with_reducible refine Below.setRow ?_ ?_ _) | go_size)))) (HMB.out.below (by (repeat' (first | (with_reducible exact Below.refl _ _) | (with_reducible assumption) | (with_reducible refine Below.alloc ?_ ?_ _) | (with_reducible refine Below.drew ?_) | (with_reducible refine below_drewN ?_ _) | (with_reducible refine below_plus ?_ ?_ _ _) | (with_reducible refine Below.setCell ?_ ?_ _) | (with_reducible refine Below.setRow ?_ ?_ _) | go_size))))).mono ?_; rintro e w1 ⟨rfl, J5, d5, rfl⟩)
    | (go_at_call 20; refine (HP1.out _ _ _ _ _ (HRB.out.below (by (repeat' (first | (with_reducible exact Below.refl _ _) | (with_reducible assumption) | (with_reducible refine Below.alloc ?_ ?_ _) | (with_reducible refine Below.drew ?_) | (with_reducible refine below_drewN ?_ _) | (with_reducible refine below_plus ?_ ?_ _ _) | (with_reducible refine Below.setCell ?_ ?_ _) | (with_reducible refine Below.setRow ?_ ?_ _) | go_size)))) (HKB.out.below (by (repeat' (first | (with_reducible exact Below.refl _ _) | (with_reducible assumption) | (with_reducible refine Below.alloc ?_ ?_ _) | (with_reducible refine Below.drew ?_) | (with_reducible refine below_drewN ?_ _) | (with_reducible refine below_plus ?_ ?_ _ _) | (with_reducible refine Below.setCell ?_ ?_ _) | (with_reducible refine Below.setRow ?_ ?_ _) | go_size))))).mono ?_; clear HP1; rintro e w1 ⟨rfl, J6, d6, rfl⟩)
    | (go_at_call 20; refine (HP2.out _ _ _ _ _ (HR2.out.below (by (repeat' (first | (with_reducible exact Below.refl _ _) | (with_reducible assumption) | (with_reducible refine Below.alloc ?_ ?_ _) | (with_reducible refine Below.drew ?_) | (with_reducible refine below_drewN ?_ _) | (with_reducible refine below_plus ?_ ?_ _ _) | (with_reducible refine Below.setCell ?_ ?_ _) | (with_reducible refine Below.setRow ?_ ?_ _) | go_size)))) (HMB.out.below (by (repeat' (first | (with_reducible exact Below.refl _ _) | (with_reducible assumption) | (with_reducible refine Below.alloc ?_ ?_ _) | (with_reducible refine Below.drew ?_) | (with_reducible refine below_drewN ?_ _) | (with_reducible refine below_plus ?_ ?_ _ _) | (with_reducible refine Below.setCell ?_ ?_ _) | (with_reducible refine Below.setRow ?_ ?_ _) | go_size))))).mono ?_; rintro e w1 ⟨rfl, J7, d7, rfl⟩)
    | (go_at_call 24; refine (HAw.out _).mono ?_; rintro e w1 ⟨rfl, J3, d3, rfl⟩))
  go_ret
  have hszB := HBB.out.size
  exact ⟨by simp, junk_of_below (HBB.out.trans (by (repeat' (first | (with_reducible exact Below.refl _ _) | (with_reducible assumption) | (with_reducible refine Below.alloc ?_ ?_ _) | (with_reducible refine Below.drew ?_) | (with_reducible refine below_drewN ?_ _) | (with_reducible refine below_plus ?_ ?_ _ _) | (with_reducible refine Below.setCell ?_ ?_ _) | (with_reducible refine Below.setRow ?_ ?_ _) | go_size))))⟩
theorem l_ringSames (w : World) (a : Option Addr) (n ca : Nat) (K : List Pt) (hK : PRC w a n ca K) (_ : n ≤ 9223372036854775807) (hz : a = none → n = 0 ∧ ca = 0) (b : Option Addr) (m cb : Nat) (M : List Pt) (hM : PRC w b m cb M) (_ : m ≤ 9223372036854775807) (hz2 : b = none → m = 0 ∧ cb = 0) :
    Calls Try.prog 4 #[.slice a n ca, .slice b m cb] w fun e w' => e = .returned (.bool true) ∧ Junk w w' := by
  by_cases h1 : 210 < n
  · exact sames_big w a b n m ca cb (.inl h1)
  · by_cases h2 : 210 < m
    · exact sames_big w a b n m ca cb (.inr h2)
    · exact sames_in w a b n m ca cb K M hK hM hz hz2 h1 h2
end Go.Proofs.Ytmofejcafbjlnaa

/- The law OctetKnown: the chapter's examples. -/
import Derived.Test.YtabjhmblfeoiaaaOcuW
import Derived.Deep.CutRange
namespace Go.Proofs.Ytabjhmblfeoiaaa
set_option linter.unusedVariables false
set_option linter.unusedSimpArgs false
open Go.RowKit

theorem enc_is {n : Int} {L : List UInt8} (h : rank n < 128) (hL : [UInt8.ofNat (rank n)] = L) : encN n = L := by unfold encN; rw [enc_lt h, hL]
theorem k_put0 : encN 0 = [0] := enc_is (by decide) (by decide)
theorem k_put1 : encN (-1) = [1] := enc_is (by decide) (by decide)
theorem k_put64 : encN 64 = [128, 1] := by
  unfold encN
  rw [show rank 64 = 128 by decide, enc_ge (by decide), enc_lt (by decide)]
  decide
theorem k_list : encL [1, -1] = [4, 2, 1] := by
  unfold encL
  rw [show encN (([1, -1] : List Int).length : Int) = [4] from enc_is (by decide) (by decide)]
  simp only [List.flatMap_cons, List.flatMap_nil]
  rw [show encN 1 = [2] from enc_is (by decide) (by decide), k_put1]
  rfl
theorem breads_ints (W : World) (zs : List Int) (c : Array Value) (hc : c = (ints zs).toArray) (hz : ∀ x ∈ zs, I64 x) (g : Nat) (hg : g = W.heap.size) (n : Nat) (hn : n = zs.length) : Reads (W.alloc (.cells c 3)) (some ⟨g, 0, none⟩) n zs := by
  subst hc; subst hg; subst hn
  refine ⟨rfl, fun i hi => ?_, .inr ⟨_, 0, rfl, fun i hi => ?_⟩⟩
  · have := hz zs[i] (List.getElem_mem hi)
    unfold I64 at this
    simpa [List.getD_eq_getElem?_getD, hi] using this
  · have h : (W.alloc (.cells (ints zs).toArray 3)).heap[W.heap.size]? = some (.cells (ints zs).toArray 3 (0, 0)) := by show (W.heap.push _)[W.heap.size]? = _; simp
    simp only [World.cell?, h]
    simpa using ints_get zs i hi

set_option maxRecDepth 100000 in
set_option maxHeartbeats 16000000 in
theorem l_octetKnown (w : World) : Calls Try.prog 10 #[] w fun e w' => e = .returned (.bool true) ∧ Junk w w' := by
  have HA := Lib.hid (fun w => l_awake w)
  have HG := Lib.hid (fun W a len cap L h p hp r hr => n_Get W a len cap L h p hp r hr)
  have HT := Lib.hid (fun W a len cap L h p m hp hm r hr => n_GetText W a len cap L h p m hp hm r hr)
  have HS := Lib.hid (fun W a b n m ca cb L M hL hM => k_SameBytes W a b n m ca cb L M hL hM)
  have HP0 := Lib.hid (n_Put 0 ⟨by decide, by decide⟩)
  have HP1 := Lib.hid (n_Put (-1) ⟨by decide, by decide⟩)
  have HP2 := Lib.hid (n_Put 64 ⟨by decide, by decide⟩)
  have HL := Lib.hid (fun W a cap h => n_PutList W a 2 cap [1, -1] h (by decide))
  rw [k_put0] at HP0
  rw [k_put1] at HP1
  rw [k_put64] at HP2
  rw [k_list] at HL
  have HNew := Lib.hid (fun W a len cap L h => n_New W a len cap L h)
  have HI := Lib.hid (fun W b a len cap L hR pl e f lo hi hp hlo hhi hrow r hr => n_Int W b a len cap L hR pl e f lo hi hp hlo hhi hrow r hr)
  have HAt := Lib.hid (fun W b a len cap pl e f h => n_At W b a len cap pl e f h)
  have HF := Lib.hid (fun W b a len cap pl e f h => n_Fault W b a len cap pl e f h)
  go_enter Try.func10, Try.ntmps10
  go_upto_region 1 with fail
  go_cut [1] from 27 (fun t wx => t = .bool true ∧ Below w.heap.size w wx)
  case first =>
    go_wp2_with fail
    refine (HP0.out _).mono ?_; rintro e w1 ⟨v, rfl, hown, hj⟩
    obtain ⟨a1, cap1, rfl, hr1, hn1⟩ := breads_of_owns hown
    have HR1 := Lib.hid hr1
    have HJ := Lib.hid (hj.below)
    clear hown hr1 hn1 hj
    go_wp2_with fail
    refine (HS.out _ _ _ _ _ _ _ [0] [0] (HR1.out.below (by (repeat' (first | (with_reducible exact Below.refl _ _) | (with_reducible assumption) | (with_reducible refine Below.alloc ?_ ?_ _) | (with_reducible refine Below.drew ?_) | (with_reducible refine below_drewN ?_ _) | (with_reducible refine below_plus ?_ ?_ _ _) | (with_reducible refine Below.setCell ?_ ?_ _) | (with_reducible refine Below.setRow ?_ ?_ _) | go_size)))) (breads_lit _ _ _ rfl _ (by simp) _ rfl)).mono ?_; rintro e w1 ⟨rfl, hj⟩
    have HK := Lib.hid (HJ.out.trans (((Below.refl _ _).alloc (Nat.le_refl _) _).trans (hj.below.mono (by simp)) |>.mono HJ.out.size))
    clear hj HJ HR1
    go_wp2_with fail
    refine (HP1.out _).mono ?_; rintro e w1 ⟨v, rfl, hown, hj⟩
    obtain ⟨a1, cap1, rfl, hr1, hn1⟩ := breads_of_owns hown
    have HR1 := Lib.hid hr1
    have HJ := Lib.hid (HK.out.trans (hj.below.mono HK.out.size))
    clear hown hr1 hn1 hj HK
    go_wp2_with fail
    refine (HS.out _ _ _ _ _ _ _ [1] [1] (HR1.out.below (by (repeat' (first | (with_reducible exact Below.refl _ _) | (with_reducible assumption) | (with_reducible refine Below.alloc ?_ ?_ _) | (with_reducible refine Below.drew ?_) | (with_reducible refine below_drewN ?_ _) | (with_reducible refine below_plus ?_ ?_ _ _) | (with_reducible refine Below.setCell ?_ ?_ _) | (with_reducible refine Below.setRow ?_ ?_ _) | go_size)))) (breads_lit _ _ _ rfl _ (by simp) _ rfl)).mono ?_; rintro e w1 ⟨rfl, hj⟩
    have HK := Lib.hid (HJ.out.trans (((Below.refl _ _).alloc (Nat.le_refl _) _).trans (hj.below.mono (by simp)) |>.mono HJ.out.size))
    clear hj HJ HR1
    go_wp2_with fail
    refine (HP2.out _).mono ?_; rintro e w1 ⟨v, rfl, hown, hj⟩
    obtain ⟨a1, cap1, rfl, hr1, hn1⟩ := breads_of_owns hown
    have HR1 := Lib.hid hr1
    have HJ := Lib.hid (HK.out.trans (hj.below.mono HK.out.size))
    clear hown hr1 hn1 hj HK
    go_wp2_with fail
    refine (HS.out _ _ _ _ _ _ _ [128, 1] [128, 1] (HR1.out.below (by (repeat' (first | (with_reducible exact Below.refl _ _) | (with_reducible assumption) | (with_reducible refine Below.alloc ?_ ?_ _) | (with_reducible refine Below.drew ?_) | (with_reducible refine below_drewN ?_ _) | (with_reducible refine below_plus ?_ ?_ _ _) | (with_reducible refine Below.setCell ?_ ?_ _) | (with_reducible refine Below.setRow ?_ ?_ _) | go_size)))) (breads_lit _ _ _ rfl _ (by simp) _ rfl)).mono ?_; rintro e w1 ⟨rfl, hj⟩
    have HK := Lib.hid (HJ.out.trans (((Below.refl _ _).alloc (Nat.le_refl _) _).trans (hj.below.mono (by simp)) |>.mono HJ.out.size))
    clear hj HJ HR1
    go_wp2_with fail
    refine (HL.out _ _ _ (breads_ints _ _ _ rfl (by intro x hx; simp at hx; unfold I64; omega) _ rfl _ rfl)).mono ?_; rintro e w1 ⟨v, rfl, hown, hj⟩
    obtain ⟨a1, cap1, rfl, hr1, hn1⟩ := breads_of_owns hown
    have HR1 := Lib.hid hr1
    have HJ := Lib.hid (HK.out.trans (((Below.refl _ _).alloc (Nat.le_refl _) _).trans (hj.below.mono (by simp)) |>.mono HK.out.size))
    clear hown hr1 hn1 hj HK
    go_wp2_with fail
    refine (HS.out _ _ _ _ _ _ _ [4, 2, 1] [4, 2, 1] (HR1.out.below (by (repeat' (first | (with_reducible exact Below.refl _ _) | (with_reducible assumption) | (with_reducible refine Below.alloc ?_ ?_ _) | (with_reducible refine Below.drew ?_) | (with_reducible refine below_drewN ?_ _) | (with_reducible refine below_plus ?_ ?_ _ _) | (with_reducible refine Below.setCell ?_ ?_ _) | (with_reducible refine Below.setRow ?_ ?_ _) | go_size)))) (breads_lit _ _ _ rfl _ (by simp) _ rfl)).mono ?_; rintro e w1 ⟨rfl, hj⟩
    have HK := Lib.hid (HJ.out.trans (((Below.refl _ _).alloc (Nat.le_refl _) _).trans (hj.below.mono (by simp)) |>.mono HJ.out.size))
    clear hj HJ HR1
    go_wp2_with fail
    go_meet
    case rel => exact ⟨rfl, HK.out⟩
  obtain ⟨rfl, hb0⟩ := hcut
  have HB := Lib.hid hb0
  clear hb0
  go_upto_region 2 with fail
  go_cut [4] from 27 (fun p wx => FaultAt wx p 4 1 ∧ Below wc.heap.size wc wx)
  case first =>
    go_wp2_with fail
    refine (HG.out _ _ 2 2 [128, 0] (bin_lit wc [128, 0] _ rfl (by decide) _ rfl _ rfl) 0 ⟨by decide, by decide⟩ (0, 0, 4, 1) (Lib.hid (by decide))).mono ?_; rintro e w' ⟨rfl, J, dr, rfl⟩
    go_wp2_with fail
    go_meet
    case rel => exact ⟨fault_here _ _ _ _ (by simp), by (repeat' (first | (with_reducible exact Below.refl _ _) | (with_reducible assumption) | (with_reducible refine Below.alloc ?_ ?_ _) | (with_reducible refine Below.drew ?_) | (with_reducible refine below_drewN ?_ _) | (with_reducible refine below_plus ?_ ?_ _ _) | (with_reducible refine Below.setCell ?_ ?_ _) | (with_reducible refine Below.setRow ?_ ?_ _) | go_size))⟩
  have HB' := Lib.hid (HB.out.trans (hcut.2.mono HB.out.size))
  have F2 := Lib.hid hcut.1
  clear hcut HB 
  have HB := HB'
  clear HB'
  go_upto_region 3 with fail
  go_cut [7] from 27 (fun p wx => FaultAt wx p 4 1 ∧ Below wc.heap.size wc wx)
  case first =>
    go_wp2_with fail
    refine (HG.out _ _ 1 1 [128] (bin_lit wc [128] _ rfl (by decide) _ rfl _ rfl) 0 ⟨by decide, by decide⟩ (0, 0, 4, 1) (Lib.hid (by decide))).mono ?_; rintro e w' ⟨rfl, J, dr, rfl⟩
    go_wp2_with fail
    go_meet
    case rel => exact ⟨fault_here _ _ _ _ (by simp), by (repeat' (first | (with_reducible exact Below.refl _ _) | (with_reducible assumption) | (with_reducible refine Below.alloc ?_ ?_ _) | (with_reducible refine Below.drew ?_) | (with_reducible refine below_drewN ?_ _) | (with_reducible refine below_plus ?_ ?_ _ _) | (with_reducible refine Below.setCell ?_ ?_ _) | (with_reducible refine Below.setRow ?_ ?_ _) | go_size))⟩
  have HB' := Lib.hid (HB.out.trans (hcut.2.mono HB.out.size))
  have F2' := Lib.hid (F2.out.below hcut.2)
  have F3 := Lib.hid hcut.1
  clear hcut HB F2
  have HB := HB'
  clear HB'
  have F2 := F2'
  clear F2'
  go_upto_region 4 with fail
  go_cut [10] from 27 (fun p wx => FaultAt wx p 5 0 ∧ Below wc.heap.size wc wx)
  case first =>
    go_wp2_with fail
    refine (HG.out _ _ 0 0 [] (show BIn wc none 0 [] 0 from ⟨⟨rfl, .inl rfl⟩, fun _ => ⟨rfl, rfl⟩, by decide, Nat.le_refl _⟩) 1 ⟨by decide, by decide⟩ (0, 0, 5, 0) (Lib.hid (by decide))).mono ?_; rintro e w' ⟨rfl, J, dr, rfl⟩
    go_wp2_with fail
    go_meet
    case rel => exact ⟨fault_here _ _ _ _ (by simp), by (repeat' (first | (with_reducible exact Below.refl _ _) | (with_reducible assumption) | (with_reducible refine Below.alloc ?_ ?_ _) | (with_reducible refine Below.drew ?_) | (with_reducible refine below_drewN ?_ _) | (with_reducible refine below_plus ?_ ?_ _ _) | (with_reducible refine Below.setCell ?_ ?_ _) | (with_reducible refine Below.setRow ?_ ?_ _) | go_size))⟩
  have HB' := Lib.hid (HB.out.trans (hcut.2.mono HB.out.size))
  have F2' := Lib.hid (F2.out.below hcut.2)
  have F3' := Lib.hid (F3.out.below hcut.2)
  have F4 := Lib.hid hcut.1
  clear hcut HB F2 F3
  have HB := HB'
  clear HB'
  have F2 := F2'
  clear F2'
  have F3 := F3'
  clear F3'
  go_upto_region 5 with fail
  go_cut [11, 13] from 27 (fun x p wx => x = .string ⟨#[97, 98]⟩ ∧ FaultAt wx p 0 0 ∧ Below wc.heap.size wc wx)
  case first =>
    go_wp2_with fail
    refine (HT.out _ _ 3 3 [4, 97, 98] (bin_lit wc [4, 97, 98] _ rfl (by decide) _ rfl _ rfl) 0 2 ⟨by decide, by decide⟩ ⟨by decide, by decide⟩ ([97, 98], 3, 0, 0) (Lib.hid (by decide))).mono ?_; rintro e w' ⟨rfl, J, dr, rfl⟩
    go_wp2_with fail
    go_meet
    case rel => exact ⟨rfl, fault_here _ _ _ _ (by simp), by (repeat' (first | (with_reducible exact Below.refl _ _) | (with_reducible assumption) | (with_reducible refine Below.alloc ?_ ?_ _) | (with_reducible refine Below.drew ?_) | (with_reducible refine below_drewN ?_ _) | (with_reducible refine below_plus ?_ ?_ _ _) | (with_reducible refine Below.setCell ?_ ?_ _) | (with_reducible refine Below.setRow ?_ ?_ _) | go_size))⟩
  obtain ⟨rfl, hcut⟩ := hcut
  have HB' := Lib.hid (HB.out.trans (hcut.2.mono HB.out.size))
  have F2' := Lib.hid (F2.out.below hcut.2)
  have F3' := Lib.hid (F3.out.below hcut.2)
  have F4' := Lib.hid (F4.out.below hcut.2)
  have F5 := Lib.hid hcut.1
  clear hcut HB F2 F3 F4
  have HB := HB'
  clear HB'
  have F2 := F2'
  clear F2'
  have F3 := F3'
  clear F3'
  have F4 := F4'
  clear F4'
  go_upto_region 6 with fail
  go_cut [16] from 27 (fun p wx => FaultAt wx p 3 0 ∧ Below wc.heap.size wc wx)
  case first =>
    go_wp2_with fail
    refine (HT.out _ _ 3 3 [4, 97, 98] (bin_lit wc [4, 97, 98] _ rfl (by decide) _ rfl _ rfl) 0 1 ⟨by decide, by decide⟩ ⟨by decide, by decide⟩ ([], 0, 3, 0) (Lib.hid (by decide))).mono ?_; rintro e w' ⟨rfl, J, dr, rfl⟩
    go_wp2_with fail
    go_meet
    case rel => exact ⟨fault_here _ _ _ _ (by simp), by (repeat' (first | (with_reducible exact Below.refl _ _) | (with_reducible assumption) | (with_reducible refine Below.alloc ?_ ?_ _) | (with_reducible refine Below.drew ?_) | (with_reducible refine below_drewN ?_ _) | (with_reducible refine below_plus ?_ ?_ _ _) | (with_reducible refine Below.setCell ?_ ?_ _) | (with_reducible refine Below.setRow ?_ ?_ _) | go_size))⟩
  have HB' := Lib.hid (HB.out.trans (hcut.2.mono HB.out.size))
  have F2' := Lib.hid (F2.out.below hcut.2)
  have F3' := Lib.hid (F3.out.below hcut.2)
  have F4' := Lib.hid (F4.out.below hcut.2)
  have F5' := Lib.hid (F5.out.below hcut.2)
  have F6 := Lib.hid hcut.1
  clear hcut HB F2 F3 F4 F5
  have HB := HB'
  clear HB'
  have F2 := F2'
  clear F2'
  have F3 := F3'
  clear F3'
  have F4 := F4'
  clear F4'
  have F5 := F5'
  clear F5'
  go_upto_region 7 with fail
  go_cut [19] from 27 (fun p wx => FaultAt wx p 5 0 ∧ Below wc.heap.size wc wx)
  case first =>
    go_wp2_with fail
    refine (HT.out _ _ 1 1 [1] (bin_lit wc [1] _ rfl (by decide) _ rfl _ rfl) 0 9 ⟨by decide, by decide⟩ ⟨by decide, by decide⟩ ([], 0, 5, 0) (Lib.hid (by decide))).mono ?_; rintro e w' ⟨rfl, J, dr, rfl⟩
    go_wp2_with fail
    go_meet
    case rel => exact ⟨fault_here _ _ _ _ (by simp), by (repeat' (first | (with_reducible exact Below.refl _ _) | (with_reducible assumption) | (with_reducible refine Below.alloc ?_ ?_ _) | (with_reducible refine Below.drew ?_) | (with_reducible refine below_drewN ?_ _) | (with_reducible refine below_plus ?_ ?_ _ _) | (with_reducible refine Below.setCell ?_ ?_ _) | (with_reducible refine Below.setRow ?_ ?_ _) | go_size))⟩
  have HB' := Lib.hid (HB.out.trans (hcut.2.mono HB.out.size))
  have F2' := Lib.hid (F2.out.below hcut.2)
  have F3' := Lib.hid (F3.out.below hcut.2)
  have F4' := Lib.hid (F4.out.below hcut.2)
  have F5' := Lib.hid (F5.out.below hcut.2)
  have F6' := Lib.hid (F6.out.below hcut.2)
  have F7 := Lib.hid hcut.1
  clear hcut HB F2 F3 F4 F5 F6
  have HB := HB'
  clear HB'
  have F2 := F2'
  clear F2'
  have F3 := F3'
  clear F3'
  have F4 := F4'
  clear F4'
  have F5 := F5'
  clear F5'
  have F6 := F6'
  clear F6'
  go_upto_region 8 with fail
  go_cut [22] from 27 (fun p wx => FaultAt wx p 4 2 ∧ Below wc.heap.size wc wx)
  case first =>
    go_wp2_with fail
    refine (HT.out _ _ 2 2 [4, 97] (bin_lit wc [4, 97] _ rfl (by decide) _ rfl _ rfl) 0 9 ⟨by decide, by decide⟩ ⟨by decide, by decide⟩ ([], 0, 4, 2) (Lib.hid (by decide))).mono ?_; rintro e w' ⟨rfl, J, dr, rfl⟩
    go_wp2_with fail
    go_meet
    case rel => exact ⟨fault_here _ _ _ _ (by simp), by (repeat' (first | (with_reducible exact Below.refl _ _) | (with_reducible assumption) | (with_reducible refine Below.alloc ?_ ?_ _) | (with_reducible refine Below.drew ?_) | (with_reducible refine below_drewN ?_ _) | (with_reducible refine below_plus ?_ ?_ _ _) | (with_reducible refine Below.setCell ?_ ?_ _) | (with_reducible refine Below.setRow ?_ ?_ _) | go_size))⟩
  have HB' := Lib.hid (HB.out.trans (hcut.2.mono HB.out.size))
  have F2' := Lib.hid (F2.out.below hcut.2)
  have F3' := Lib.hid (F3.out.below hcut.2)
  have F4' := Lib.hid (F4.out.below hcut.2)
  have F5' := Lib.hid (F5.out.below hcut.2)
  have F6' := Lib.hid (F6.out.below hcut.2)
  have F7' := Lib.hid (F7.out.below hcut.2)
  have F8 := Lib.hid hcut.1
  clear hcut HB F2 F3 F4 F5 F6 F7
  have HB := HB'
  clear HB'
  have F2 := F2'
  clear F2'
  have F3 := F3'
  clear F3'
  have F4 := F4'
  clear F4'
  have F5 := F5'
  clear F5'
  have F6 := F6'
  clear F6'
  have F7 := F7'
  clear F7'
  go_upto_region 9 with fail
  obtain ⟨g2, hp2, hg2, hr2⟩ := F2.out
  subst hp2
  have c20 := ucell_of_row hr2 0
  have c21 := ucell_of_row hr2 1
  have z2 := ufrozen_of_row hr2
  simp at c20 c21
  clear hr2 F2
  obtain ⟨g3, hp3, hg3, hr3⟩ := F3.out
  subst hp3
  have c30 := ucell_of_row hr3 0
  have c31 := ucell_of_row hr3 1
  have z3 := ufrozen_of_row hr3
  simp at c30 c31
  clear hr3 F3
  obtain ⟨g4, hp4, hg4, hr4⟩ := F4.out
  subst hp4
  have c40 := ucell_of_row hr4 0
  have c41 := ucell_of_row hr4 1
  have z4 := ufrozen_of_row hr4
  simp at c40 c41
  clear hr4 F4
  obtain ⟨g6, hp6, hg6, hr6⟩ := F6.out
  subst hp6
  have c60 := ucell_of_row hr6 0
  have c61 := ucell_of_row hr6 1
  have z6 := ufrozen_of_row hr6
  simp at c60 c61
  clear hr6 F6
  obtain ⟨g7, hp7, hg7, hr7⟩ := F7.out
  subst hp7
  have c70 := ucell_of_row hr7 0
  have c71 := ucell_of_row hr7 1
  have z7 := ufrozen_of_row hr7
  simp at c70 c71
  clear hr7 F7
  obtain ⟨g8, hp8, hg8, hr8⟩ := F8.out
  subst hp8
  have c80 := ucell_of_row hr8 0
  have c81 := ucell_of_row hr8 1
  have z8 := ufrozen_of_row hr8
  simp at c80 c81
  clear hr8 F8
  go_cut [23] from 27 (fun t wx => t = .bool true ∧ wx = wc)
  case first =>
    go_wp2_with fail
    go_meet
    case rel => exact ⟨rfl, rfl⟩
  obtain ⟨rfl, rfl⟩ := hcut
  clear F5
  clear c20 c21 z2 hg2
  clear c30 c31 z3 hg3
  clear c40 c41 z4 hg4
  clear c60 c61 z6 hg6
  clear c70 c71 z7 hg7
  clear c80 c81 z8 hg8
  go_wp2_with fail
  refine (HNew.out _ _ 2 2 [2, 4] (bin_lit wc [2, 4] _ rfl (by decide) _ rfl _ rfl)).mono ?_; rintro e w1 ⟨w2, a2, cap2, rfl, j2, hin, rfl⟩
  have hBw := HB.out.trans ((((Below.refl _ _).alloc (Nat.le_refl _) _).trans (j2.below.mono (by simp))).mono HB.out.size)
  have hb2 : w.heap.size ≤ w2.heap.size := hBw.size
  obtain ⟨b, hb⟩ : ∃ b, b = w2.heap.size := ⟨_, rfl⟩
  obtain ⟨w3, hw3⟩ : ∃ w3, w3 = w2.alloc (.cells (ocells w2.heap.size a2 ([2, 4] : List UInt8).length cap2 0 0 0) 59) := ⟨_, rfl⟩
  have hrow : w3.rowAt b = some (ocells b a2 2 cap2 0 0 0) := by rw [hw3, hb]; exact rowAt_alloc_at _ _ _ _ rfl
  have hB3 : Below b w2 w3 := by rw [hw3, hb]; exact (Below.refl _ _).alloc (Nat.le_refl _) _
  have hs3 : b < w3.heap.size := by rw [hw3, hb]; simp
  have hw : Below w.heap.size w w3 := hBw.trans (hB3.mono (by omega))
  have HBI := Lib.hid (fun W (h : Below b w2 W) => BIn.below hin (by rw [← hb]; exact h))
  rw [← hw3, ← hb]
  have HB3 := Lib.hid hB3
  have HW := Lib.hid hBw
  have HROW := Lib.hid hrow
  have hb3 : w.heap.size ≤ b := by omega
  clear j2 hin hBw HB hw3 hrow hB3 hw hb hb2
  go_upto_region 13 with fail
  go_cut [25, 26] from 27 (fun x y wx => x = .int .i64 1 ∧ y = .int .i64 0 ∧ Below b w2 wx ∧ b < wx.heap.size ∧ wx.rowAt b = some (ocells b a2 2 cap2 1 5 1))
  case first =>
    go_wp2_with fail
    refine (HI.out _ b a2 2 cap2 [2, 4] (HBI.out _ HB3.out) 0 0 0 0 9 ⟨by decide, by decide⟩ ⟨by decide, by decide⟩ ⟨by decide, by decide⟩ HROW.out (1, 1, 0, 0) (Lib.hid (by decide))).mono ?_; rintro e w4 ⟨rfl, ht⟩
    have hr4 := ht.row HROW.out
    have hb4 := HB3.out.trans (ht.below (by omega))
    have hs4 := (ht.below (by omega)).size
    have HR4 := Lib.hid hr4
    have HB4 := Lib.hid hb4
    clear ht hr4 hb4
    go_wp2_with fail
    refine (HI.out _ b a2 2 cap2 [2, 4] (HBI.out _ HB4.out) 1 0 0 0 1 ⟨by decide, by decide⟩ ⟨by decide, by decide⟩ ⟨by decide, by decide⟩ HR4.out (0, 1, 5, 1) (Lib.hid (by decide))).mono ?_; rintro e w5 ⟨rfl, ht⟩
    have HR5 := Lib.hid (ht.row HR4.out)
    have HB5 := Lib.hid (HB4.out.trans (ht.below (by omega)))
    have hs5 := (ht.below (by omega)).size
    clear ht
    go_wp2_with fail
    go_meet
    case rel => exact ⟨rfl, rfl, HB5.out, by omega, HR5.out⟩
  obtain ⟨rfl, rfl, hb5, hs5, hr5⟩ := hcut
  have HB5 := Lib.hid hb5
  have HR5 := Lib.hid hr5
  clear hb5 hr5
  go_wp2_with fail
  refine (HA.out _).mono ?_; rintro e w6 ⟨rfl, hj⟩
  have HR6 := Lib.hid (show w6.rowAt b = some (ocells b a2 2 cap2 1 5 1) by rw [rowAt_of_block (hj.below.block b hs5)]; exact HR5.out)
  have HB6 := Lib.hid (HB5.out.trans (hj.below.mono (by omega)))
  have hs6 := hj.below.size
  clear hj
  go_wp2_with fail
  refine (HAt.out _ _ _ _ _ _ _ _ HR6.out).mono ?_; rintro e w7 ⟨rfl, hj⟩
  have HR7 := Lib.hid (show w7.rowAt b = some (ocells b a2 2 cap2 1 5 1) by rw [rowAt_of_block (hj.below.block b (by omega))]; exact HR6.out)
  have HB7 := Lib.hid (HB6.out.trans (hj.below.mono (by omega)))
  have hs7 := hj.below.size
  clear hj
  go_wp2_with fail
  refine (HF.out _ _ _ _ _ _ _ _ HR7.out).mono ?_; rintro e w8 ⟨rfl, hj⟩
  have HR8 := Lib.hid (show w8.rowAt b = some (ocells b a2 2 cap2 1 5 1) by rw [rowAt_of_block (hj.below.block b (by omega))]; exact HR7.out)
  have HB8 := Lib.hid (HB7.out.trans (hj.below.mono (by omega)))
  have hs8 := hj.below.size
  clear hj
  go_wp2_with fail
  refine (HI.out _ b a2 2 cap2 [2, 4] (HBI.out _ HB8.out) 1 5 1 0 9 ⟨by decide, by decide⟩ ⟨by decide, by decide⟩ ⟨by decide, by decide⟩ HR8.out (0, 1, 5, 1) (Lib.hid (by decide))).mono ?_; rintro e w9 ⟨rfl, ht⟩
  have HB9 := Lib.hid (HB8.out.trans (ht.below (by omega)))
  clear ht
  go_wp2
  go_ret
  exact ⟨rfl, junk_of_below (HW.out.trans (HB9.out.mono hb3))⟩
end Go.Proofs.Ytabjhmblfeoiaaa

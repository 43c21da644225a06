/- The law RegionKnown: the walk. -/
import Derived.Test.YtfkhefiilmdhmaaGreatRnJ
import Derived.Test.YtfkhefiilmdhmaaGreatReThree
import Derived.Test.YtfkhefiilmdhmaaGreatRnB
namespace Go.Proofs.YtfkhefiilmdhmaaGreat
set_option linter.unusedVariables false
set_option linter.unusedSimpArgs false
open Go.RowKit

theorem rbx_is (R : List (List Pt)) (x1 x2 x3 x4 : Int) (hx : boxV R.flatten = bxV x1 x2 x3 x4) (hb : bndOk R.flatten = true) (n : Nat) (hn : n ≤ 1000) (hl : R.flatten.length ≤ 100000) (w : World) (a : Option Addr) (ca : Nat) (h : GRC w a n ca R) : Calls Tryz.prog 8 #[.agg #[.slice a n ca]] w fun e w' => e = .returned (.tuple #[.agg #[.int .i64 x1, .int .i64 x2, .int .i64 x3, .int .i64 x4], .bool true]) ∧ Junk w w' := by
  have := c_reBox w a n ca R h hn hl
  rw [hx, hb] at this
  exact this
theorem rsm_is (A B : List (List Pt)) (r : Bool) (hr : sameG A B = r) (n m : Nat) (hn : n ≤ 1000) (hm : m ≤ 1000) (hl : A.flatten.length ≤ 100000) (hl2 : B.flatten.length ≤ 100000) (w : World) (a b : Option Addr) (ca cb : Nat) (h : GRC w a n ca A) (h2 : GRC w b m cb B) : Calls Tryz.prog 16 #[.agg #[.slice a n ca], .agg #[.slice b m cb]] w fun e w' => e = .returned (.bool r) ∧ Junk w w' := by
  subst hr; exact c_reSame w a b n m ca cb A B h h2 hn hm hl hl2
/-- A box that has been laid. -/
def BkAt (w : World) (t : Value) (wx : World) : Prop := ∃ A V, t = .pointer (some ⟨A, 0, none⟩) ∧ V = wx ∧ V.cell? ⟨A, 0, none⟩ = some (.int .i64 0) ∧ V.cell? ⟨A, 1, none⟩ = some (.int .i64 0) ∧ V.cell? ⟨A, 2, none⟩ = some (.int .i64 10) ∧ V.cell? ⟨A, 3, none⟩ = some (.int .i64 10) ∧ Below w.heap.size w V
set_option maxRecDepth 100000 in
set_option maxHeartbeats 8000000 in
theorem l_regionKnown (w : World) : Calls Tryz.prog 5 #[] w fun e w' => e = .returned (.bool true) ∧ Junk w w' := by
  have HAw := Lib.hid l_reAwake
  have HAt := Lib.hid l_reAt
  have HS1 := Lib.hid l_reS
  have HS2 := Lib.hid l_reS
  have HS3 := Lib.hid l_reS
  have HS4 := Lib.hid l_reS
  have HT1 := Lib.hid l_reT
  have HT2 := Lib.hid l_reT
  have HOf := Lib.hid l_reOf
  have HC1 := Lib.hid (rck_is ssR (210, 0) kn_ss 2 (by decide) (by decide +kernel))
  have HC2 := Lib.hid (rck_is [] (2, 0) kn_none 0 (by decide) (by decide +kernel))
  have HC3 := Lib.hid (rck_is s2R (190, 1) kn_few 2 (by decide) (by decide +kernel))
  have HBx := Lib.hid (rbx_is stR 0 0 10 10 kn_boxV kn_box.1 2 (by decide) (by decide +kernel))
  have HM1 := Lib.hid (rsm_is stR tsR true kn_same 2 2 (by decide) (by decide) (by decide +kernel) (by decide +kernel))
  have HM2 := Lib.hid (rsm_is [boxR 0 0 9 9] [boxR 2 2 4 4] false kn_diff 1 1 (by decide) (by decide) (by decide +kernel) (by decide +kernel))
  have HG4 := Lib.hid (fun (w : World) b x y m c l f hr h1 h2 => show GRC w (some ⟨b, 0, none⟩) 2 2 tsR from grc_two (w := w) (b := b) (x := x) (y := y) (m := m) (c := c) (l := l) (f := f) hr h1 h2)
  have HT3 := Lib.hid l_reT
  have HT4 := Lib.hid l_reT
  have HS5 := Lib.hid l_reS
  have HS6 := Lib.hid l_reS
  simp only at HC1 HC2 HC3
  have HG1 := Lib.hid (fun (w : World) b x y m c l f hr h1 h2 => show GRC w (some ⟨b, 0, none⟩) 2 2 ssR from grc_two (w := w) (b := b) (x := x) (y := y) (m := m) (c := c) (l := l) (f := f) hr h1 h2)
  have HG2 := Lib.hid (fun (w : World) b x y m c l f hr h1 h2 => show GRC w (some ⟨b, 0, none⟩) 2 2 stR from grc_two (w := w) (b := b) (x := x) (y := y) (m := m) (c := c) (l := l) (f := f) hr h1 h2)
  have HG3 := Lib.hid (fun (w : World) b x y m c hr h1 (h2 : PRC w y 4 4 (boxR 2 2 4 4)) => show GRC w (some ⟨b, 0, none⟩) 2 2 s2R from grc_two (w := w) (b := b) (x := x) (y := y) (m := m) (c := c) (l := 2) (f := 4) hr h1 (prc_take h2 (by decide)))
  generalize ssR = R1 at *
  generalize stR = R2 at *
  generalize s2R = R3 at *
  generalize tsR = R4 at *
  generalize boxR 0 0 9 9 = K1 at *
  generalize boxR 2 2 4 4 = K2 at *
  unfold pt at *
  go_enter Tryz.func5, Tryz.ntmps5
  go_upto_region 1 with fail
  go_cut [1] from 4 to 26 (fun x wx => x = .bool true ∧ Cls w wx)
  case first =>
    go_wp2_with (first
      | (go_at_call 19; refine (HS1.out _).mono ?_; clear HS1; rintro e w1 ⟨⟨a1, rfl, hr⟩, J1, d1, rfl⟩; (try simp only [plus_plus, Array.append_assoc] at hr); have HR1 := Lib.hid hr; clear hr)
      | (go_at_call 19; refine (HS2.out _).mono ?_; clear HS2; rintro e w1 ⟨⟨a2, rfl, hr⟩, J2, d2, rfl⟩; (try simp only [plus_plus, Array.append_assoc] at hr); have HR2 := Lib.hid hr; clear hr)
      | (go_at_call 10; refine (HC1.out _ _ _ (HG1.out _ _ _ _ _ _ _ _ (by simp [go_sem]) (HR1.out.below (by ((try simp only [← Array.append_assoc]); repeat' (first | (with_reducible exact Below.refl _ _) | (with_reducible assumption) | (with_reducible refine Below.alloc ?_ ?_ _) | (with_reducible refine Below.drew ?_) | (with_reducible refine below_drewN ?_ _) | (with_reducible exact below_d _ _ _ _ _) | (with_reducible refine below_snoc _ _ ?_ ?_) | (with_reducible refine below_plus ?_ ?_ _ _) | (with_reducible refine Below.setCell ?_ ?_ _) | (with_reducible refine Below.setRow ?_ ?_ _) | go_size)))) (HR2.out.below (by ((try simp only [← Array.append_assoc]); repeat' (first | (with_reducible exact Below.refl _ _) | (with_reducible assumption) | (with_reducible refine Below.alloc ?_ ?_ _) | (with_reducible refine Below.drew ?_) | (with_reducible refine below_drewN ?_ _) | (with_reducible exact below_d _ _ _ _ _) | (with_reducible refine below_snoc _ _ ?_ ?_) | (with_reducible refine below_plus ?_ ?_ _ _) | (with_reducible refine Below.setCell ?_ ?_ _) | (with_reducible refine Below.setRow ?_ ?_ _) | go_size)))))).mono ?_; clear HC1; rintro e w1 ⟨rfl, J4, d4, rfl⟩)
      | (go_at_call 10; refine (HC2.out _ _ _ (grc_none _)).mono ?_; clear HC2; rintro e w1 ⟨rfl, J5, d5, rfl⟩)
      | (go_at_call 19; refine (HS3.out _).mono ?_; clear HS3; rintro e w1 ⟨⟨a3, rfl, hr⟩, J6, d6, rfl⟩; (try simp only [plus_plus, Array.append_assoc] at hr); have HR3 := Lib.hid hr; clear hr)
      | (go_at_call 20; refine (HT1.out _).mono ?_; clear HT1; rintro e w1 ⟨⟨a4, rfl, hr⟩, J7, d7, rfl⟩; (try simp only [plus_plus, Array.append_assoc] at hr); have HR4 := Lib.hid hr; clear hr)
      | (go_at_call 10; refine (HC3.out _ _ _ (HG3.out _ _ _ _ _ _ (by simp [go_sem]) (HR3.out.below (by ((try simp only [← Array.append_assoc]); repeat' (first | (with_reducible exact Below.refl _ _) | (with_reducible assumption) | (with_reducible refine Below.alloc ?_ ?_ _) | (with_reducible refine Below.drew ?_) | (with_reducible refine below_drewN ?_ _) | (with_reducible exact below_d _ _ _ _ _) | (with_reducible refine below_snoc _ _ ?_ ?_) | (with_reducible refine below_plus ?_ ?_ _ _) | (with_reducible refine Below.setCell ?_ ?_ _) | (with_reducible refine Below.setRow ?_ ?_ _) | go_size)))) (HR4.out.below (by ((try simp only [← Array.append_assoc]); repeat' (first | (with_reducible exact Below.refl _ _) | (with_reducible assumption) | (with_reducible refine Below.alloc ?_ ?_ _) | (with_reducible refine Below.drew ?_) | (with_reducible refine below_drewN ?_ _) | (with_reducible exact below_d _ _ _ _ _) | (with_reducible refine below_snoc _ _ ?_ ?_) | (with_reducible refine below_plus ?_ ?_ _ _) | (with_reducible refine Below.setCell ?_ ?_ _) | (with_reducible refine Below.setRow ?_ ?_ _) | go_size)))))).mono ?_; clear HC3; rintro e w1 ⟨rfl, J8, d8, rfl⟩)
      | (go_at_call 18; refine (HOf.out _ _ ⟨_, _, _, rfl⟩).mono ?_; rintro e w1 ⟨rfl, J3, d3, rfl⟩))
    go_meet
    case rel => exact ⟨rfl, cls_of (junk_of_below (by ((try simp only [← Array.append_assoc]); repeat' (first | (with_reducible exact Below.refl _ _) | (with_reducible assumption) | (with_reducible refine Below.alloc ?_ ?_ _) | (with_reducible refine Below.drew ?_) | (with_reducible refine below_drewN ?_ _) | (with_reducible exact below_d _ _ _ _ _) | (with_reducible refine below_snoc _ _ ?_ ?_) | (with_reducible refine below_plus ?_ ?_ _ _) | (with_reducible refine Below.setCell ?_ ?_ _) | (with_reducible refine Below.setRow ?_ ?_ _) | go_size))))⟩
  case rest =>
  obtain ⟨rfl, J1, d1, rfl⟩ := hcut
  clear HC1 HC2 HC3 HG1 HG3 HS1 HS2 HT1
  go_upto_region 2 with fail
  go_cut [2, 3] from 28 to 34 (fun t b wx => BkAt w t wx ∧ b = .bool true)
  case first =>
    go_wp2_with (first
      | (go_at_call 19; refine (HS3.out _).mono ?_; rintro e w1 ⟨⟨a1, rfl, hr⟩, J2, d2, rfl⟩; (try simp only [plus_plus, Array.append_assoc] at hr); have HR1 := Lib.hid hr; clear hr)
      | (go_at_call 20; refine (HT2.out _).mono ?_; rintro e w1 ⟨⟨a2, rfl, hr⟩, J3, d3, rfl⟩; (try simp only [plus_plus, Array.append_assoc] at hr); have HR2 := Lib.hid hr; clear hr)
      | (go_at_call 8; refine (HBx.out _ _ _ (HG2.out _ _ _ _ _ _ _ _ (by simp [go_sem]) (HR1.out.below (by ((try simp only [← Array.append_assoc]); repeat' (first | (with_reducible exact Below.refl _ _) | (with_reducible assumption) | (with_reducible refine Below.alloc ?_ ?_ _) | (with_reducible refine Below.drew ?_) | (with_reducible refine below_drewN ?_ _) | (with_reducible exact below_d _ _ _ _ _) | (with_reducible refine below_snoc _ _ ?_ ?_) | (with_reducible refine below_plus ?_ ?_ _ _) | (with_reducible refine Below.setCell ?_ ?_ _) | (with_reducible refine Below.setRow ?_ ?_ _) | go_size)))) (HR2.out.below (by ((try simp only [← Array.append_assoc]); repeat' (first | (with_reducible exact Below.refl _ _) | (with_reducible assumption) | (with_reducible refine Below.alloc ?_ ?_ _) | (with_reducible refine Below.drew ?_) | (with_reducible refine below_drewN ?_ _) | (with_reducible exact below_d _ _ _ _ _) | (with_reducible refine below_snoc _ _ ?_ ?_) | (with_reducible refine below_plus ?_ ?_ _ _) | (with_reducible refine Below.setCell ?_ ?_ _) | (with_reducible refine Below.setRow ?_ ?_ _) | go_size)))))).mono ?_; rintro e w1 ⟨rfl, J5, d5, rfl⟩)
      | (go_at_call 18; refine (HOf.out _ _ ⟨_, _, _, rfl⟩).mono ?_; rintro e w1 ⟨rfl, J4, d4, rfl⟩))
    go_meet
    case rel => exact ⟨⟨_, _, rfl, rfl, by simp [go_sem], by simp [go_sem], by simp [go_sem], by simp [go_sem], by ((try simp only [← Array.append_assoc]); repeat' (first | (with_reducible exact Below.refl _ _) | (with_reducible assumption) | (with_reducible refine Below.alloc ?_ ?_ _) | (with_reducible refine Below.drew ?_) | (with_reducible refine below_drewN ?_ _) | (with_reducible exact below_d _ _ _ _ _) | (with_reducible refine below_snoc _ _ ?_ ?_) | (with_reducible refine below_plus ?_ ?_ _ _) | (with_reducible refine Below.setCell ?_ ?_ _) | (with_reducible refine Below.setRow ?_ ?_ _) | go_size))⟩, rfl⟩
  case rest =>
  obtain ⟨⟨A, V, rfl, rfl, v0, v1, v2, v3, hbV⟩, rfl⟩ := hcut
  have HJV := Lib.hid hbV
  have lA : A < V.heap.size := World.block_lt_of_cell? _ _ v0
  clear hbV HBx
  go_upto_region 3 with fail
  go_region_held3 (fun w' => w'.cell? ⟨A, 0, none⟩ = some (.int .i64 0) ∧ w'.cell? ⟨A, 1, none⟩ = some (.int .i64 0) ∧ w'.cell? ⟨A, 2, none⟩ = some (.int .i64 10) ∧ w'.cell? ⟨A, 3, none⟩ = some (.int .i64 10)) (first | (refine ⟨?_, ?_, ?_, ?_⟩ <;> (simp [go_sem, *]; done))) ((go_simp; (first
    | (go_at_call 15; refine (HAw.out _).mono ?_; rintro e w1 ⟨rfl, J2, d2, rfl⟩; go_simp)
    | (go_at_call 21; (with_reducible refine (HAt.out _ _ _).mono ?_); rintro e w1 ⟨rfl, J3, d3, rfl⟩; go_simp)
    | (go_at_call 19; refine (HS4.out _).mono ?_; clear HS4; rintro e w1 ⟨⟨a5, rfl, hr⟩, J4, d4, rfl⟩; (try simp only [plus_plus, Array.append_assoc] at hr); have HR5 := Lib.hid hr; clear hr; go_simp)
    | (go_at_call 20; refine (HT2.out _).mono ?_; clear HT2; rintro e w1 ⟨⟨a6, rfl, hr⟩, J5, d5, rfl⟩; (try simp only [plus_plus, Array.append_assoc] at hr); have HR6 := Lib.hid hr; clear hr; go_simp)
    | (go_at_call 20; refine (HT3.out _).mono ?_; clear HT3; rintro e w1 ⟨⟨a7, rfl, hr⟩, J6, d6, rfl⟩; (try simp only [plus_plus, Array.append_assoc] at hr); have HR7 := Lib.hid hr; clear hr; go_simp)
    | (go_at_call 19; refine (HS5.out _).mono ?_; clear HS5; rintro e w1 ⟨⟨a8, rfl, hr⟩, J7, d7, rfl⟩; (try simp only [plus_plus, Array.append_assoc] at hr); have HR8 := Lib.hid hr; clear hr; go_simp)
    | (go_at_call 16; refine (HM1.out _ _ _ _ _ (HG2.out _ _ _ _ _ _ _ _ (by simp [go_sem]) (HR5.out.below (by ((try simp only [← Array.append_assoc]); repeat' (first | (with_reducible exact Below.refl _ _) | (with_reducible assumption) | (with_reducible refine Below.alloc ?_ ?_ _) | (with_reducible refine Below.drew ?_) | (with_reducible refine below_drewN ?_ _) | (with_reducible exact below_d _ _ _ _ _) | (with_reducible refine below_snoc _ _ ?_ ?_) | (with_reducible refine below_plus ?_ ?_ _ _) | (with_reducible refine Below.setCell ?_ ?_ _) | (with_reducible refine Below.setRow ?_ ?_ _) | go_size)))) (HR6.out.below (by ((try simp only [← Array.append_assoc]); repeat' (first | (with_reducible exact Below.refl _ _) | (with_reducible assumption) | (with_reducible refine Below.alloc ?_ ?_ _) | (with_reducible refine Below.drew ?_) | (with_reducible refine below_drewN ?_ _) | (with_reducible exact below_d _ _ _ _ _) | (with_reducible refine below_snoc _ _ ?_ ?_) | (with_reducible refine below_plus ?_ ?_ _ _) | (with_reducible refine Below.setCell ?_ ?_ _) | (with_reducible refine Below.setRow ?_ ?_ _) | go_size))))) (HG4.out _ _ _ _ _ _ _ _ (by simp [go_sem]) (HR7.out.below (by ((try simp only [← Array.append_assoc]); repeat' (first | (with_reducible exact Below.refl _ _) | (with_reducible assumption) | (with_reducible refine Below.alloc ?_ ?_ _) | (with_reducible refine Below.drew ?_) | (with_reducible refine below_drewN ?_ _) | (with_reducible exact below_d _ _ _ _ _) | (with_reducible refine below_snoc _ _ ?_ ?_) | (with_reducible refine below_plus ?_ ?_ _ _) | (with_reducible refine Below.setCell ?_ ?_ _) | (with_reducible refine Below.setRow ?_ ?_ _) | go_size)))) (HR8.out.below (by ((try simp only [← Array.append_assoc]); repeat' (first | (with_reducible exact Below.refl _ _) | (with_reducible assumption) | (with_reducible refine Below.alloc ?_ ?_ _) | (with_reducible refine Below.drew ?_) | (with_reducible refine below_drewN ?_ _) | (with_reducible exact below_d _ _ _ _ _) | (with_reducible refine below_snoc _ _ ?_ ?_) | (with_reducible refine below_plus ?_ ?_ _ _) | (with_reducible refine Below.setCell ?_ ?_ _) | (with_reducible refine Below.setRow ?_ ?_ _) | go_size)))))).mono ?_; clear HM1; rintro e w1 ⟨rfl, J8, d8, rfl⟩; go_simp)
    | (go_at_call 19; refine (HS6.out _).mono ?_; clear HS6; rintro e w1 ⟨⟨a9, rfl, hr⟩, J9, d9, rfl⟩; (try simp only [plus_plus, Array.append_assoc] at hr); have HR9 := Lib.hid hr; clear hr; go_simp)
    | (go_at_call 20; refine (HT4.out _).mono ?_; clear HT4; rintro e w1 ⟨⟨a10, rfl, hr⟩, J10, d10, rfl⟩; (try simp only [plus_plus, Array.append_assoc] at hr); have HR10 := Lib.hid hr; clear hr; go_simp)
    | (go_at_call 16; refine (HM2.out _ _ _ _ _ (grc_one (by simp [go_sem]) (HR9.out.below (by ((try simp only [← Array.append_assoc]); repeat' (first | (with_reducible exact Below.refl _ _) | (with_reducible assumption) | (with_reducible refine Below.alloc ?_ ?_ _) | (with_reducible refine Below.drew ?_) | (with_reducible refine below_drewN ?_ _) | (with_reducible exact below_d _ _ _ _ _) | (with_reducible refine below_snoc _ _ ?_ ?_) | (with_reducible refine below_plus ?_ ?_ _ _) | (with_reducible refine Below.setCell ?_ ?_ _) | (with_reducible refine Below.setRow ?_ ?_ _) | go_size))))) (grc_one (by simp [go_sem]) (HR10.out.below (by ((try simp only [← Array.append_assoc]); repeat' (first | (with_reducible exact Below.refl _ _) | (with_reducible assumption) | (with_reducible refine Below.alloc ?_ ?_ _) | (with_reducible refine Below.drew ?_) | (with_reducible refine below_drewN ?_ _) | (with_reducible exact below_d _ _ _ _ _) | (with_reducible refine below_snoc _ _ ?_ ?_) | (with_reducible refine below_plus ?_ ?_ _ _) | (with_reducible refine Below.setCell ?_ ?_ _) | (with_reducible refine Below.setRow ?_ ?_ _) | go_size)))))).mono ?_; clear HM2; rintro e w1 ⟨rfl, J11, d11, rfl⟩; go_simp)
    | (go_at_call 18; refine (HOf.out _ _ ⟨_, _, _, rfl⟩).mono ?_; rintro e w1 ⟨rfl, J12, d12, rfl⟩; go_simp))))
  all_goals (go_wp2_with fail)
  all_goals go_ret
  all_goals exact ⟨rfl, junk_of_below (HJV.out.trans ((show Below V.heap.size V _ by ((try simp only [← Array.append_assoc]); repeat' (first | (with_reducible exact Below.refl _ _) | (with_reducible assumption) | (with_reducible refine Below.alloc ?_ ?_ _) | (with_reducible refine Below.drew ?_) | (with_reducible refine below_drewN ?_ _) | (with_reducible exact below_d _ _ _ _ _) | (with_reducible refine below_snoc _ _ ?_ ?_) | (with_reducible refine below_plus ?_ ?_ _ _) | (with_reducible refine Below.setCell ?_ ?_ _) | (with_reducible refine Below.setRow ?_ ?_ _) | go_size))).mono HJV.out.size))⟩
end Go.Proofs.YtfkhefiilmdhmaaGreat

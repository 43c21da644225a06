/- The law RegionChecks: the walk. -/
import Derived.Test.YtfkhefiilmdhmaaGreatRnB
import Derived.Test.YtfkhefiilmdhmaaGreatReOne
namespace Go.Proofs.YtfkhefiilmdhmaaGreat
set_option linter.unusedVariables false
set_option linter.unusedSimpArgs false
open Go.RowKit

set_option maxRecDepth 100000 in
theorem rchecks_big (px py : Int) (w : World) (a : Option Addr) (n ca : Nat) (R : List (List Pt)) (hR : GRC w a n ca R) (hs : n ≤ 4611686018427387903) (hl : ∀ K ∈ R, K.length ≤ 8796093022208) (h : 30 < n ∨ 450 < allN R) :
    Calls Tryz.prog 3 #[.agg #[.slice a n ca], pt px py] w fun e w' => e = .returned (.bool true) ∧ Junk w w' := by
  have HR := Lib.hid hR
  have HL := Lib.hid (fun w' h => l_reBig w' a n ca R h hs hl)
  have hb : (decide (30 < n) || decide (450 < allN R)) = true := by simpa using h
  rw [hb] at HL
  unfold pt
  clear hR hb h
  go_enter Tryz.func3, Tryz.ntmps3
  go_wp2_with (go_at_call 6; refine (HL.out _ (HR.out.below (by (repeat' (first | (with_reducible exact Below.refl _ _) | (with_reducible assumption) | (with_reducible refine Below.alloc ?_ ?_ _) | (with_reducible refine Below.drew ?_) | (with_reducible refine below_drewN ?_ _) | (with_reducible refine below_plus ?_ ?_ _ _) | (with_reducible refine Below.setCell ?_ ?_ _) | (with_reducible refine Below.setRow ?_ ?_ _) | go_size))))).mono ?_; rintro e w1 ⟨rfl, J2, d2, rfl⟩)
  go_ret
  exact ⟨rfl, junk_of_below (by (repeat' (first | (with_reducible exact Below.refl _ _) | (with_reducible assumption) | (with_reducible refine Below.alloc ?_ ?_ _) | (with_reducible refine Below.drew ?_) | (with_reducible refine below_drewN ?_ _) | (with_reducible refine below_plus ?_ ?_ _ _) | (with_reducible refine Below.setCell ?_ ?_ _) | (with_reducible refine Below.setRow ?_ ?_ _) | go_size)))⟩
set_option maxRecDepth 100000 in
set_option maxHeartbeats 4000000 in
theorem rchecks_in (px py : Int) (w : World) (a : Option Addr) (n ca : Nat) (R : List (List Pt)) (hR : GRC w a n ca R) (h1 : n ≤ 30) (h2 : allN R ≤ 450) :
    Calls Tryz.prog 3 #[.agg #[.slice a n ca], pt px py] w fun e w' => e = .returned (.bool true) ∧ Junk w w' := by
  have hl := fun K hK => Nat.le_trans (le_alln (R := R) (K := K) hK) h2
  have HAw := Lib.hid l_reAwake
  have HR := Lib.hid hR
  have HL := Lib.hid (fun w' h => l_reBig w' a n ca R h (by omega) (fun K hK => by have := hl K hK; omega))
  have hb : (decide (30 < n) || decide (450 < allN R)) = false := by rw [decide_eq_false (by omega), decide_eq_false (by omega)]; rfl
  rw [hb] at HL
  have HOw := Lib.hid (fun w' h => k_OwnRegion w' a n ca R h (by omega) (fun K hK => by have := hl K hK; omega))
  have HB1 := Lib.hid (fun w' x c h => c_reBox w' x n c R h (by omega) (by rw [alln_flat]; omega))
  have HB2 := Lib.hid (fun w' h => r_reBox w' a n ca R h (by rw [alln_flat]; omega) (by omega))
  have HC1 := Lib.hid (fun w' x c h => c_reCheck w' x n c R h (by omega) (fun K hK => by have := hl K hK; omega))
  have HC2 := Lib.hid (fun w' h => r_reCheck w' a n ca R h (fun K hK => by have := hl K hK; omega))
  have HI1 := Lib.hid (fun w' x c h => c_reIn px py w' x n c R h (by omega) (fun K hK => by have := hl K hK; omega))
  have HI2 := Lib.hid (fun w' h => r_reIn px py w' a n ca R h (by omega) (fun K hK => by have := hl K hK; omega))
  have HE := Lib.hid (fun w' x c h h' => k_EqualRegion w' x a n c ca R h h' (by omega) (fun K hK => by have := hl K hK; omega))
  obtain ⟨⟨e, at_⟩, he⟩ : ∃ r, checkR R = r := ⟨_, rfl⟩
  rw [he] at HC1 HC2
  obtain ⟨B0, hB0⟩ : ∃ b, bndOk R.flatten = b := ⟨_, rfl⟩
  obtain ⟨x1, x2, x3, x4, hx⟩ : ∃ x1 x2 x3 x4, boxV R.flatten = bxV x1 x2 x3 x4 := ⟨_, _, _, _, rfl⟩
  rw [hB0, hx] at HB1 HB2
  obtain ⟨q, hq⟩ : ∃ q, regQ (px, py) R = q := ⟨_, rfl⟩
  rw [hq] at HI1 HI2
  unfold fltV at HC1 HC2
  simp only at HC1 HC2
  unfold pt bxV at *
  clear hR hl hb he hB0 hq hx
  go_enter Tryz.func3, Tryz.ntmps3
  go_upto_region 6 with (first
    | (go_at_call 6; refine (HL.out _ (HR.out.below (by (repeat' (first | (with_reducible exact Below.refl _ _) | (with_reducible assumption) | (with_reducible refine Below.alloc ?_ ?_ _) | (with_reducible refine Below.drew ?_) | (with_reducible refine below_drewN ?_ _) | (with_reducible refine below_plus ?_ ?_ _ _) | (with_reducible refine Below.setCell ?_ ?_ _) | (with_reducible refine Below.setRow ?_ ?_ _) | go_size))))).mono ?_; rintro e w1 ⟨rfl, J1, d1, rfl⟩)
    | (go_at_call 7; refine (HOw.out _ (HR.out.below (by (repeat' (first | (with_reducible exact Below.refl _ _) | (with_reducible assumption) | (with_reducible refine Below.alloc ?_ ?_ _) | (with_reducible refine Below.drew ?_) | (with_reducible refine below_drewN ?_ _) | (with_reducible refine below_plus ?_ ?_ _ _) | (with_reducible refine Below.setCell ?_ ?_ _) | (with_reducible refine Below.setRow ?_ ?_ _) | go_size))))).mono ?_; rintro e w1 ⟨⟨x, c, rfl, hg⟩, J2, d2, rfl⟩; (try simp only [plus_plus, Array.append_assoc] at hg); have HG := Lib.hid hg; clear hg)
    | (go_at_call 8; refine (HB1.out _ _ _ (HG.out.below (by ((try simp only [← Array.append_assoc]); repeat' (first | (with_reducible exact Below.refl _ _) | (with_reducible assumption) | (with_reducible refine Below.alloc ?_ ?_ _) | (with_reducible refine Below.drew ?_) | (with_reducible refine below_drewN ?_ _) | (with_reducible exact below_d _ _ _ _ _) | (with_reducible refine below_snoc _ _ ?_ ?_) | (with_reducible refine below_plus ?_ ?_ _ _) | (with_reducible refine Below.setCell ?_ ?_ _) | (with_reducible refine Below.setRow ?_ ?_ _) | go_size))))).mono ?_; rintro e w1 ⟨rfl, J3, d3, rfl⟩)
    | (go_at_call 9; refine (HB2.out _ (HR.out.below (by (repeat' (first | (with_reducible exact Below.refl _ _) | (with_reducible assumption) | (with_reducible refine Below.alloc ?_ ?_ _) | (with_reducible refine Below.drew ?_) | (with_reducible refine below_drewN ?_ _) | (with_reducible refine below_plus ?_ ?_ _ _) | (with_reducible refine Below.setCell ?_ ?_ _) | (with_reducible refine Below.setRow ?_ ?_ _) | go_size))))).mono ?_; rintro e w1 ⟨rfl, J4, d4, rfl⟩))
  obtain ⟨A, hA⟩ : ∃ A, w.heap.size + 1 + 1 + (J1.size + J2.size) = A := ⟨_, rfl⟩
  obtain ⟨B, hB⟩ : ∃ B, A + 1 + J3.size = B := ⟨_, rfl⟩
  obtain ⟨C, hC⟩ : ∃ C, B + 1 + J4.size = C := ⟨_, rfl⟩
  obtain ⟨W, hW⟩ : ∃ W, ((((((((w.alloc (.cells #[.slice a n ca] 24)).alloc (.cells #[.int .i64 px, .int .i64 py] 26)).plus (J1 ++ J2) d2).alloc (.cells #[.slice x n c] 24)).plus J3 d3).alloc (.cells #[.int .i64 x1, .int .i64 x2, .int .i64 x3, .int .i64 x4] 30)).plus J4 d4).alloc (.cells #[.int .i64 x1, .int .i64 x2, .int .i64 x3, .int .i64 x4] 30)) = W := ⟨_, rfl⟩
  have p0 : W.cell? ⟨w.heap.size, 0, none⟩ = some (.slice a n ca) := by rw [← hW]; simp [go_sem]
  have p1 : W.cell? ⟨w.heap.size + 1, 0, none⟩ = some (.int .i64 px) := by rw [← hW]; simp [go_sem]
  have p2 : W.cell? ⟨w.heap.size + 1, 1, none⟩ = some (.int .i64 py) := by rw [← hW]; simp [go_sem]
  have p3 : W.cell? ⟨A, 0, none⟩ = some (.slice x n c) := by rw [← hW, ← hA]; simp [go_sem]
  have f0 : W.cell? ⟨B, 0, none⟩ = some (.int .i64 x1) := by rw [← hW, ← hB, ← hA]; simp [go_sem]
  have f1 : W.cell? ⟨B, 1, none⟩ = some (.int .i64 x2) := by rw [← hW, ← hB, ← hA]; simp [go_sem]
  have f2 : W.cell? ⟨B, 2, none⟩ = some (.int .i64 x3) := by rw [← hW, ← hB, ← hA]; simp [go_sem]
  have f3 : W.cell? ⟨B, 3, none⟩ = some (.int .i64 x4) := by rw [← hW, ← hB, ← hA]; simp [go_sem]
  have g0 : W.cell? ⟨C, 0, none⟩ = some (.int .i64 x1) := by rw [← hW, ← hC, ← hB, ← hA]; simp [go_sem]
  have g1 : W.cell? ⟨C, 1, none⟩ = some (.int .i64 x2) := by rw [← hW, ← hC, ← hB, ← hA]; simp [go_sem]
  have g2 : W.cell? ⟨C, 2, none⟩ = some (.int .i64 x3) := by rw [← hW, ← hC, ← hB, ← hA]; simp [go_sem]
  have g3 : W.cell? ⟨C, 3, none⟩ = some (.int .i64 x4) := by rw [← hW, ← hC, ← hB, ← hA]; simp [go_sem]
  have hj : Below w.heap.size w W := by rw [← hW]; ((try simp only [← Array.append_assoc]); repeat' (first | (with_reducible exact Below.refl _ _) | (with_reducible assumption) | (with_reducible refine Below.alloc ?_ ?_ _) | (with_reducible refine Below.drew ?_) | (with_reducible refine below_drewN ?_ _) | (with_reducible exact below_d _ _ _ _ _) | (with_reducible refine below_snoc _ _ ?_ ?_) | (with_reducible refine below_plus ?_ ?_ _ _) | (with_reducible refine Below.setCell ?_ ?_ _) | (with_reducible refine Below.setRow ?_ ?_ _) | go_size))
  have kG : GRC W x n c R := by rw [← hW]; exact HG.out.below (by ((try simp only [← Array.append_assoc]); repeat' (first | (with_reducible exact Below.refl _ _) | (with_reducible assumption) | (with_reducible refine Below.alloc ?_ ?_ _) | (with_reducible refine Below.drew ?_) | (with_reducible refine below_drewN ?_ _) | (with_reducible exact below_d _ _ _ _ _) | (with_reducible refine below_snoc _ _ ?_ ?_) | (with_reducible refine below_plus ?_ ?_ _ _) | (with_reducible refine Below.setCell ?_ ?_ _) | (with_reducible refine Below.setRow ?_ ?_ _) | go_size)))
  have kR := HR.out.below hj
  have l0 : w.heap.size < W.heap.size := World.block_lt_of_cell? _ _ p0
  have l1 : w.heap.size + 1 < W.heap.size := World.block_lt_of_cell? _ _ p1
  have l2 : A < W.heap.size := World.block_lt_of_cell? _ _ p3
  have l3 : B < W.heap.size := World.block_lt_of_cell? _ _ f0
  have l4 : C < W.heap.size := World.block_lt_of_cell? _ _ g0
  have HJ := Lib.hid hj
  have HA1 := Lib.hid (fun (J : Array Obj) (d : Nat) => HC1.out (W.plus J d) x c (kG.below (Junk.below ⟨J, d, rfl⟩)))
  have HA2 := Lib.hid (fun (J : Array Obj) (d : Nat) => HC2.out (W.plus J d) (kR.below (Junk.below ⟨J, d, rfl⟩)))
  have HA3 := Lib.hid (fun (J : Array Obj) (d : Nat) => HI1.out (W.plus J d) x c (kG.below (Junk.below ⟨J, d, rfl⟩)))
  have HA4 := Lib.hid (fun (J : Array Obj) (d : Nat) => HI2.out (W.plus J d) (kR.below (Junk.below ⟨J, d, rfl⟩)))
  have HA5 := Lib.hid (fun (J : Array Obj) (d : Nat) => HE.out (W.plus J d) x c (kG.below (Junk.below ⟨J, d, rfl⟩)) (kR.below (Junk.below ⟨J, d, rfl⟩)))
  simp only [hA, hB, hC, hW]
  clear hA hB hC
  clear hW hj kG kR HC1 HC2 HI1 HI2 HE HG HL HB1 HB2 HOw
  refine region_quiet_all (C := Cls W) (by kernel_rfl) (by kernel_rfl) (cls_drawn _) ?_
  repeat (first | (refine qw_skip (by rfl) ?_; simp only [Act.put, List.setIfInBounds_toArray, List.set_cons_succ, List.set_cons_zero]) | (refine qw_want (by rfl) (fun K hK => ?_); go_simp; first | (refine hK _ ?_; clear hK K) | (apply Exists.intro; refine ⟨?_, hK _ ?_⟩; (rintro w3_ ⟨J3_, d3_, rfl⟩; first | (with_reducible exact rfl) | (go_simp; with_reducible exact rfl) | (go_simp; (first | (with_reducible refine (HAw.out _).mono ?_) | (with_reducible refine (HA1.out _ _).mono ?_) | (with_reducible refine (HA2.out _ _).mono ?_) | (with_reducible refine (HA3.out _ _).mono ?_) | (with_reducible refine (HA4.out _ _).mono ?_) | (with_reducible refine (HA5.out _ _).mono ?_)); rintro e_ w_ ⟨rfl, J4_, d4_, rfl⟩; exact ⟨rfl, J3_ ++ J4_, d4_, by simp only [plus_plus, Array.append_assoc]⟩)); clear hK K)))
  refine qw_nil ?_
  rintro w6 ⟨J8, d8, rfl⟩
  go_wp2_with fail
  go_ret
  exact ⟨rfl, junk_of_below (HJ.out.trans ((Junk.below ⟨_, _, rfl⟩).mono HJ.out.size))⟩
theorem l_regionChecks (w : World) (a : Option Addr) (n ca : Nat) (R : List (List Pt)) (hR : GRC w a n ca R) (hs : n ≤ 4611686018427387903) (hl : ∀ K ∈ R, K.length ≤ 8796093022208) (px py : Int) :
    Calls Tryz.prog 3 #[.agg #[.slice a n ca], pt px py] w fun e w' => e = .returned (.bool true) ∧ Junk w w' := by
  by_cases h : 30 < n ∨ 450 < allN R
  · exact rchecks_big px py w a n ca R hR hs hl h
  · exact rchecks_in px py w a n ca R hR (by omega) (by omega)
end Go.Proofs.YtfkhefiilmdhmaaGreat

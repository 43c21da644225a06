/- The law InsideTells: the walk. -/
import Derived.Test.YthjjhfopmianoaaInB
import Derived.Test.YthjjhfopmianoaaRiO
namespace Go.Proofs.Ythjjhfopmianoaa
set_option linter.unusedVariables false
set_option linter.unusedSimpArgs false
open Go.RowKit

set_option maxRecDepth 100000 in
set_option maxHeartbeats 4000000 in
theorem tells_in (px py ax ay bx by_ : Int) (w : World) (a : Option Addr) (n ca : Nat) (K : List Pt) (hK : PRC w a n ca K) (hz : a = none → n = 0 ∧ ca = 0) (h1 : ¬ 300 < n) :
    Calls Try.prog 3 #[pt px py, pt ax ay, pt bx by_, .slice a n ca] w fun e w' => e = .returned (.bool true) ∧ Junk w w' := by
  have HAw := Lib.hid l_inAwake
  have HA := Lib.hid (fun w' => c_inCounts px py ax ay bx by_ w')
  have HB := Lib.hid (fun w' => r_inCounts px py ax ay bx by_ w')
  have HC := Lib.hid (fun w' a' ca' h => c_inCross px py w' a' n ca' K h (by omega))
  have HD := Lib.hid (fun w' h => r_inCross px py w' a n ca K h (by omega))
  have HE := Lib.hid (fun w' a' ca' h => c_inIn px py w' a' n ca' K h (by omega))
  have HF := Lib.hid (fun w' h => r_inIn px py w' a n ca K h (by omega))
  have HG := Lib.hid (fun w' a' b' ca' cb' h1' h2' => sp_pt K n (by omega) w' a' b' ca' cb' h1' h2')
  have i1 : ¬ (300 : Int) < (n : Int) := by omega
  have L1 := Lib.hid (show n ≤ 500 by omega)
  have HK := Lib.hid hK
  have HZ := Lib.hid hz
  generalize countC (px, py) (ax, ay) (bx, by_) = c at *
  generalize crossN (px, py) K = q at *
  generalize inQ (px, py) K = r at *
  unfold pt at *
  clear hK hz h1
  go_enter Try.func3, Try.ntmps3
  go_upto_region 4 with (at_builtin; refine wpList_ccopy rfl (.tmp 13) (.tmp 14) rfl (by simp [go_sem]) a n ca K rfl HZ.out (HK.out.below (by (repeat' (first | (with_reducible exact Below.refl _ _) | (with_reducible assumption) | (with_reducible refine Below.alloc ?_ ?_ _) | (with_reducible refine Below.drew ?_) | (with_reducible refine below_drewN ?_ _) | (with_reducible refine below_plus ?_ ?_ _ _) | (with_reducible refine Below.setCell ?_ ?_ _) | (with_reducible refine Below.setRow ?_ ?_ _) | go_size)))) L1.out ?_; rintro v1 wA ⟨a1, c1, rfl, hr1, hb1⟩; have HR1 := Lib.hid hr1; have HBA := Lib.hid hb1; clear hr1 hb1)
  obtain ⟨W3, hW3⟩ : ∃ W3, (((w.alloc (.cells #[.int .i64 px, .int .i64 py] 23)).alloc (.cells #[.int .i64 ax, .int .i64 ay] 23)).alloc (.cells #[.int .i64 bx, .int .i64 by_] 23)) = W3 := ⟨_, rfl⟩
  have hbA := HBA.out
  rw [hW3] at hbA
  have hb3 : Below w.heap.size w W3 := by rw [← hW3]; (repeat' (first | (with_reducible exact Below.refl _ _) | (with_reducible assumption) | (with_reducible refine Below.alloc ?_ ?_ _) | (with_reducible refine Below.drew ?_) | (with_reducible refine below_drewN ?_ _) | (with_reducible refine below_plus ?_ ?_ _ _) | (with_reducible refine Below.setCell ?_ ?_ _) | (with_reducible refine Below.setRow ?_ ?_ _) | go_size))
  have hs3 : W3.heap.size = w.heap.size + 3 := by rw [← hW3]; simp
  have b0 : Blk W3 w.heap.size #[.int .i64 px, .int .i64 py] 23 := by rw [← hW3]; exact ((Blk.new w _ _).alloc _).alloc _
  have b1 : Blk W3 (w.heap.size + 1) #[.int .i64 ax, .int .i64 ay] 23 := by rw [← hW3]; exact (blk_new2 (by simp) _ _).alloc _
  have b2 : Blk W3 (w.heap.size + 1 + 1) #[.int .i64 bx, .int .i64 by_] 23 := by rw [← hW3]; exact blk_new2 (by simp) _ _
  have d0 := b0.below hbA
  have d1 := b1.below hbA
  have d2 := b2.below hbA
  have p0 : wA.cell? ⟨w.heap.size, 0, none⟩ = some (.int .i64 px) := d0.cell 0
  have p1 : wA.cell? ⟨w.heap.size, 1, none⟩ = some (.int .i64 py) := d0.cell 1
  have p2 : wA.cell? ⟨w.heap.size + 1, 0, none⟩ = some (.int .i64 ax) := d1.cell 0
  have p3 : wA.cell? ⟨w.heap.size + 1, 1, none⟩ = some (.int .i64 ay) := d1.cell 1
  have p4 : wA.cell? ⟨w.heap.size + 1 + 1, 0, none⟩ = some (.int .i64 bx) := d2.cell 0
  have p5 : wA.cell? ⟨w.heap.size + 1 + 1, 1, none⟩ = some (.int .i64 by_) := d2.cell 1
  have l0 := d0.lt
  have l1 := d1.lt
  have l2 := d2.lt
  have HBW := Lib.hid (hb3.trans (hbA.mono hb3.size))
  have HKA := Lib.hid (HK.out.below HBW.out)
  have HC1 := Lib.hid (fun (J : Array Obj) (d : Nat) => HC.out (wA.plus J d) a1 c1 (HR1.out.below (Junk.below ⟨J, d, rfl⟩)))
  have HD1 := Lib.hid (fun (J : Array Obj) (d : Nat) => HD.out (wA.plus J d) (HKA.out.below (Junk.below ⟨J, d, rfl⟩)).rd)
  have HE1 := Lib.hid (fun (J : Array Obj) (d : Nat) => HE.out (wA.plus J d) a1 c1 (HR1.out.below (Junk.below ⟨J, d, rfl⟩)))
  have HF1 := Lib.hid (fun (J : Array Obj) (d : Nat) => HF.out (wA.plus J d) (HKA.out.below (Junk.below ⟨J, d, rfl⟩)).rd)
  have HG1 := Lib.hid (fun (J : Array Obj) (d : Nat) => HG.out (wA.plus J d) a1 a c1 ca (HR1.out.below (Junk.below ⟨J, d, rfl⟩)) (HKA.out.below (Junk.below ⟨J, d, rfl⟩)))
  clear hW3 hbA hb3 hs3 b0 b1 b2 d0 d1 d2 HC HD HE HF HG HBA HR1 HKA HK
  refine region_quiet_all (C := Cls wA) (by kernel_rfl) (by kernel_rfl) (cls_drawn _) ?_
  repeat (first | (refine qw_skip (by rfl) ?_; simp only [Act.put, List.setIfInBounds_toArray, List.set_cons_succ, List.set_cons_zero]) | (refine qw_want (by rfl) (fun K hK => ?_); go_simp; first | (refine hK _ ?_; clear hK K) | (apply Exists.intro; refine ⟨?_, hK _ ?_⟩; (rintro w3_ ⟨J3_, d3_, rfl⟩; first | (with_reducible exact rfl) | (go_simp; with_reducible exact rfl) | (go_simp; (first | (with_reducible refine (HA.out _).mono ?_) | (with_reducible refine (HB.out _).mono ?_) | (with_reducible refine (HAw.out _).mono ?_) | (with_reducible refine (HC1.out _ _).mono ?_) | (with_reducible refine (HD1.out _ _).mono ?_) | (with_reducible refine (HE1.out _ _).mono ?_) | (with_reducible refine (HF1.out _ _).mono ?_) | (with_reducible refine (HG1.out _ _).mono ?_)); rintro e_ w_ ⟨rfl, J4_, d4_, rfl⟩; exact ⟨rfl, J3_ ++ J4_, d4_, by simp only [plus_plus, Array.append_assoc]⟩)); clear hK K)))
  refine qw_nil ?_
  rintro w4 ⟨J3, d3, rfl⟩
  go_wp2_with fail
  go_ret
  exact ⟨rfl, junk_of_below (HBW.out.trans ((Junk.below ⟨_, _, rfl⟩).mono HBW.out.size))⟩
set_option maxRecDepth 100000 in
theorem tells_big (px py ax ay bx by_ : Int) (w : World) (a : Option Addr) (n ca : Nat) (h : 300 < n) :
    Calls Try.prog 3 #[pt px py, pt ax ay, pt bx by_, .slice a n ca] w fun e w' => e = .returned (.bool true) ∧ Junk w w' := by
  have i1 : (300 : Int) < (n : Int) := by omega
  unfold pt
  clear h
  go_enter Try.func3, Try.ntmps3
  go_wp2_with fail
  go_ret
  exact ⟨rfl, junk_of_below (by (repeat' (first | (with_reducible exact Below.refl _ _) | (with_reducible assumption) | (with_reducible refine Below.alloc ?_ ?_ _) | (with_reducible refine Below.drew ?_) | (with_reducible refine below_drewN ?_ _) | (with_reducible refine below_plus ?_ ?_ _ _) | (with_reducible refine Below.setCell ?_ ?_ _) | (with_reducible refine Below.setRow ?_ ?_ _) | go_size)))⟩
theorem l_insideTells (w : World) (px py ax ay bx by_ : Int) (a : Option Addr) (n ca : Nat) (K : List Pt) (hK : PRC w a n ca K) (_ : n ≤ 9223372036854775807) (hz : a = none → n = 0 ∧ ca = 0) :
    Calls Try.prog 3 #[pt px py, pt ax ay, pt bx by_, .slice a n ca] w fun e w' => e = .returned (.bool true) ∧ Junk w w' := by
  by_cases h1 : 300 < n
  · exact tells_big px py ax ay bx by_ w a n ca h1
  · exact tells_in px py ax ay bx by_ w a n ca K hK hz h1
end Go.Proofs.Ythjjhfopmianoaa

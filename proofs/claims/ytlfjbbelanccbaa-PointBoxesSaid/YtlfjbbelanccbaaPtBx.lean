/- The law PointBoxes: the walk. -/
import Derived.Test.YtlfjbbelanccbaaPtBc
namespace Go.Proofs.Ytlfjbbelanccbaa
set_option linter.unusedVariables false
set_option linter.unusedSimpArgs false
open Go.RowKit

set_option maxRecDepth 100000 in
set_option maxHeartbeats 4000000 in
theorem l_pointBoxes (w : World) (a : Option Addr) (len cap : Nat) (K : List (Int × Int)) (hK : PReads w a len K) (hs : len ≤ 9223372036854775807) (hn : a = none → len = 0 ∧ cap = 0)
    (px py x1 x2 x3 x4 y1 y2 y3 y4 : Int) : Calls Try.prog 4 #[.slice a len cap, pt px py, bxV x1 x2 x3 x4, bxV y1 y2 y3 y4] w fun e w' => e = .returned (.bool true) ∧ Junk w w' := by
  have HK := Lib.hid hK
  have HN := Lib.hid hn
  clear hK hn
  by_cases h500 : 500 < len
  · have i1 : (500 : Int) < (len : Int) := by omega
    unfold pt bxV
    go_enter Try.func4, Try.ntmps4
    go_wp2_with fail
    go_ret
    exact ⟨rfl, junk_of_below (by (repeat' (first | (with_reducible exact Below.refl _ _) | (with_reducible assumption) | (with_reducible refine Below.alloc ?_ ?_ _) | (with_reducible refine Below.drew ?_) | (with_reducible refine below_drewN ?_ _) | (with_reducible refine below_plus ?_ ?_ _ _) | (with_reducible refine Below.setCell ?_ ?_ _) | (with_reducible refine Below.setRow ?_ ?_ _) | go_size)))⟩
  have i1 : ¬ (500 : Int) < (len : Int) := by omega
  have HI1 := Lib.hid (fun w' => n_ptIn px py x1 x2 x3 x4 w')
  have HI2 := Lib.hid (fun w' => r_ptIn px py x1 x2 x3 x4 w')
  have HX1 := Lib.hid (fun w' => n_ptMeet x1 x2 x3 x4 y1 y2 y3 y4 w')
  have HX2 := Lib.hid (fun w' => r_ptMeet x1 x2 x3 x4 y1 y2 y3 y4 w')
  have H9 := Lib.hid l_ptAwake
  generalize inF px py x1 x2 x3 x4 = io at *
  generalize meetF x1 x2 x3 x4 y1 y2 y3 y4 = mo at *
  unfold pt bxV at *
  go_enter Try.func4, Try.ntmps4
  go_upto_region 3 with fail
  obtain ⟨W3, hW⟩ : ∃ W, (((w.alloc (.cells #[.int .i64 px, .int .i64 py] 23)).alloc (.cells #[.int .i64 x1, .int .i64 x2, .int .i64 x3, .int .i64 x4] 34)).alloc (.cells #[.int .i64 y1, .int .i64 y2, .int .i64 y3, .int .i64 y4] 34)) = W := ⟨_, rfl⟩
  have c00 : W3.cell? ⟨w.heap.size, 0, none⟩ = some (.int .i64 px) := by rw [← hW]; simp [go_sem]
  have c01 : W3.cell? ⟨w.heap.size, 1, none⟩ = some (.int .i64 py) := by rw [← hW]; simp [go_sem]
  have hb0 : w.heap.size < W3.heap.size := by rw [← hW]; simp; try omega
  have c10 : W3.cell? ⟨w.heap.size + 1, 0, none⟩ = some (.int .i64 x1) := by rw [← hW]; simp [go_sem]
  have c11 : W3.cell? ⟨w.heap.size + 1, 1, none⟩ = some (.int .i64 x2) := by rw [← hW]; simp [go_sem]
  have c12 : W3.cell? ⟨w.heap.size + 1, 2, none⟩ = some (.int .i64 x3) := by rw [← hW]; simp [go_sem]
  have c13 : W3.cell? ⟨w.heap.size + 1, 3, none⟩ = some (.int .i64 x4) := by rw [← hW]; simp [go_sem]
  have hb1 : w.heap.size + 1 < W3.heap.size := by rw [← hW]; simp; try omega
  have c20 : W3.cell? ⟨w.heap.size + 1 + 1, 0, none⟩ = some (.int .i64 y1) := by rw [← hW]; simp [go_sem]
  have c21 : W3.cell? ⟨w.heap.size + 1 + 1, 1, none⟩ = some (.int .i64 y2) := by rw [← hW]; simp [go_sem]
  have c22 : W3.cell? ⟨w.heap.size + 1 + 1, 2, none⟩ = some (.int .i64 y3) := by rw [← hW]; simp [go_sem]
  have c23 : W3.cell? ⟨w.heap.size + 1 + 1, 3, none⟩ = some (.int .i64 y4) := by rw [← hW]; simp [go_sem]
  have hb2 : w.heap.size + 1 + 1 < W3.heap.size := by rw [← hW]; simp; try omega
  have hj : Below w.heap.size w W3 := by rw [← hW]; (repeat' (first | (with_reducible exact Below.refl _ _) | (with_reducible assumption) | (with_reducible refine Below.alloc ?_ ?_ _) | (with_reducible refine Below.drew ?_) | (with_reducible refine below_drewN ?_ _) | (with_reducible refine below_plus ?_ ?_ _ _) | (with_reducible refine Below.setCell ?_ ?_ _) | (with_reducible refine Below.setRow ?_ ?_ _) | go_size))
  have HK3 := Lib.hid (HK.out.below hj)
  have hsz : w.heap.size ≤ W3.heap.size := hj.size
  rw [hW]
  clear hW
  go_cut [9] from 17 to 19 (fun v wx => PCopied W3 len K v wx)
  case first =>
    go_wp2_with (at_builtin; refine wpList_pcopy rfl (.tmp 17) (.tmp 18) rfl rfl a len cap K rfl HN.out HK3.out (by omega) ?_; intro v' w' hc)
    go_meet
    case rel => exact hc
  case rest =>
    obtain ⟨a', cap', rfl, R2, hbc⟩ := hcut
    have HB1 := Lib.hid (fun w' (h : PReads w' a' len K) => n_ptBounds w' a' len cap' K h hs)
    have HB2 := Lib.hid (fun w' (h : PReads w' a len K) => r_ptBounds w' a len cap K h hs)
    have R1 := Lib.hid (HK3.out.below hbc)
    have R2 := Lib.hid R2
    unfold boxV at HB1 HB2
    generalize boxF K = V at *
    obtain ⟨v0, v1, v2, v3⟩ := V
    generalize bndOk K = bo at *
    unfold bxV at HB1 HB2
    simp only at HB1 HB2
    go_upto_region 6 with (first | (go_at_call 22; refine (HB1.out _ (R2.out.below (by (repeat' (first | (with_reducible exact Below.refl _ _) | (with_reducible assumption) | (with_reducible refine Below.alloc ?_ ?_ _) | (with_reducible refine Below.drew ?_) | (with_reducible refine below_drewN ?_ _) | (with_reducible refine below_plus ?_ ?_ _ _) | (with_reducible refine Below.setCell ?_ ?_ _) | (with_reducible refine Below.setRow ?_ ?_ _) | go_size))))).mono ?_; rintro e w1 ⟨rfl, J1, d1, rfl⟩) | (go_at_call 23; refine (HB2.out _ (R1.out.below (by (repeat' (first | (with_reducible exact Below.refl _ _) | (with_reducible assumption) | (with_reducible refine Below.alloc ?_ ?_ _) | (with_reducible refine Below.drew ?_) | (with_reducible refine below_drewN ?_ _) | (with_reducible refine below_plus ?_ ?_ _ _) | (with_reducible refine Below.setCell ?_ ?_ _) | (with_reducible refine Below.setRow ?_ ?_ _) | go_size))))).mono ?_; rintro e w1 ⟨rfl, J2, d2, rfl⟩))
    generalize hW6 : World.alloc _ (.cells #[.int .i64 v0, .int .i64 v1, .int .i64 v2, .int .i64 v3] _) = W6
    have hj7 : Below wc.heap.size wc W6 := by rw [← hW6]; (repeat' (first | (with_reducible exact Below.refl _ _) | (with_reducible assumption) | (with_reducible refine Below.alloc ?_ ?_ _) | (with_reducible refine Below.drew ?_) | (with_reducible refine below_drewN ?_ _) | (with_reducible refine below_plus ?_ ?_ _ _) | (with_reducible refine Below.setCell ?_ ?_ _) | (with_reducible refine Below.setRow ?_ ?_ _) | go_size))
    have hj6 : Below W3.heap.size W3 W6 := hbc.trans (hj7.mono hbc.size)
    have r00 := (World.cell?_of_block (a := ⟨w.heap.size, 0, none⟩) (hj6.block _ hb0)).trans c00
    have r01 := (World.cell?_of_block (a := ⟨w.heap.size, 1, none⟩) (hj6.block _ hb0)).trans c01
    have rb0 : w.heap.size < W6.heap.size := Nat.lt_of_lt_of_le hb0 hj6.size
    have r10 := (World.cell?_of_block (a := ⟨w.heap.size + 1, 0, none⟩) (hj6.block _ hb1)).trans c10
    have r11 := (World.cell?_of_block (a := ⟨w.heap.size + 1, 1, none⟩) (hj6.block _ hb1)).trans c11
    have r12 := (World.cell?_of_block (a := ⟨w.heap.size + 1, 2, none⟩) (hj6.block _ hb1)).trans c12
    have r13 := (World.cell?_of_block (a := ⟨w.heap.size + 1, 3, none⟩) (hj6.block _ hb1)).trans c13
    have rb1 : w.heap.size + 1 < W6.heap.size := Nat.lt_of_lt_of_le hb1 hj6.size
    have r20 := (World.cell?_of_block (a := ⟨w.heap.size + 1 + 1, 0, none⟩) (hj6.block _ hb2)).trans c20
    have r21 := (World.cell?_of_block (a := ⟨w.heap.size + 1 + 1, 1, none⟩) (hj6.block _ hb2)).trans c21
    have r22 := (World.cell?_of_block (a := ⟨w.heap.size + 1 + 1, 2, none⟩) (hj6.block _ hb2)).trans c22
    have r23 := (World.cell?_of_block (a := ⟨w.heap.size + 1 + 1, 3, none⟩) (hj6.block _ hb2)).trans c23
    have rb2 : w.heap.size + 1 + 1 < W6.heap.size := Nat.lt_of_lt_of_le hb2 hj6.size
    have q10 : W6.cell? ⟨wc.heap.size + J1.size, 0, none⟩ = some (.int .i64 v0) := by rw [← hW6]; simp [go_sem]
    have q11 : W6.cell? ⟨wc.heap.size + J1.size, 1, none⟩ = some (.int .i64 v1) := by rw [← hW6]; simp [go_sem]
    have q12 : W6.cell? ⟨wc.heap.size + J1.size, 2, none⟩ = some (.int .i64 v2) := by rw [← hW6]; simp [go_sem]
    have q13 : W6.cell? ⟨wc.heap.size + J1.size, 3, none⟩ = some (.int .i64 v3) := by rw [← hW6]; simp [go_sem]
    have qb1 : wc.heap.size + J1.size < W6.heap.size := by rw [← hW6]; simp; try omega
    have q20 : W6.cell? ⟨wc.heap.size + J1.size + 1 + J2.size, 0, none⟩ = some (.int .i64 v0) := by rw [← hW6]; simp [go_sem]
    have q21 : W6.cell? ⟨wc.heap.size + J1.size + 1 + J2.size, 1, none⟩ = some (.int .i64 v1) := by rw [← hW6]; simp [go_sem]
    have q22 : W6.cell? ⟨wc.heap.size + J1.size + 1 + J2.size, 2, none⟩ = some (.int .i64 v2) := by rw [← hW6]; simp [go_sem]
    have q23 : W6.cell? ⟨wc.heap.size + J1.size + 1 + J2.size, 3, none⟩ = some (.int .i64 v3) := by rw [← hW6]; simp [go_sem]
    have qb2 : wc.heap.size + J1.size + 1 + J2.size < W6.heap.size := by rw [← hW6]; simp; try omega
    have hj8 : Below w.heap.size w W6 := hj.trans (hj6.mono hsz)
    have hsz8 : w.heap.size ≤ W6.heap.size := hj8.size
    have HS := Lib.hid (show ∀ J d, Calls Try.prog 24 #[.slice a' len cap', .slice a len cap] (W6.plus J d) fun e w' => e = .returned (.bool true) ∧ Junk (W6.plus J d) w' from fun J d => by
      have h := k_SamePoints (W6.plus J d) a' a len len cap' cap K K ((R2.out.below hj7).below (Junk.below ⟨J, d, rfl⟩)) ((R1.out.below hj7).below (Junk.below ⟨J, d, rfl⟩)) hs
      rw [decide_eq_true rfl] at h
      exact h)
    generalize wc.heap.size + J1.size + 1 + J2.size = p2 at *
    generalize wc.heap.size + J1.size = p1 at *
    clear hW6
    refine region_quiet_all (C := Cls W6) (by kernel_rfl) (by kernel_rfl) (cls_drawn _) ?_
    repeat (first | (first | (refine qw_skip (by rfl) ?_; simp only [Act.put, List.setIfInBounds_toArray, List.set_cons_succ, List.set_cons_zero]) | (refine qw_want (by rfl) (fun K hK => ?_); go_simp; first | (refine hK _ ?_; clear hK K) | (apply Exists.intro; refine ⟨?_, hK _ ?_⟩; (rintro w3_ ⟨J3_, d3_, rfl⟩; first | (with_reducible exact rfl) | (go_simp; with_reducible exact rfl) | (go_simp; (first | (with_reducible refine (HI1.out _).mono ?_) | (with_reducible refine (HI2.out _).mono ?_) | (with_reducible refine (HX1.out _).mono ?_) | (with_reducible refine (HX2.out _).mono ?_) | (with_reducible refine (H9.out _).mono ?_)); rintro e_ w_ ⟨rfl, J4_, d4_, rfl⟩; exact ⟨rfl, J3_ ++ J4_, d4_, by simp only [plus_plus, Array.append_assoc]⟩)); clear hK K))) | (refine qw_want (by rfl) (fun K hK => ?_); go_simp; apply Exists.intro; refine ⟨?_, hK _ ?_⟩; (rintro w3_ ⟨J3_, d3_, rfl⟩; go_simp; (with_reducible refine (HS.out _ _).mono ?_); rintro e_ w_ ⟨rfl, J4_, d4_, rfl⟩; exact ⟨rfl, J3_ ++ J4_, d4_, by simp only [plus_plus, Array.append_assoc]⟩); clear hK K))
    refine qw_nil ?_
    rintro w3 ⟨J3, d3, rfl⟩
    go_wp2
    go_ret
    exact ⟨rfl, junk_of_below (by (repeat' (first | (with_reducible exact Below.refl _ _) | (with_reducible assumption) | (with_reducible refine Below.alloc ?_ ?_ _) | (with_reducible refine Below.drew ?_) | (with_reducible refine below_drewN ?_ _) | (with_reducible refine below_plus ?_ ?_ _ _) | (with_reducible refine Below.setCell ?_ ?_ _) | (with_reducible refine Below.setRow ?_ ?_ _) | go_size)))⟩
end Go.Proofs.Ytlfjbbelanccbaa

/- The law InsideSame: the walk. -/
import Derived.Test.YthjjhfopmianoaaInT
import Derived.Test.YthjjhfopmianoaaPtI
namespace Go.Proofs.Ythjjhfopmianoaa
set_option linter.unusedVariables false
set_option linter.unusedSimpArgs false
open Go.RowKit

theorem mv_ok {x y u v : Int} (h : moveE x y u v = 0) : okP x y = true ∧ okP (x + u) (y + v) = true ∧ moveX x y u v = x + u ∧ moveY x y u v = y + v := by
  refine ⟨?_, ?_, by unfold moveX; rw [if_pos h], by unfold moveY; rw [if_pos h]⟩
  · unfold moveE at h
    split at h
    · rename_i hc
      rw [Bool.and_eq_true] at hc
      exact hc.1
    · cases h
  · unfold moveE at h
    split at h
    · split at h
      · assumption
      · cases h
    · cases h
theorem cross_moved {p u : Pt} {K : List Pt} (hp : moveE p.1 p.2 u.1 u.2 = 0) (hK : ∀ a ∈ K, moveE a.1 a.2 u.1 u.2 = 0) : crossN (movQ u p) (K.map (movQ u)) = crossN p K := by
  obtain ⟨p1, p2, _, _⟩ := mv_ok hp
  exact cross_map p (movQ u) (movQ u p) K fun a ha b hb => by
    obtain ⟨a1, a2, _, _⟩ := mv_ok (hK a ha)
    obtain ⟨b1, b2, _, _⟩ := mv_ok (hK b hb)
    exact count_mov p1 a1 b1 p2 a2 b2

/-- Between two rounds: what has been moved. -/
def SmAt (W : World) (K : List Pt) (u v : Int) (m i : Value) (wr : World) : Prop :=
  ∃ k : Nat, i = .int .i64 (k : Int) ∧ k ≤ K.length ∧ wr.ownsRow W.heap.size 23 2 m k (pcells ((K.take k).map (movQ (u, v)))) ∧ (∀ a ∈ K.take k, moveE a.1 a.2 u v = 0) ∧ Below W.heap.size W wr
/-- A point that has been laid, behind what lay there. -/
def MvAt (W : World) (x y : Int) (t : Value) (wx : World) : Prop := ∃ B, t = .pointer (some ⟨B, 0, none⟩) ∧ W.heap.size ≤ B ∧ Blk wx B #[.int .i64 x, .int .i64 y] 23 ∧ Below W.heap.size W wx

theorem mv_a (W : World) (x y : Int) (J : Array Obj) (d : Nat) : MvAt W x y (.pointer (some ⟨W.heap.size + J.size, 0, none⟩)) ((W.plus J d).alloc (.cells #[.int .i64 x, .int .i64 y] 23)) := by
  have hb : Below W.heap.size W (W.plus J d) := Junk.below ⟨J, d, rfl⟩
  refine ⟨_, rfl, by omega, ?_, hb.alloc hb.size _⟩
  have := Blk.new (W.plus J d) #[.int .i64 x, .int .i64 y] 23
  rwa [show (W.plus J d).heap.size = W.heap.size + J.size by simp] at this
theorem mv_b (W : World) (x y : Int) (J : Array Obj) (d : Nat) : MvAt W x y (.pointer (some ⟨W.heap.size, 0, none⟩)) ((W.alloc (.cells #[.int .i64 x, .int .i64 y] 23)).plus J d) := by
  have h1 : Below W.heap.size W (W.alloc (.cells #[.int .i64 x, .int .i64 y] 23)) := (Below.refl _ W).alloc (Nat.le_refl _) _
  have hb := Junk.below ⟨J, d, rfl⟩ (w := W.alloc (.cells #[.int .i64 x, .int .i64 y] 23))
  exact ⟨_, rfl, Nat.le_refl _, (Blk.new W _ _).below hb, h1.trans (hb.mono h1.size)⟩

set_option maxRecDepth 100000 in
theorem same_big (px py ux uy s : Int) (w : World) (a : Option Addr) (n ca : Nat) (h : 100 < n) :
    Calls Try.prog 4 #[pt px py, .slice a n ca, .int .i64 s, pt ux uy] w fun e w' => e = .returned (.bool true) ∧ Junk w w' := by
  have HAw := Lib.hid l_inAwake
  have i1 : (100 : Int) < (n : Int) := by omega
  unfold pt
  clear h
  go_enter Try.func4, Try.ntmps4
  go_wp2_with (go_at_call 17; refine (HAw.out _).mono ?_; rintro e w1 ⟨rfl, J3, d3, rfl⟩)
  go_ret
  exact ⟨rfl, junk_of_below (by (repeat' (first | (with_reducible exact Below.refl _ _) | (with_reducible assumption) | (with_reducible refine Below.alloc ?_ ?_ _) | (with_reducible refine Below.drew ?_) | (with_reducible refine below_drewN ?_ _) | (with_reducible refine below_plus ?_ ?_ _ _) | (with_reducible refine Below.setCell ?_ ?_ _) | (with_reducible refine Below.setRow ?_ ?_ _) | go_size)))⟩

set_option maxRecDepth 100000 in
set_option maxHeartbeats 16000000 in
theorem same_in (px py ux uy s : Int) (w : World) (a : Option Addr) (n ca : Nat) (K : List Pt) (hK : PRC w a n ca K) (h1 : ¬ 100 < n) :
    Calls Try.prog 4 #[pt px py, .slice a n ca, .int .i64 s, pt ux uy] w fun e w' => e = .returned (.bool true) ∧ Junk w w' := by
  have HAw := Lib.hid l_inAwake
  have l1 := hK.rd.1
  have L1 := Lib.hid l1
  have i1 : ¬ (100 : Int) < (n : Int) := by omega
  have q1 := cross_le (px, py) K
  rw [l1] at q1
  have HM := Lib.hid (fun hp hk => cross_moved (p := (px, py)) (u := (ux, uy)) (K := K) hp hk)
  have HR := Lib.hid (cross_rot (px, py) K s)
  have HT := Lib.hid (cross_rev (px, py) K)
  obtain ⟨o, ho⟩ : ∃ o, inQ (px, py) K = o := ⟨_, rfl⟩
  obtain ⟨q, hq⟩ : ∃ q, crossN (px, py) K = q := ⟨_, rfl⟩
  have HOQ := Lib.hid (show o = decide (q % 2 = 1) by rw [← ho, ← hq]; rfl)
  rw [hq] at HM HR HT q1
  have HO := Lib.hid ho
  have HQ := Lib.hid hq
  clear ho hq
  have HF := Lib.hid (fun w' h => c_rgFrom w' a n ca K h (by omega) s)
  have HTu := Lib.hid (fun w' h => c_rgTurned w' a n ca K h (by omega))
  have E1 := Lib.hid (show (rotF K s).length = n by rw [rot_len]; exact l1)
  have E2 := Lib.hid (show K.reverse.length = n by rw [List.length_reverse]; exact l1)
  have HCr := Lib.hid (fun K' (hk : crossN (px, py) K' = q) w' a' ca' h => show Calls Try.prog 12 #[.agg #[.int .i64 px, .int .i64 py], .slice a' n ca'] w' fun e w'' => e = .returned (.int .i64 (q : Int)) ∧ Junk w' w'' by have := c_inCross px py w' a' n ca' K' h (by omega); rw [hk] at this; exact this)
  have HI := Lib.hid (fun w' h => show Calls Try.prog 14 #[.agg #[.int .i64 px, .int .i64 py], .slice a n ca] w' fun e w'' => e = .returned (.bool o) ∧ Junk w' w'' by have := c_inIn px py w' a n ca K h (by omega); rw [HO.out] at this; exact this)
  have hn400 := Lib.hid (show n ≤ 400 by omega)
  generalize hrr : rotF K s = KR at *
  generalize hrv : K.reverse = KV at *
  clear hrr hrv
  have HK := Lib.hid hK
  unfold pt
  clear hK h1 l1
  go_enter Try.func4, Try.ntmps4
  go_upto_region 4 with (go_at_call 17; refine (HAw.out _).mono ?_; rintro e w1 ⟨rfl, J3, d3, rfl⟩)
  obtain ⟨W, hW⟩ : ∃ W, ((w.alloc (.cells #[.int .i64 px, .int .i64 py] 23)).alloc (.cells #[.int .i64 ux, .int .i64 uy] 23)).plus J3 d3 = W := ⟨_, rfl⟩
  have p0 : W.cell? ⟨w.heap.size, 0, none⟩ = some (.int .i64 px) := by rw [← hW]; simp [go_sem]
  have p1 : W.cell? ⟨w.heap.size, 1, none⟩ = some (.int .i64 py) := by rw [← hW]; simp [go_sem]
  have p2 : W.cell? ⟨w.heap.size + 1, 0, none⟩ = some (.int .i64 ux) := by rw [← hW]; simp [go_sem]
  have p3 : W.cell? ⟨w.heap.size + 1, 1, none⟩ = some (.int .i64 uy) := by rw [← hW]; simp [go_sem]
  have hj : Below w.heap.size w W := by rw [← hW]; (repeat' (first | (with_reducible exact Below.refl _ _) | (with_reducible assumption) | (with_reducible refine Below.alloc ?_ ?_ _) | (with_reducible refine Below.drew ?_) | (with_reducible refine below_drewN ?_ _) | (with_reducible refine below_plus ?_ ?_ _ _) | (with_reducible refine Below.setCell ?_ ?_ _) | (with_reducible refine Below.setRow ?_ ?_ _) | go_size))
  have l0 : w.heap.size < W.heap.size := World.block_lt_of_cell? _ _ p0
  have l2 : w.heap.size + 1 < W.heap.size := World.block_lt_of_cell? _ _ p2
  have HKW := Lib.hid (HK.out.below hj)
  have HJ := Lib.hid hj
  have HI1 := Lib.hid (fun (J : Array Obj) (d : Nat) => HI.out (W.plus J d) (HKW.out.below (Junk.below ⟨J, d, rfl⟩)))
  have HC1 := Lib.hid (fun (J : Array Obj) (d : Nat) => HCr.out K HQ.out (W.plus J d) a ca (HKW.out.below (Junk.below ⟨J, d, rfl⟩)))
  have HCR := Lib.hid (HCr.out KR HR.out)
  have HCV := Lib.hid (HCr.out KV HT.out)
  rw [hW]
  clear hW HI HCr hj HO HQ HR HT
  refine region_quiet_all (C := Cls W) (by kernel_rfl) (by kernel_rfl) (cls_drawn _) ?_
  repeat (first | (refine qw_skip (by rfl) ?_; simp only [Act.put, List.setIfInBounds_toArray, List.set_cons_succ, List.set_cons_zero]) | (refine qw_want (by rfl) (fun K hK => ?_); go_simp; first | (refine hK _ ?_; clear hK K) | (apply Exists.intro; refine ⟨?_, hK _ ?_⟩; (rintro w3_ ⟨J3_, d3_, rfl⟩; first | (with_reducible exact rfl) | (go_simp; with_reducible exact rfl) | (go_simp; (first | (with_reducible refine (HAw.out _).mono ?_) | (with_reducible refine (HI1.out _ _).mono ?_) | (with_reducible refine (HC1.out _ _).mono ?_)); rintro e_ w_ ⟨rfl, J4_, d4_, rfl⟩; exact ⟨rfl, J3_ ++ J4_, d4_, by simp only [plus_plus, Array.append_assoc]⟩)); clear hK K)))
  refine qw_nil ?_
  rintro w4 ⟨J4, d4, rfl⟩
  clear HI1 HC1 HAw
  have j1 : ¬ ((q : Int) < 0) := by omega
  have j2 : ¬ ((n : Int) < (q : Int)) := by omega
  go_upto_region 5 with fail
  go_cut [60] from 29 to 60 (fun t wx => t = .bool false ∧ Cls W wx)
  case first =>
    have hoq := HOQ.out
    clear HOQ
    have e1 : ((q : Int)).tmod 2 = ((q % 2 : Nat) : Int) := by rw [Int.tmod_eq_emod_of_nonneg (by omega)]; omega
    rcases Nat.mod_two_eq_zero_or_one q with h | h
    · rw [decide_eq_false (by omega)] at hoq
      subst hoq
      rw [h] at e1
      have e2 : (q : Int).tmod 2 = 0 := by rw [e1]; rfl
      have e3 : (q : Int) % 2 = 0 := by omega
      clear h e1
      go_region_held3 (fun w' => w'.cell? ⟨w.heap.size, 0, none⟩ = some (.int .i64 px) ∧ w'.cell? ⟨w.heap.size, 1, none⟩ = some (.int .i64 py)) (first | (refine ⟨?_, ?_⟩ <;> (simp [go_sem, *]; done))) (first
        | (go_simp; go_at_call 18; (refine (HF.out _ (HKW.out.below (by ((try simp only [← Array.append_assoc]); repeat' (first | (with_reducible exact Below.refl _ _) | (with_reducible assumption) | (with_reducible refine Below.alloc ?_ ?_ _) | (with_reducible refine Below.drew ?_) | (with_reducible refine below_drewN ?_ _) | (with_reducible exact below_d _ _ _ _ _) | (with_reducible refine below_snoc _ _ ?_ ?_) | (with_reducible refine below_plus ?_ ?_ _ _) | (with_reducible refine Below.setCell ?_ ?_ _) | (with_reducible refine Below.setRow ?_ ?_ _) | go_size))))).mono ?_); rintro e w1 ⟨⟨v5, rfl, hv⟩, J5, d5, rfl⟩; obtain ⟨a5, c5, rfl, hr⟩ := own_prc E1.out hv; have HR5 := Lib.hid hr; clear hv hr; go_simp)
        | (go_simp; go_at_call 19; (refine (HTu.out _ (HKW.out.below (by ((try simp only [← Array.append_assoc]); repeat' (first | (with_reducible exact Below.refl _ _) | (with_reducible assumption) | (with_reducible refine Below.alloc ?_ ?_ _) | (with_reducible refine Below.drew ?_) | (with_reducible refine below_drewN ?_ _) | (with_reducible exact below_d _ _ _ _ _) | (with_reducible refine below_snoc _ _ ?_ ?_) | (with_reducible refine below_plus ?_ ?_ _ _) | (with_reducible refine Below.setCell ?_ ?_ _) | (with_reducible refine Below.setRow ?_ ?_ _) | go_size))))).mono ?_); rintro e w1 ⟨⟨v6, rfl, hv⟩, J6, d6, rfl⟩; obtain ⟨a6, c6, rfl, hr⟩ := own_prc E2.out hv; have HR6 := Lib.hid hr; clear hv hr; go_simp)
        | (go_simp; go_at_call 12; (refine (HCR.out _ _ _ (prc_eqh HR5.out (by simp only [plus_plus, Array.append_assoc]))).mono ?_); clear HR5; rintro e w1 ⟨rfl, J7, d7, rfl⟩; go_simp)
        | (go_simp; go_at_call 12; (refine (HCV.out _ _ _ (prc_eqh HR6.out (by simp only [plus_plus, Array.append_assoc]))).mono ?_); clear HR6; rintro e w1 ⟨rfl, J8, d8, rfl⟩; go_simp))
      go_wp2_with fail
      go_meet
      case rel => exact ⟨rfl, _, _, rfl⟩
    · rw [decide_eq_true h] at hoq
      subst hoq
      rw [h] at e1
      have e2 : (q : Int).tmod 2 = 1 := by rw [e1]; rfl
      have e3 : (q : Int) % 2 = 1 := by omega
      clear h e1
      go_region_held3 (fun w' => w'.cell? ⟨w.heap.size, 0, none⟩ = some (.int .i64 px) ∧ w'.cell? ⟨w.heap.size, 1, none⟩ = some (.int .i64 py)) (first | (refine ⟨?_, ?_⟩ <;> (simp [go_sem, *]; done))) (first
        | (go_simp; go_at_call 18; (refine (HF.out _ (HKW.out.below (by ((try simp only [← Array.append_assoc]); repeat' (first | (with_reducible exact Below.refl _ _) | (with_reducible assumption) | (with_reducible refine Below.alloc ?_ ?_ _) | (with_reducible refine Below.drew ?_) | (with_reducible refine below_drewN ?_ _) | (with_reducible exact below_d _ _ _ _ _) | (with_reducible refine below_snoc _ _ ?_ ?_) | (with_reducible refine below_plus ?_ ?_ _ _) | (with_reducible refine Below.setCell ?_ ?_ _) | (with_reducible refine Below.setRow ?_ ?_ _) | go_size))))).mono ?_); rintro e w1 ⟨⟨v5, rfl, hv⟩, J5, d5, rfl⟩; obtain ⟨a5, c5, rfl, hr⟩ := own_prc E1.out hv; have HR5 := Lib.hid hr; clear hv hr; go_simp)
        | (go_simp; go_at_call 19; (refine (HTu.out _ (HKW.out.below (by ((try simp only [← Array.append_assoc]); repeat' (first | (with_reducible exact Below.refl _ _) | (with_reducible assumption) | (with_reducible refine Below.alloc ?_ ?_ _) | (with_reducible refine Below.drew ?_) | (with_reducible refine below_drewN ?_ _) | (with_reducible exact below_d _ _ _ _ _) | (with_reducible refine below_snoc _ _ ?_ ?_) | (with_reducible refine below_plus ?_ ?_ _ _) | (with_reducible refine Below.setCell ?_ ?_ _) | (with_reducible refine Below.setRow ?_ ?_ _) | go_size))))).mono ?_); rintro e w1 ⟨⟨v6, rfl, hv⟩, J6, d6, rfl⟩; obtain ⟨a6, c6, rfl, hr⟩ := own_prc E2.out hv; have HR6 := Lib.hid hr; clear hv hr; go_simp)
        | (go_simp; go_at_call 12; (refine (HCR.out _ _ _ (prc_eqh HR5.out (by simp only [plus_plus, Array.append_assoc]))).mono ?_); clear HR5; rintro e w1 ⟨rfl, J7, d7, rfl⟩; go_simp)
        | (go_simp; go_at_call 12; (refine (HCV.out _ _ _ (prc_eqh HR6.out (by simp only [plus_plus, Array.append_assoc]))).mono ?_); clear HR6; rintro e w1 ⟨rfl, J8, d8, rfl⟩; go_simp))
      go_wp2_with fail
      go_meet
      case rel => exact ⟨rfl, _, _, rfl⟩
  case rest =>
  obtain ⟨rfl, J5, d5, rfl⟩ := hcut
  clear HCR HCV HF HTu HOQ j1 j2 E1 E2
  have HKW2 := Lib.hid (HKW.out.below (Junk.below ⟨J5, d5, rfl⟩))
  have HJ2 := Lib.hid (HJ.out.trans ((Junk.below ⟨J5, d5, rfl⟩).mono HJ.out.size))
  have r0 : (W.plus J5 d5).cell? ⟨w.heap.size, 0, none⟩ = some (.int .i64 px) := by simp [go_sem, *]
  have r1 : (W.plus J5 d5).cell? ⟨w.heap.size, 1, none⟩ = some (.int .i64 py) := by simp [go_sem, *]
  have r2 : (W.plus J5 d5).cell? ⟨w.heap.size + 1, 0, none⟩ = some (.int .i64 ux) := by simp [go_sem, *]
  have r3 : (W.plus J5 d5).cell? ⟨w.heap.size + 1, 1, none⟩ = some (.int .i64 uy) := by simp [go_sem, *]
  generalize W.plus J5 d5 = V at *
  clear p0 p1 p2 p3 l0 l2 HKW HJ
  have l0 : w.heap.size < V.heap.size := World.block_lt_of_cell? _ _ r0
  have l2 : w.heap.size + 1 < V.heap.size := World.block_lt_of_cell? _ _ r2
  go_upto_region 9 with fail
  go_loopw [12, 13] (fun m i wr => SmAt V K ux uy m i wr) (fun _ i _ => n - (intOf i).toNat)
  case atStart => exact ⟨0, rfl, by omega, pnil_owns _ _, fun a ha => by simp at ha, Below.refl _ _⟩
  case round =>
    obtain ⟨k, rfl, k1, hown, hmv, hB⟩ := hrel
    rw [L1.out] at k1
    have s0 := (World.cell?_of_block (hB.block _ l0)).trans r0
    have s1 := (World.cell?_of_block (hB.block _ l0)).trans r1
    have s2 := (World.cell?_of_block (hB.block _ l2)).trans r2
    have s3 := (World.cell?_of_block (hB.block _ l2)).trans r3
    have hsz := hB.size
    by_cases hlt : k < n
    · rcases HKW2.out.rd.2 with h0 | ⟨b, o, rfl, hc⟩
      · omega
      obtain ⟨c1, c2⟩ := hc k hlt
      obtain ⟨x, y, hx⟩ : ∃ x y : Int, K.getD k (0, 0) = (x, y) := ⟨_, _, rfl⟩
      rw [hx] at c1 c2
      have HS := Lib.hid (take_next (L := K) (k := k) (x := (x, y)) (by have := L1.out; omega) hx)
      have hbV : b < V.heap.size := World.block_lt_of_cell? _ _ c1
      have t0 := (World.cell?_of_block (hB.block _ hbV)).trans c1
      have t1 := (World.cell?_of_block (hB.block _ hbV)).trans c2
      have i2 : (k : Int) < (n : Int) := by omega
      have HM1 := fun w' => n_ptMove x y ux uy w'
      obtain ⟨X, hX⟩ : ∃ X, moveX x y ux uy = X := ⟨_, rfl⟩
      obtain ⟨Y, hY⟩ : ∃ Y, moveY x y ux uy = Y := ⟨_, rfl⟩
      obtain ⟨E, hE⟩ : ∃ E, moveE x y ux uy = E := ⟨_, rfl⟩
      simp only [hX, hY, hE] at HM1
      have HM1 := Lib.hid HM1
      have HX := Lib.hid hX
      have HY := Lib.hid hY
      have HE := Lib.hid hE
      unfold pt at HM1
      have HOW := Lib.hid hown
      have HB := Lib.hid hB
      have HMV := Lib.hid hmv
      obtain ⟨wo, rfl⟩ : ∃ wo : World, wo = wr := ⟨_, rfl⟩
      have lb : b < wo.heap.size := Nat.lt_of_lt_of_le hbV hsz
      have m0 : w.heap.size < wo.heap.size := Nat.lt_of_lt_of_le l0 hsz
      have m2 : w.heap.size + 1 < wo.heap.size := Nat.lt_of_lt_of_le l2 hsz
      clear hc c1 c2 hx hX hY hE hown hmv hB r0 r1 r2 r3 s0 s1
      go_upto_region 11 with fail
      go_cut [14, 15] from 61 to 82 (fun t e wx => MvAt wo X Y t wx ∧ e = .int .i64 E)
      case first =>
        go_region_with (go_at_call 20; refine (HM1.out _).mono ?_; rintro e w1 ⟨rfl, J6, d6, rfl⟩)
        all_goals (go_wp2_with fail)
        all_goals go_meet
        all_goals first | exact ⟨mv_a _ _ _ _ _, rfl⟩ | exact ⟨mv_b _ _ _ _ _, rfl⟩
      case rest =>
      obtain ⟨⟨B, rfl, hBs, hBl, hbx⟩, rfl⟩ := hcut
      have g0 := hBl.cell 0
      have g1 := hBl.cell 1
      have hBlt := hBl.lt
      by_cases hE0 : E = 0
      · subst hE0
        obtain ⟨f1, f2, f3, f4⟩ := mv_ok HE.out
        have HXY := Lib.hid (show (X, Y) = movQ (ux, uy) (x, y) by rw [← HX.out, ← HY.out, f3, f4]; rfl)
        have hsz3 := hbx.size
        have HBX := Lib.hid hbx
        clear f1 f2 f3 f4 hbx hBl
        go_wp2_with (at_builtin; refine wpList_papp rfl (.tmp 79) (.tmp 81) rfl V.heap.size _ _ ((K.take k).map (movQ (ux, uy))) rfl (powns_below HOW.out (HBX.out.trans (by (repeat' (first | (with_reducible exact Below.refl _ _) | (with_reducible assumption) | (with_reducible refine Below.alloc ?_ ?_ _) | (with_reducible refine Below.drew ?_) | (with_reducible refine below_drewN ?_ _) | (with_reducible refine below_plus ?_ ?_ _ _) | (with_reducible refine Below.setCell ?_ ?_ _) | (with_reducible refine Below.setRow ?_ ?_ _) | go_size))))) _ X Y rfl (by simp [go_sem]) (by simp [go_sem]) (by omega) (by simp; omega) ?_; intro v' w' hown' hg')
        go_roundw
        case rel => exact ⟨k + 1, by go_num, by rw [L1.out]; omega, by rw [HS.out, List.map_append, List.map_cons, List.map_nil, ← HXY.out]; exact hown', fun z hz => by rw [HS.out, List.mem_append] at hz; rcases hz with hz | hz; exact HMV.out z hz; rw [List.mem_singleton] at hz; subst hz; exact HE.out, grown_below (B := V.heap.size) (a := V) ((HB.out.trans (HBX.out.mono hsz)).trans (by (repeat' (first | (with_reducible exact Below.refl _ _) | (with_reducible assumption) | (with_reducible refine Below.alloc ?_ ?_ _) | (with_reducible refine Below.drew ?_) | (with_reducible refine below_drewN ?_ _) | (with_reducible refine below_plus ?_ ?_ _ _) | (with_reducible refine Below.setCell ?_ ?_ _) | (with_reducible refine Below.setRow ?_ ?_ _) | go_size)))) hg' (by simp; omega) (powns_block HOW.out)⟩
        case measure => simp [intOf]; omega
      · have e1 : (E != 0) = true := by simpa using hE0
        clear hE0
        go_wp2_with fail
        go_ret
        exact ⟨rfl, junk_of_below (HJ2.out.trans ((HB.out.trans (hbx.mono HB.out.size)).mono HJ2.out.size))⟩
    · obtain rfl : k = n := by omega
      rw [List.take_of_length_le (by have := L1.out; omega)] at hown hmv
      obtain ⟨am, cm, rfl, hm⟩ := prc_owns hown
      have HM1 := fun w' => n_ptMove px py ux uy w'
      obtain ⟨X, hX⟩ : ∃ X, moveX px py ux uy = X := ⟨_, rfl⟩
      obtain ⟨Y, hY⟩ : ∃ Y, moveY px py ux uy = Y := ⟨_, rfl⟩
      obtain ⟨E, hE⟩ : ∃ E, moveE px py ux uy = E := ⟨_, rfl⟩
      simp only [hX, hY, hE] at HM1
      have HM1 := Lib.hid HM1
      unfold pt at HM1
      have HPM := Lib.hid hm
      have i2 : ¬ (k : Int) < (k : Int) := by omega
      have HB := Lib.hid hB
      clear r0 r1 r2 r3 hown hm hB
      obtain ⟨wo, rfl⟩ : ∃ wo : World, wo = wr := ⟨_, rfl⟩
      have m0 : w.heap.size < wo.heap.size := Nat.lt_of_lt_of_le l0 hsz
      have m2 : w.heap.size + 1 < wo.heap.size := Nat.lt_of_lt_of_le l2 hsz
      by_cases hE0 : E = 0
      · subst hE0
        obtain ⟨f1, f2, f3, f4⟩ := mv_ok hE
        have hq := HM.out hE hmv
        have HCM := Lib.hid (fun w' ca' h => show Calls Try.prog 12 #[.agg #[.int .i64 X, .int .i64 Y], .slice am k ca'] w' fun e w'' => e = .returned (.int .i64 (q : Int)) ∧ Junk w' w'' by
          have := c_inCross X Y w' am k ca' (K.map (movQ (ux, uy))) h hn400.out
          rw [show ((X, Y) : Pt) = movQ (ux, uy) (px, py) by rw [← hX, ← hY, f3, f4]; rfl, hq] at this
          exact this)
        clear hX hY hE f1 f2 f3 f4 hq hmv HM
        go_wp2_with (first
          | (go_at_call 20; refine (HM1.out _).mono ?_; rintro e w1 ⟨rfl, J6, d6, rfl⟩)
          | (go_at_call 12; refine (HCM.out _ _ (HPM.out.below (by (repeat' (first | (with_reducible exact Below.refl _ _) | (with_reducible assumption) | (with_reducible refine Below.alloc ?_ ?_ _) | (with_reducible refine Below.drew ?_) | (with_reducible refine below_drewN ?_ _) | (with_reducible refine below_plus ?_ ?_ _ _) | (with_reducible refine Below.setCell ?_ ?_ _) | (with_reducible refine Below.setRow ?_ ?_ _) | go_size))))).mono ?_; rintro e w1 ⟨rfl, J7, d7, rfl⟩))
        go_ret
        exact ⟨rfl, junk_of_below (HJ2.out.trans ((HB.out.trans ((show Below wo.heap.size wo _ by (repeat' (first | (with_reducible exact Below.refl _ _) | (with_reducible assumption) | (with_reducible refine Below.alloc ?_ ?_ _) | (with_reducible refine Below.drew ?_) | (with_reducible refine below_drewN ?_ _) | (with_reducible refine below_plus ?_ ?_ _ _) | (with_reducible refine Below.setCell ?_ ?_ _) | (with_reducible refine Below.setRow ?_ ?_ _) | go_size))).mono HB.out.size)).mono HJ2.out.size))⟩
      · have e1 : (E != 0) = true := by simpa using hE0
        clear hX hY hE hmv HM hE0
        go_wp2_with (go_at_call 20; refine (HM1.out _).mono ?_; rintro e w1 ⟨rfl, J6, d6, rfl⟩)
        go_ret
        exact ⟨rfl, junk_of_below (HJ2.out.trans ((HB.out.trans ((show Below wo.heap.size wo _ by (repeat' (first | (with_reducible exact Below.refl _ _) | (with_reducible assumption) | (with_reducible refine Below.alloc ?_ ?_ _) | (with_reducible refine Below.drew ?_) | (with_reducible refine below_drewN ?_ _) | (with_reducible refine below_plus ?_ ?_ _ _) | (with_reducible refine Below.setCell ?_ ?_ _) | (with_reducible refine Below.setRow ?_ ?_ _) | go_size))).mono HB.out.size)).mono HJ2.out.size))⟩
theorem l_insideSame (w : World) (px py : Int) (a : Option Addr) (n ca : Nat) (K : List Pt) (hK : PRC w a n ca K) (_ : n ≤ 9223372036854775807) (_ : a = none → n = 0 ∧ ca = 0) (s : Int) (_ : -9223372036854775808 ≤ s ∧ s ≤ 9223372036854775807) (ux uy : Int) :
    Calls Try.prog 4 #[pt px py, .slice a n ca, .int .i64 s, pt ux uy] w fun e w' => e = .returned (.bool true) ∧ Junk w w' := by
  by_cases h1 : 100 < n
  · exact same_big px py ux uy s w a n ca h1
  · exact same_in px py ux uy s w a n ca K hK h1
end Go.Proofs.Ythjjhfopmianoaa

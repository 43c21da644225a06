/- The law InsideAdds: join, and the walk. -/
import Derived.Test.YthjjhfopmianoaaInT
namespace Go.Proofs.Ythjjhfopmianoaa
set_option linter.unusedVariables false
set_option linter.unusedSimpArgs false
open Go.RowKit

set_option maxRecDepth 100000 in
set_option maxHeartbeats 4000000 in
theorem l_inJoin (ax ay bx by_ : Int) (w : World) (a b : Option Addr) (n m ca cb : Nat) (L M : List Pt) (hL : PRC w a n ca L) (hM : PRC w b m cb M) (hs : n ≤ 100) (hs2 : m ≤ 100) :
    Calls Try.prog 21 #[pt ax ay, .slice a n ca, pt bx by_, .slice b m cb] w fun e w' => (∃ v, e = .returned v ∧ POwn w w' v (joinL (ax, ay) L (bx, by_) M)) ∧ Junk w w' := by
  have HL := Lib.hid hL
  have HM := Lib.hid hM
  have hl1 := hL.rd.1
  have hl2 := hM.rd.1
  have HLn := Lib.hid hl1
  have HMn := Lib.hid hl2
  unfold pt
  clear hL hM hl1 hl2
  go_enter Try.func21, Try.ntmps21
  go_wp2_with (first
    | (at_builtin; refine wpList_pall rfl (.tmp 11) (.tmp 12) rfl w.heap.size (.slice (some ⟨w.heap.size + 1 + 1, 0, none⟩) 1 1) 1 [(ax, ay)] rfl (powns_blt (W := w) (L := [(ax, ay)]) (n := 1) rfl (by simp [pcells]) (by simp; try omega) (by decide) (by simp)) a n ca L rfl HL.out.ok (HL.out.rd.below (by (repeat' (first | (with_reducible exact Below.refl _ _) | (with_reducible assumption) | (with_reducible refine Below.alloc ?_ ?_ _) | (with_reducible refine Below.drew ?_) | (with_reducible refine below_drewN ?_ _) | (with_reducible refine below_plus ?_ ?_ _ _) | (with_reducible refine Below.setCell ?_ ?_ _) | (with_reducible refine Below.setRow ?_ ?_ _) | go_size)))) (by omega) (by simp; try omega) ?_; intro v1 w1 hown hg;
        have q0 : w1.cell? ⟨w.heap.size + 1, 0, none⟩ = some (.int .i64 bx) := (World.cell?_of_block (hg.block (w.heap.size + 1) (by simp) (by simp [Value.ownBlock]))).trans (by simp [go_sem]);
        have q1 : w1.cell? ⟨w.heap.size + 1, 1, none⟩ = some (.int .i64 by_) := (World.cell?_of_block (hg.block (w.heap.size + 1) (by simp) (by simp [Value.ownBlock]))).trans (by simp [go_sem]);
        have HO1 := Lib.hid hown; have HB1 := Lib.hid (show Below w.heap.size w w1 from (show Below w.heap.size w _ by (repeat' (first | (with_reducible exact Below.refl _ _) | (with_reducible assumption) | (with_reducible refine Below.alloc ?_ ?_ _) | (with_reducible refine Below.drew ?_) | (with_reducible refine below_drewN ?_ _) | (with_reducible refine below_plus ?_ ?_ _ _) | (with_reducible refine Below.setCell ?_ ?_ _) | (with_reducible refine Below.setRow ?_ ?_ _) | go_size))).grown hg (by simp; try omega) (by intro k hk; simp [Value.ownBlock] at hk; omega)); have hz1 := hg.size; simp only [World.size_alloc] at hz1; clear hown hg)
    | (at_builtin; refine wpList_papp rfl (.tmp 14) (.tmp 16) rfl w.heap.size v1 (1 + n) ([(ax, ay)] ++ L) rfl (powns_below HO1.out (by (repeat' (first | (with_reducible exact Below.refl _ _) | (with_reducible assumption) | (with_reducible refine Below.alloc ?_ ?_ _) | (with_reducible refine Below.drew ?_) | (with_reducible refine below_drewN ?_ _) | (with_reducible refine below_plus ?_ ?_ _ _) | (with_reducible refine Below.setCell ?_ ?_ _) | (with_reducible refine Below.setRow ?_ ?_ _) | go_size)))) w1.heap.size bx by_ rfl (by simp [go_sem]) (by simp [go_sem]) (by omega) (by simp; omega) ?_; intro v2 w2 hown hg;
        have HO2 := Lib.hid hown; have HB2 := Lib.hid (show Below w.heap.size w w2 from (show Below w.heap.size w (w1.alloc (.cells #[.int .i64 bx, .int .i64 by_] 23)) from HB1.out.trans (((Below.refl _ w1).alloc (Nat.le_refl _) _).mono HB1.out.size)).grown hg (by simp; omega) (fun k hk => (World.ownsRow.lt (HO1.out) k hk).1)); clear hown hg)
    | (at_builtin; refine wpList_pall rfl (.tmp 17) (.tmp 18) rfl w.heap.size v2 (1 + n + 1) ([(ax, ay)] ++ L ++ [(bx, by_)]) rfl HO2.out b m cb M rfl HM.out.ok (HM.out.rd.below HB2.out) (by omega) HB2.out.size ?_; intro v3 w3 hown hg;
        have HO3 := Lib.hid hown; have HB3 := Lib.hid (show Below w.heap.size w w3 from HB2.out.grown hg HB2.out.size (fun k hk => (World.ownsRow.lt (HO2.out) k hk).1)); clear hown hg))
  go_ret
  refine ⟨⟨_, rfl, ?_⟩, junk_of_below HB3.out⟩
  have h := HO3.out
  have e : [(ax, ay)] ++ L ++ [(bx, by_)] ++ M = joinL (ax, ay) L (bx, by_) M := by unfold joinL; simp
  rw [e] at h
  unfold POwn
  rw [show (joinL (ax, ay) L (bx, by_) M).length = 1 + n + 1 + m by unfold joinL; simp [HLn.out, HMn.out]; omega]
  exact h

/-- The walk of InsideAdds. -/
theorem join_len (a b : Pt) (L M : List Pt) : (joinL a L b M).length = L.length + M.length + 2 := by unfold joinL; simp; omega
set_option maxRecDepth 100000 in
set_option maxHeartbeats 4000000 in
theorem adds_big (px py fx fy tx ty : Int) (w : World) (a b c : Option Addr) (n m l ca cb cc : Nat) (h : 50 < n ∨ 50 < m ∨ 50 < l) :
    Calls Try.prog 5 #[pt px py, pt fx fy, pt tx ty, .slice a n ca, .slice b m cb, .slice c l cc] w fun e w' => e = .returned (.bool true) ∧ Junk w w' := by
  have HAw := Lib.hid l_inAwake
  unfold pt
  rcases (show 50 < n ∨ (¬ 50 < n ∧ 50 < m) ∨ (¬ 50 < n ∧ ¬ 50 < m ∧ 50 < l) by omega) with h1 | ⟨h1, h2⟩ | ⟨h1, h2, h3⟩
  · have i1 : (50 : Int) < (n : Int) := by omega
    clear h h1
    go_enter Try.func5, Try.ntmps5
    go_wp2_with (go_at_call 17; refine (HAw.out _).mono ?_; rintro e w1 ⟨rfl, J3, d3, rfl⟩)
    go_ret
    exact ⟨rfl, junk_of_below (by (repeat' (first | (with_reducible exact Below.refl _ _) | (with_reducible assumption) | (with_reducible refine Below.alloc ?_ ?_ _) | (with_reducible refine Below.drew ?_) | (with_reducible refine below_drewN ?_ _) | (with_reducible refine below_plus ?_ ?_ _ _) | (with_reducible refine Below.setCell ?_ ?_ _) | (with_reducible refine Below.setRow ?_ ?_ _) | go_size)))⟩
  · have i1 : ¬ (50 : Int) < (n : Int) := by omega
    have i2 : (50 : Int) < (m : Int) := by omega
    clear h h1 h2
    go_enter Try.func5, Try.ntmps5
    go_wp2_with (go_at_call 17; refine (HAw.out _).mono ?_; rintro e w1 ⟨rfl, J3, d3, rfl⟩)
    go_ret
    exact ⟨rfl, junk_of_below (by (repeat' (first | (with_reducible exact Below.refl _ _) | (with_reducible assumption) | (with_reducible refine Below.alloc ?_ ?_ _) | (with_reducible refine Below.drew ?_) | (with_reducible refine below_drewN ?_ _) | (with_reducible refine below_plus ?_ ?_ _ _) | (with_reducible refine Below.setCell ?_ ?_ _) | (with_reducible refine Below.setRow ?_ ?_ _) | go_size)))⟩
  · have i1 : ¬ (50 : Int) < (n : Int) := by omega
    have i2 : ¬ (50 : Int) < (m : Int) := by omega
    have i3 : (50 : Int) < (l : Int) := by omega
    clear h h1 h2 h3
    go_enter Try.func5, Try.ntmps5
    go_wp2_with (go_at_call 17; refine (HAw.out _).mono ?_; rintro e w1 ⟨rfl, J3, d3, rfl⟩)
    go_ret
    exact ⟨rfl, junk_of_below (by (repeat' (first | (with_reducible exact Below.refl _ _) | (with_reducible assumption) | (with_reducible refine Below.alloc ?_ ?_ _) | (with_reducible refine Below.drew ?_) | (with_reducible refine below_drewN ?_ _) | (with_reducible refine below_plus ?_ ?_ _ _) | (with_reducible refine Below.setCell ?_ ?_ _) | (with_reducible refine Below.setRow ?_ ?_ _) | go_size)))⟩
set_option maxRecDepth 100000 in
set_option maxHeartbeats 8000000 in
theorem adds_in (px py fx fy tx ty : Int) (w : World) (a b c : Option Addr) (n m l ca cb cc : Nat) (L M N : List Pt) (hL : PRC w a n ca L) (hM : PRC w b m cb M) (hN : PRC w c l cc N) (h1 : ¬ 50 < n) (h2 : ¬ 50 < m) (h3 : ¬ 50 < l) :
    Calls Try.prog 5 #[pt px py, pt fx fy, pt tx ty, .slice a n ca, .slice b m cb, .slice c l cc] w fun e w' => e = .returned (.bool true) ∧ Junk w w' := by
  have HAw := Lib.hid l_inAwake
  have HT := Lib.hid (fun w' h => c_rgTurned w' a n ca L h (by omega))
  have HJ1 := Lib.hid (fun w' h h' => l_inJoin fx fy tx ty w' a b n m ca cb L M h h' (by omega) (by omega))
  have HJ2 := Lib.hid (fun w' a' ca' h h' => l_inJoin tx ty fx fy w' a' c n l ca' cc L.reverse N h h' (by omega) (by omega))
  have HJ3 := Lib.hid (fun w' h h' => l_inJoin fx fy tx ty w' c b l m cc cb N M h h' (by omega) (by omega))
  have HQ := Lib.hid (in_adds (px, py) (fx, fy) (tx, ty) L M N)
  have lL := hL.rd.1
  have lM := hM.rd.1
  have lN := hN.rd.1
  have E0 := Lib.hid (show L.reverse.length = n by rw [List.length_reverse]; exact lL)
  have E1 := Lib.hid (show (joinL (fx, fy) L (tx, ty) M).length = n + m + 2 by rw [join_len, lL, lM])
  have E2 := Lib.hid (show (joinL (tx, ty) L.reverse (fx, fy) N).length = n + l + 2 by rw [join_len, List.length_reverse, lL, lN])
  have E3 := Lib.hid (show (joinL (fx, fy) N (tx, ty) M).length = l + m + 2 by rw [join_len, lN, lM])
  have HI := Lib.hid (fun K n (hn : n ≤ 400) w' a' ca' h => c_inIn px py w' a' n ca' K h hn)
  have i1 : ¬ (50 : Int) < (n : Int) := by omega
  have i2 : ¬ (50 : Int) < (m : Int) := by omega
  have i3 : ¬ (50 : Int) < (l : Int) := by omega
  have n1 := Lib.hid (show n + m + 2 ≤ 400 by omega)
  have n2 := Lib.hid (show n + l + 2 ≤ 400 by omega)
  have n3 := Lib.hid (show l + m + 2 ≤ 400 by omega)
  have HL := Lib.hid hL
  have HM := Lib.hid hM
  have HN := Lib.hid hN
  generalize joinL (fx, fy) L (tx, ty) M = A1 at *
  generalize joinL (tx, ty) L.reverse (fx, fy) N = A2 at *
  generalize joinL (fx, fy) N (tx, ty) M = A3 at *
  generalize L.reverse = L2 at *
  unfold pt at *
  clear hL hM hN lL lM lN h1 h2 h3
  go_enter Try.func5, Try.ntmps5
  go_upto_region 8 with (first
    | (go_at_call 17; refine (HAw.out _).mono ?_; rintro e w1 ⟨rfl, J3, d3, rfl⟩)
    | (go_at_call 19; refine (HT.out _ (HL.out.below (by (repeat' (first | (with_reducible exact Below.refl _ _) | (with_reducible assumption) | (with_reducible refine Below.alloc ?_ ?_ _) | (with_reducible refine Below.drew ?_) | (with_reducible refine below_drewN ?_ _) | (with_reducible refine below_plus ?_ ?_ _ _) | (with_reducible refine Below.setCell ?_ ?_ _) | (with_reducible refine Below.setRow ?_ ?_ _) | go_size))))).mono ?_; rintro e w1 ⟨⟨v4, rfl, hv⟩, J4, d4, rfl⟩; obtain ⟨a4, c4, rfl, hr⟩ := own_prc E0.out hv; (try simp only [plus_plus, Array.append_assoc] at hr); have HR4 := Lib.hid hr; clear hv hr)
    | (go_at_call 21; refine (HJ1.out _ (HL.out.below (by ((try simp only [← Array.append_assoc]); repeat' (first | (with_reducible exact Below.refl _ _) | (with_reducible assumption) | (with_reducible refine Below.alloc ?_ ?_ _) | (with_reducible refine Below.drew ?_) | (with_reducible refine below_drewN ?_ _) | (with_reducible exact below_d _ _ _ _ _) | (with_reducible refine below_snoc _ _ ?_ ?_) | (with_reducible refine below_plus ?_ ?_ _ _) | (with_reducible refine Below.setCell ?_ ?_ _) | (with_reducible refine Below.setRow ?_ ?_ _) | go_size)))) (HM.out.below (by ((try simp only [← Array.append_assoc]); repeat' (first | (with_reducible exact Below.refl _ _) | (with_reducible assumption) | (with_reducible refine Below.alloc ?_ ?_ _) | (with_reducible refine Below.drew ?_) | (with_reducible refine below_drewN ?_ _) | (with_reducible exact below_d _ _ _ _ _) | (with_reducible refine below_snoc _ _ ?_ ?_) | (with_reducible refine below_plus ?_ ?_ _ _) | (with_reducible refine Below.setCell ?_ ?_ _) | (with_reducible refine Below.setRow ?_ ?_ _) | go_size))))).mono ?_; clear HJ1; rintro e w1 ⟨⟨v5, rfl, hv⟩, J5, d5, rfl⟩; obtain ⟨a5, c5, rfl, hr⟩ := own_prc E1.out hv; (try simp only [plus_plus, Array.append_assoc] at hr); have HR5 := Lib.hid hr; clear hv hr)
    | (go_at_call 21; refine (HJ2.out _ _ _ (HR4.out.below (by ((try simp only [← Array.append_assoc]); repeat' (first | (with_reducible exact Below.refl _ _) | (with_reducible assumption) | (with_reducible refine Below.alloc ?_ ?_ _) | (with_reducible refine Below.drew ?_) | (with_reducible refine below_drewN ?_ _) | (with_reducible exact below_d _ _ _ _ _) | (with_reducible refine below_snoc _ _ ?_ ?_) | (with_reducible refine below_plus ?_ ?_ _ _) | (with_reducible refine Below.setCell ?_ ?_ _) | (with_reducible refine Below.setRow ?_ ?_ _) | go_size)))) (HN.out.below (by ((try simp only [← Array.append_assoc]); repeat' (first | (with_reducible exact Below.refl _ _) | (with_reducible assumption) | (with_reducible refine Below.alloc ?_ ?_ _) | (with_reducible refine Below.drew ?_) | (with_reducible refine below_drewN ?_ _) | (with_reducible exact below_d _ _ _ _ _) | (with_reducible refine below_snoc _ _ ?_ ?_) | (with_reducible refine below_plus ?_ ?_ _ _) | (with_reducible refine Below.setCell ?_ ?_ _) | (with_reducible refine Below.setRow ?_ ?_ _) | go_size))))).mono ?_; clear HJ2; rintro e w1 ⟨⟨v6, rfl, hv⟩, J6, d6, rfl⟩; obtain ⟨a6, c6, rfl, hr⟩ := own_prc E2.out hv; (try simp only [plus_plus, Array.append_assoc] at hr); have HR6 := Lib.hid hr; clear hv hr)
    | (go_at_call 21; refine (HJ3.out _ (HN.out.below (by ((try simp only [← Array.append_assoc]); repeat' (first | (with_reducible exact Below.refl _ _) | (with_reducible assumption) | (with_reducible refine Below.alloc ?_ ?_ _) | (with_reducible refine Below.drew ?_) | (with_reducible refine below_drewN ?_ _) | (with_reducible exact below_d _ _ _ _ _) | (with_reducible refine below_snoc _ _ ?_ ?_) | (with_reducible refine below_plus ?_ ?_ _ _) | (with_reducible refine Below.setCell ?_ ?_ _) | (with_reducible refine Below.setRow ?_ ?_ _) | go_size)))) (HM.out.below (by ((try simp only [← Array.append_assoc]); repeat' (first | (with_reducible exact Below.refl _ _) | (with_reducible assumption) | (with_reducible refine Below.alloc ?_ ?_ _) | (with_reducible refine Below.drew ?_) | (with_reducible refine below_drewN ?_ _) | (with_reducible exact below_d _ _ _ _ _) | (with_reducible refine below_snoc _ _ ?_ ?_) | (with_reducible refine below_plus ?_ ?_ _ _) | (with_reducible refine Below.setCell ?_ ?_ _) | (with_reducible refine Below.setRow ?_ ?_ _) | go_size))))).mono ?_; clear HJ3; rintro e w1 ⟨⟨v7, rfl, hv⟩, J7, d7, rfl⟩; obtain ⟨a7, c7, rfl, hr⟩ := own_prc E3.out hv; (try simp only [plus_plus, Array.append_assoc] at hr); have HR7 := Lib.hid hr; clear hv hr))
  obtain ⟨W4, hW4⟩ : ∃ W4, (((w.alloc (.cells #[.int .i64 px, .int .i64 py] 23)).alloc (.cells #[.int .i64 fx, .int .i64 fy] 23)).alloc (.cells #[.int .i64 tx, .int .i64 ty] 23)).plus (J3 ++ (J4 ++ (J5 ++ (J6 ++ J7)))) d7 = W4 := ⟨_, rfl⟩
  have r5 : PRC W4 a5 (n + m + 2) c5 A1 := by rw [← hW4]; exact HR5.out.below (by ((try simp only [← Array.append_assoc]); repeat' (first | (with_reducible exact Below.refl _ _) | (with_reducible assumption) | (with_reducible refine Below.alloc ?_ ?_ _) | (with_reducible refine Below.drew ?_) | (with_reducible refine below_drewN ?_ _) | (with_reducible exact below_d _ _ _ _ _) | (with_reducible refine below_snoc _ _ ?_ ?_) | (with_reducible refine below_plus ?_ ?_ _ _) | (with_reducible refine Below.setCell ?_ ?_ _) | (with_reducible refine Below.setRow ?_ ?_ _) | go_size)))
  have r6 : PRC W4 a6 (n + l + 2) c6 A2 := by rw [← hW4]; exact HR6.out.below (by ((try simp only [← Array.append_assoc]); repeat' (first | (with_reducible exact Below.refl _ _) | (with_reducible assumption) | (with_reducible refine Below.alloc ?_ ?_ _) | (with_reducible refine Below.drew ?_) | (with_reducible refine below_drewN ?_ _) | (with_reducible exact below_d _ _ _ _ _) | (with_reducible refine below_snoc _ _ ?_ ?_) | (with_reducible refine below_plus ?_ ?_ _ _) | (with_reducible refine Below.setCell ?_ ?_ _) | (with_reducible refine Below.setRow ?_ ?_ _) | go_size)))
  have r7 : PRC W4 a7 (l + m + 2) c7 A3 := by rw [← hW4]; exact HR7.out
  have p0 : W4.cell? ⟨w.heap.size, 0, none⟩ = some (.int .i64 px) := by rw [← hW4]; simp [go_sem]
  have p1 : W4.cell? ⟨w.heap.size, 1, none⟩ = some (.int .i64 py) := by rw [← hW4]; simp [go_sem]
  have l0 : w.heap.size < W4.heap.size := World.block_lt_of_cell? _ _ p0
  have HBW := Lib.hid (show Below w.heap.size w W4 by rw [← hW4]; (repeat' (first | (with_reducible exact Below.refl _ _) | (with_reducible assumption) | (with_reducible refine Below.alloc ?_ ?_ _) | (with_reducible refine Below.drew ?_) | (with_reducible refine below_drewN ?_ _) | (with_reducible refine below_plus ?_ ?_ _ _) | (with_reducible refine Below.setCell ?_ ?_ _) | (with_reducible refine Below.setRow ?_ ?_ _) | go_size)))
  have HI1 := Lib.hid (fun (J : Array Obj) (d : Nat) => HI.out A1 _ n1.out (W4.plus J d) a5 c5 (r5.below (Junk.below ⟨J, d, rfl⟩)))
  have HI2 := Lib.hid (fun (J : Array Obj) (d : Nat) => HI.out A2 _ n2.out (W4.plus J d) a6 c6 (r6.below (Junk.below ⟨J, d, rfl⟩)))
  have HI3 := Lib.hid (fun (J : Array Obj) (d : Nat) => HI.out A3 _ n3.out (W4.plus J d) a7 c7 (r7.below (Junk.below ⟨J, d, rfl⟩)))
  have hq := HQ.out
  generalize inQ (px, py) A1 = g1 at *
  generalize inQ (px, py) A2 = g2 at *
  generalize inQ (px, py) A3 = g3 at *
  rw [hW4]
  clear hW4 r5 r6 r7 HI HR4 HR5 HR6 HR7 HT HQ
  subst hq
  refine region_quiet_all (C := Cls W4) (by kernel_rfl) (by kernel_rfl) (cls_drawn _) ?_
  repeat (first | (refine qw_skip (by rfl) ?_; simp only [Act.put, List.setIfInBounds_toArray, List.set_cons_succ, List.set_cons_zero]) | (refine qw_want (by rfl) (fun K hK => ?_); go_simp; first | (refine hK _ ?_; clear hK K) | (apply Exists.intro; refine ⟨?_, hK _ ?_⟩; (rintro w3_ ⟨J3_, d3_, rfl⟩; first | (with_reducible exact rfl) | (go_simp; with_reducible exact rfl) | (go_simp; (first | (with_reducible refine (HAw.out _).mono ?_) | (with_reducible refine (HI1.out _ _).mono ?_) | (with_reducible refine (HI2.out _ _).mono ?_) | (with_reducible refine (HI3.out _ _).mono ?_)); rintro e_ w_ ⟨rfl, J4_, d4_, rfl⟩; exact ⟨rfl, J3_ ++ J4_, d4_, by simp only [plus_plus, Array.append_assoc]⟩)); clear hK K)))
  refine qw_nil ?_
  rintro w5 ⟨J8, d8, rfl⟩
  go_wp2_with fail
  go_ret
  exact ⟨by simp; cases g1 <;> cases g2 <;> rfl, junk_of_below (HBW.out.trans ((Junk.below ⟨_, _, rfl⟩).mono HBW.out.size))⟩
theorem l_insideAdds (w : World) (px py fx fy tx ty : Int) (a : Option Addr) (n ca : Nat) (L : List Pt) (hL : PRC w a n ca L) (_ : n ≤ 9223372036854775807) (_ : a = none → n = 0 ∧ ca = 0)
    (b : Option Addr) (m cb : Nat) (M : List Pt) (hM : PRC w b m cb M) (_ : m ≤ 9223372036854775807) (_ : b = none → m = 0 ∧ cb = 0) (c : Option Addr) (l cc : Nat) (N : List Pt) (hN : PRC w c l cc N) (_ : l ≤ 9223372036854775807) (_ : c = none → l = 0 ∧ cc = 0) :
    Calls Try.prog 5 #[pt px py, pt fx fy, pt tx ty, .slice a n ca, .slice b m cb, .slice c l cc] w fun e w' => e = .returned (.bool true) ∧ Junk w w' := by
  by_cases h : 50 < n ∨ 50 < m ∨ 50 < l
  · exact adds_big px py fx fy tx ty w a b c n m l ca cb cc h
  · exact adds_in px py fx fy tx ty w a b c n m l ca cb cc L M N hL hM hN (by omega) (by omega) (by omega)
end Go.Proofs.Ythjjhfopmianoaa

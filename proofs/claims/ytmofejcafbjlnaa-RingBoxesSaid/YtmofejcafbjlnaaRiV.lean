/- The law RingBoxes: the walk. -/
import Derived.Test.YtmofejcafbjlnaaRiU
import Derived.Test.YtmofejcafbjlnaaRiMath
namespace Go.Proofs.Ytmofejcafbjlnaa
set_option linter.unusedVariables false
set_option linter.unusedSimpArgs false
open Go.RowKit

def I64r (x : Int) : Prop := -9223372036854775808 ≤ x ∧ x ≤ 9223372036854775807
/-- The corners, and the steps. -/
def corL (x y s : Int) : List Pt := [(x, y), (x + s, y), (x + s, y + s), (x, y + s)]
def stpL : List Pt := [(1, 0), (0, 1), (-1, 0), (0, -1)]
def manyN (q0 q1 q2 q3 : Int) : Nat → Int
  | 0 => q0
  | 1 => q1
  | 2 => q2
  | _ => q3
/-- What the first sides come to. -/
def accL (C D : List Pt) (m : Nat → Nat) : Nat → List Pt
  | 0 => []
  | i + 1 => accL C D m i ++ sideL (C.getD i (0, 0)) (D.getD i (0, 0)) (m i + 1)
theorem acc_len (C D : List Pt) (m : Nat → Nat) (hm : ∀ i, m i ≤ 10) : ∀ i, (accL C D m i).length ≤ 11 * i
  | 0 => by simp [accL]
  | i + 1 => by
    have := acc_len C D m hm i
    have := hm i
    simp only [accL, List.length_append, side_len]
    omega
theorem acc_box (x y s : Int) (m : Nat → Nat) : accL (corL x y s) stpL m 4 = boxL x y s (m 0) (m 1) (m 2) (m 3) := by
  simp only [accL, List.nil_append]
  rfl
/-- A block of a point. -/
def PtAt (w wx : World) (p : Pt) (x : Value) : Prop := ∃ g, x = .pointer (some ⟨g, 0, none⟩) ∧ w.heap.size ≤ g ∧ wx.cell? ⟨g, 0, none⟩ = some (.int .i64 p.1) ∧ wx.cell? ⟨g, 1, none⟩ = some (.int .i64 p.2)
theorem mv_ok {x y u v : Int} (h : moveE x y u v = 0) : okC (x, y) = true ∧ okC (x + u, y + v) = true ∧ moveX x y u v = x + u ∧ moveY x y u v = y + v := by
  refine ⟨?_, ?_, by unfold moveX; rw [if_pos h], by unfold moveY; rw [if_pos h]⟩
  all_goals
    unfold moveE at h
    unfold okC
    split at h
    · rename_i k
      rw [Bool.and_eq_true] at k
      split at h
      · rename_i k2
        first | exact k.1 | exact k2
      · omega
    · omega
theorem step_papp {ops : Array Oper} {o : Oper} {a : Act} {w : World} {K : Act → World → Prop} {Q : Exit → Act → World → Prop} {E : Prop} (hgd : o.guard = none) (s x : Operand)
    (ho : o.op = .call { callee := .builtin .append, args := #[s, x], argTypes := #[22, 22] }) (base : Nat) (v : Value) (n : Nat) (L : List (Int × Int)) (hs : a.eval s = v) (hown : w.ownsRow base 39 2 v n (pcells L))
    (g : Nat) (px py : Int) (hx : a.eval x = .slice (some ⟨g, 0, none⟩) 1 1) (h0 : w.cell? ⟨g, 0, none⟩ = some (.int .i64 px)) (h1 : w.cell? ⟨g, 1, none⟩ = some (.int .i64 py)) (hm : n ≤ 500) (hb : base ≤ w.heap.size)
    (h : ∀ v' w', w'.ownsRow base 39 2 v' (n + 1) (pcells (L ++ [(px, py)])) → w.grownBy w' v.ownBlock → K (a.put o.dst v') w') :
    if Region.wanted o (yielded ops a.tmps) = true then Oper.wp Try.prog o a w K Q else E := by
  have hw : Region.wanted o (yielded ops a.tmps) = true := by simp [Region.wanted, hgd]
  rw [if_pos hw]
  obtain ⟨i0, hi0, hz0, hz1, hz2⟩ := info_pt
  refine wp_append_own _ s x _ ho base 39 i0 _ 2 16 Try.underlying22 hi0 hz0 hz1 hz2 rfl (by decide) _ n (pcells L) hs hown ⟨g, 0, none⟩ 1 1 (pcells [(px, py)]) hx
    rfl ?_ (pcells_one _) (by simp only [maxLen]; omega) (by omega) hb ?_
  · intro j u hu
    match j, hu with
    | 0, hu => simp [pcells] at hu; subst hu; exact h0
    | 1, hu => simp [pcells] at hu; subst hu; exact h1
  · intro v' w' hown' hg _
    rw [← pcells_app] at hown'
    exact h _ _ hown' hg
def BoxOut (W : World) (C D : List Pt) (m : Nat → Nat) (v i : Value) (wr : World) : Prop :=
  ∃ k : Nat, i = .int .i64 (k : Int) ∧ k ≤ 4 ∧ wr.ownsRow W.heap.size 39 2 v (accL C D m k).length (pcells (accL C D m k)) ∧ Below W.heap.size W wr
def BoxInn (W : World) (A : List Pt) (c d : Pt) (mi : Nat) (v j : Value) (wr : World) : Prop :=
  ∃ k : Nat, j = .int .i64 (k : Int) ∧ k ≤ mi + 1 ∧ wr.ownsRow W.heap.size 39 2 v (A ++ sideL c d k).length (pcells (A ++ sideL c d k)) ∧ Below W.heap.size W wr
set_option maxRecDepth 100000 in
set_option maxHeartbeats 8000000 in
theorem l_ringBoxes (w : World) (x y z : Int) (hz : I64r z) (q0 q1 q2 q3 : Int) (h0 : I64r q0) (h1 : I64r q1) (h2 : I64r q2) (h3 : I64r q3) :
    Calls Try.prog 9 #[pt x y, .int .i64 z, .agg #[.int .i64 q0, .int .i64 q1, .int .i64 q2, .int .i64 q3]] w fun e w' => e = .returned (.bool true) ∧ Junk w w' := by
  have HAw := Lib.hid l_rgAwake
  have HAt := Lib.hid l_rgAt
  have hpk := fun w' => kp_Pick w' z 1048576 hz ⟨by decide, by decide⟩
  rw [if_neg (by decide)] at hpk
  have e0 := Int.emod_nonneg z (b := 1048576) (by decide)
  have e1 := Int.emod_lt_of_pos z (b := 1048576) (by decide)
  obtain ⟨r, hr⟩ : ∃ r, z % 1048576 = r := ⟨_, rfl⟩
  rw [hr] at hpk e0 e1
  have HPk := Lib.hid hpk
  obtain ⟨s, hs⟩ : ∃ s, 12 + r = s := ⟨_, rfl⟩
  have s1 : 12 ≤ s := by omega
  have s2 : s ≤ 1048587 := by omega
  have HMv := Lib.hid (fun w' => n_ptMove x y s s w')
  have HOK := Lib.hid (mv_ok (x := x) (y := y) (u := s) (v := s))
  generalize moveE x y s s = me at *
  generalize moveX x y s s = mx at *
  generalize moveY x y s s = my at *
  have H0 := Lib.hid h0
  have H1 := Lib.hid h1
  have H2 := Lib.hid h2
  have H3 := Lib.hid h3
  clear hpk e0 e1 hr hz h0 h1 h2 h3
  unfold pt at *
  go_enter Try.func9, Try.ntmps9
  go_upto_region 3 with (first
    | (go_at_call 24; refine (HAw.out _).mono ?_; rintro e w1 ⟨rfl, J1, d1, rfl⟩)
    | (go_at_call 27; (with_reducible refine (HPk.out _).mono ?_); rintro e w1 ⟨rfl, J2, d2, rfl⟩))
  obtain ⟨W, hW⟩ : ∃ W, ((w.alloc (.cells #[.int .i64 x, .int .i64 y] 39)).alloc (.cells #[.int .i64 q0, .int .i64 q1, .int .i64 q2, .int .i64 q3] 43)).plus (J1 ++ J2) d2 = W := ⟨_, rfl⟩
  have c0 : W.cell? ⟨w.heap.size, 0, none⟩ = some (.int .i64 x) := by rw [← hW]; simp [go_sem]
  have c1 : W.cell? ⟨w.heap.size, 1, none⟩ = some (.int .i64 y) := by rw [← hW]; simp [go_sem]
  have m0 : W.cell? ⟨w.heap.size + 1, 0, none⟩ = some (.int .i64 q0) := by rw [← hW]; simp [go_sem]
  have m1 : W.cell? ⟨w.heap.size + 1, 1, none⟩ = some (.int .i64 q1) := by rw [← hW]; simp [go_sem]
  have m2 : W.cell? ⟨w.heap.size + 1, 2, none⟩ = some (.int .i64 q2) := by rw [← hW]; simp [go_sem]
  have m3 : W.cell? ⟨w.heap.size + 1, 3, none⟩ = some (.int .i64 q3) := by rw [← hW]; simp [go_sem]
  have HJ := Lib.hid (show Below w.heap.size w W by rw [← hW]; (repeat' (first | (with_reducible exact Below.refl _ _) | (with_reducible assumption) | (with_reducible refine Below.alloc ?_ ?_ _) | (with_reducible refine Below.drew ?_) | (with_reducible refine below_drewN ?_ _) | (with_reducible refine below_plus ?_ ?_ _ _) | (with_reducible refine Below.setCell ?_ ?_ _) | (with_reducible refine Below.setRow ?_ ?_ _) | go_size)))
  have hb0 : w.heap.size < W.heap.size := World.block_lt_of_cell? _ _ c0
  have hb1 : w.heap.size + 1 < W.heap.size := World.block_lt_of_cell? _ _ m0
  have HMC := Lib.hid (show ∀ j, j < 4 → W.cell? ⟨w.heap.size + 1, j, none⟩ = some (.int .i64 (manyN q0 q1 q2 q3 j)) from fun j hj => by
    match j, hj with
    | 0, _ => exact m0
    | 1, _ => exact m1
    | 2, _ => exact m2
    | 3, _ => exact m3)
  rw [hW]
  clear hW m0 m1 m2 m3
  go_cut [8, 9] from 20 to 27 (fun u v wx => PtAt W wx (mx, my) u ∧ v = .int .i64 me ∧ Below W.heap.size W wx)
  case first =>
    go_region_held3 (fun w' => w'.cell? ⟨w.heap.size, 0, none⟩ = some (.int .i64 x) ∧ w'.cell? ⟨w.heap.size, 1, none⟩ = some (.int .i64 y)) (first | (refine ⟨?_, ?_⟩ <;> (simp [go_sem, *]; done))) (first
      | (go_simp; go_at_call 31; (with_reducible refine (HAt.out _ _ _).mono ?_); rintro e w1 ⟨rfl, J3, d3, rfl⟩; go_simp)
      | (go_simp; go_at_call 30; (with_reducible refine (HMv.out _).mono ?_); rintro e w1 ⟨rfl, J4, d4, rfl⟩; go_simp))
    all_goals
      go_wp2_with fail
      go_meet
      case rel => exact ⟨⟨_, rfl, by simp <;> omega, by simp [go_sem], by simp [go_sem]⟩, rfl, by (repeat' (first | (with_reducible exact Below.refl _ _) | (with_reducible assumption) | (with_reducible refine Below.alloc ?_ ?_ _) | (with_reducible refine Below.drew ?_) | (with_reducible refine below_drewN ?_ _) | (with_reducible refine below_plus ?_ ?_ _ _) | (with_reducible refine Below.setCell ?_ ?_ _) | (with_reducible refine Below.setRow ?_ ?_ _) | go_size))⟩
  case rest =>
  obtain ⟨⟨g, rfl, hgW, f0, f1⟩, rfl, hj1⟩ := hcut
  by_cases hme : me = 0
  · subst hme
    obtain ⟨k1, k2, rfl, rfl⟩ := HOK.out rfl
    have K1 := Lib.hid k1
    have K2 := Lib.hid k2
    clear k1 k2
    simp only at f0 f1
    obtain ⟨W1, rfl⟩ : ∃ W1, W1 = wc := ⟨_, rfl⟩
    have a0 := (World.cell?_of_block (a := ⟨w.heap.size, 0, none⟩) (hj1.block _ hb0)).trans c0
    have a1 := (World.cell?_of_block (a := ⟨w.heap.size, 1, none⟩) (hj1.block _ hb0)).trans c1
    have ab : w.heap.size < W1.heap.size := Nat.lt_of_lt_of_le hb0 hj1.size
    have gb : g < W1.heap.size := World.block_lt_of_cell? _ _ f0
    have HMC1 := Lib.hid (fun j (hj : j < 4) => (World.cell?_of_block (a := ⟨w.heap.size + 1, j, none⟩) (hj1.block _ hb1)).trans (HMC.out j hj))
    have hb2 : w.heap.size + 1 < W1.heap.size := Nat.lt_of_lt_of_le hb1 hj1.size
    have HJ1 := Lib.hid (HJ.out.trans (hj1.mono HJ.out.size))
    clear c0 c1 hj1 hgW hb0 hb1 HMC
    go_upto_region 6 with fail
    go_cut [10] from 31 to 43 (fun v wx => (∃ g, v = .slice (some ⟨g, 0, none⟩) 4 4 ∧ PRC wx (some ⟨g, 0, none⟩) 4 4 (corL x y s)) ∧ Below W1.heap.size W1 wx)
    case first =>
      go_region_held3 (fun w' => w'.cell? ⟨w.heap.size, 0, none⟩ = some (.int .i64 x) ∧ w'.cell? ⟨w.heap.size, 1, none⟩ = some (.int .i64 y) ∧ w'.cell? ⟨g, 0, none⟩ = some (.int .i64 (x + s)) ∧ w'.cell? ⟨g, 1, none⟩ = some (.int .i64 (y + s))) (first | (refine ⟨?_, ?_, ?_, ?_⟩ <;> (simp [go_sem, *]; done))) (first
        | (go_simp; go_at_call 31; (with_reducible refine (HAt.out _ _ _).mono ?_); rintro e w1 ⟨rfl, J3, d3, rfl⟩; go_simp))
      all_goals
        go_wp2_with fail
        go_meet
        case rel => exact ⟨⟨_, rfl, prc_blt rfl (by simp [pcells, corL]) (by decide) (by simp [Nat.add_assoc])⟩, by (repeat' (first | (with_reducible exact Below.refl _ _) | (with_reducible assumption) | (with_reducible refine Below.alloc ?_ ?_ _) | (with_reducible refine Below.drew ?_) | (with_reducible refine below_drewN ?_ _) | (with_reducible refine below_plus ?_ ?_ _ _) | (with_reducible refine Below.setCell ?_ ?_ _) | (with_reducible refine Below.setRow ?_ ?_ _) | go_size))⟩
    case rest =>
    obtain ⟨⟨gc, rfl, hc⟩, hj2⟩ := hcut
    obtain ⟨W2, rfl⟩ : ∃ W2, W2 = wc := ⟨_, rfl⟩
    have HCor := Lib.hid hc
    have HMC2 := Lib.hid (fun j (hj : j < 4) => (World.cell?_of_block (a := ⟨w.heap.size + 1, j, none⟩) (hj2.block _ hb2)).trans (HMC1.out j hj))
    have hb3 : w.heap.size + 1 < W2.heap.size := Nat.lt_of_lt_of_le hb2 hj2.size
    have HJ2 := Lib.hid (HJ1.out.trans (hj2.mono HJ1.out.size))
    clear hc hj2 a0 a1 ab f0 f1 gb HMC1 HJ1 hb2
    go_upto_region 7 with fail
    go_cut [11] from 44 to 48 (fun v wx => (∃ g, v = .slice (some ⟨g, 0, none⟩) 4 4 ∧ PRC wx (some ⟨g, 0, none⟩) 4 4 stpL) ∧ Below W2.heap.size W2 wx)
    case first =>
      go_wp2_with (go_at_call 31; (with_reducible refine (HAt.out _ _ _).mono ?_); rintro e w1 ⟨rfl, J3, d3, rfl⟩)
      go_meet
      case rel => exact ⟨⟨_, rfl, prc_blt rfl (by simp [pcells, stpL]) (by decide) (by simp [Nat.add_assoc])⟩, by (repeat' (first | (with_reducible exact Below.refl _ _) | (with_reducible assumption) | (with_reducible refine Below.alloc ?_ ?_ _) | (with_reducible refine Below.drew ?_) | (with_reducible refine below_drewN ?_ _) | (with_reducible refine below_plus ?_ ?_ _ _) | (with_reducible refine Below.setCell ?_ ?_ _) | (with_reducible refine Below.setRow ?_ ?_ _) | go_size))⟩
    case rest =>
    obtain ⟨⟨gs, rfl, hst⟩, hj3⟩ := hcut
    obtain ⟨W3, rfl⟩ : ∃ W3, W3 = wc := ⟨_, rfl⟩
    have hcr := HCor.out.below hj3
    have HMC3 := Lib.hid (fun j (hj : j < 4) => (World.cell?_of_block (a := ⟨w.heap.size + 1, j, none⟩) (hj3.block _ hb3)).trans (HMC2.out j hj))
    have hb4 : w.heap.size + 1 < W3.heap.size := Nat.lt_of_lt_of_le hb3 hj3.size
    have HJ3 := Lib.hid (HJ2.out.trans (hj3.mono HJ2.out.size))
    rcases hcr.rd.2 with h | ⟨b1, o1, e1, hcc⟩
    · omega
    injection e1 with e1
    injection e1 with e1 e2
    subst e1 e2
    rcases hst.rd.2 with h | ⟨b2, o2, e1, hcs⟩
    · omega
    injection e1 with e1
    injection e1 with e1 e2
    subst e1 e2
    have HCC := Lib.hid hcc
    have HCS := Lib.hid hcs
    have HCR := Lib.hid hcr
    obtain ⟨m, hm⟩ : ∃ m : Nat → Nat, m = fun i => (manyN q0 q1 q2 q3 i % 11).toNat := ⟨_, rfl⟩
    have HM10 := Lib.hid (show ∀ i, m i ≤ 10 from fun i => by rw [hm]; simp only; have := Int.emod_lt_of_pos (manyN q0 q1 q2 q3 i) (b := 11) (by decide); omega)
    have HPm := Lib.hid (show ∀ i, i < 4 → ∀ w', Calls Try.prog 27 #[.int .i64 (manyN q0 q1 q2 q3 i), .int .i64 11] w' fun e w'' => e = .returned (.int .i64 (m i : Nat)) ∧ Junk w' w'' from fun i hi w' => by
      have hb : I64r (manyN q0 q1 q2 q3 i) := by
        match i, hi with
        | 0, _ => exact H0.out
        | 1, _ => exact H1.out
        | 2, _ => exact H2.out
        | 3, _ => exact H3.out
      have k := kp_Pick w' (manyN q0 q1 q2 q3 i) 11 hb ⟨by decide, by decide⟩
      rw [if_neg (by decide)] at k
      have e : ((m i : Nat) : Int) = manyN q0 q1 q2 q3 i % 11 := by rw [hm]; have := Int.emod_nonneg (manyN q0 q1 q2 q3 i) (b := 11) (by decide); simp only; omega
      rw [e]; exact k)
    have HLen := Lib.hid (acc_len (corL x y s) stpL m HM10.out)
    have HBound := Lib.hid (show ∀ i, i < 4 → ∃ cx cy dx dy : Int, (corL x y s).getD i (0, 0) = (cx, cy) ∧ stpL.getD i (0, 0) = (dx, dy) ∧ -2199023255551 ≤ cx ∧ cx ≤ 2199023255551 ∧ -2199023255551 ≤ cy ∧ cy ≤ 2199023255551 ∧ (dx = 0 ∨ dx = 1 ∨ dx = -1) ∧ (dy = 0 ∨ dy = 1 ∨ dy = -1) from fun i hi => by
      have k1 := K1.out
      have k2 := K2.out
      unfold okC at k1 k2
      rw [okP_iff] at k1 k2
      simp only at k1 k2
      match i, hi with
      | 0, _ => exact ⟨x, y, 1, 0, rfl, rfl, by omega, by omega, by omega, by omega, by decide, by decide⟩
      | 1, _ => exact ⟨x + s, y, 0, 1, rfl, rfl, by omega, by omega, by omega, by omega, by decide, by decide⟩
      | 2, _ => exact ⟨x + s, y + s, -1, 0, rfl, rfl, by omega, by omega, by omega, by omega, by decide, by decide⟩
      | 3, _ => exact ⟨x, y + s, 0, -1, rfl, rfl, by omega, by omega, by omega, by omega, by decide, by decide⟩)
    have HBox := Lib.hid (acc_box x y s m)
    have hgc : gc < W3.heap.size := World.block_lt_of_cell? _ _ (hcc 0 (by decide)).1
    have hgs : gs < W3.heap.size := World.block_lt_of_cell? _ _ (hcs 0 (by decide)).1
    clear hcr hst hcc hcs hj3 hm HMC2 HJ2 hb3 H0 H1 H2 H3
    generalize hC : corL x y s = C at *
    generalize hD : stpL = D at *
    have HC := Lib.hid hC
    clear hC hD
    go_wp2_with fail
    go_loopw [12, 13] (fun v i wr => BoxOut W3 C D m v i wr) (fun _ i _ => 4 - (intOf i).toNat)
    case atStart => exact ⟨0, rfl, by decide, pnil_owns _ _, Below.refl _ _⟩
    case round =>
      obtain ⟨i, rfl, i4, hown, hB⟩ := hrel
      by_cases hi : i < 4
      · have i1 : (i : Int) < 4 := by omega
        have HOW0 := Lib.hid hown
        have HB0 := Lib.hid hB
        clear hown hB
        obtain ⟨cx, cy, dx, dy, hc, hd, bx1, bx2, by1, by2, bd1, bd2⟩ := HBound.out i hi
        have hm10 := HM10.out i
        have HPi := Lib.hid (HPm.out i hi)
        have HAcc := Lib.hid (show accL C D m (i + 1) = accL C D m i ++ sideL (cx, cy) (dx, dy) (m i + 1) by rw [← hc, ← hd]; rfl)
        have HLi := Lib.hid (HLen.out i)
        obtain ⟨C1, C2⟩ := HCC.out i hi
        obtain ⟨D1, D2⟩ := HCS.out i hi
        rw [hc] at C1 C2
        rw [hd] at D1 D2
        simp only [Nat.zero_add] at C1 C2 D1 D2
        have M1 := HMC3.out i hi
        generalize manyN q0 q1 q2 q3 i = qi at *
        generalize hMi : m i = mi at *
        clear hc hd
        go_wp2_with fail
        go_loopw [12, 14] (fun v j wr => BoxInn W3 (accL C D m i) (cx, cy) (dx, dy) mi v j wr) (fun _ j _ => mi + 1 - (intOf j).toNat)
        case atStart => exact ⟨0, rfl, by omega, by simpa [sideL] using HOW0.out, HB0.out⟩
        case round =>
          obtain ⟨k, rfl, k1, hown, hB⟩ := hrel
          have HOW := Lib.hid hown
          have HB := Lib.hid hB
          have hsz2 := hB.size
          obtain ⟨wo, rfl⟩ : ∃ wo : World, wo = wr := ⟨_, rfl⟩
          have n1 := (World.cell?_of_block (a := ⟨w.heap.size + 1, i, none⟩) (hB.block _ hb4)).trans M1
          have nb : w.heap.size + 1 < wo.heap.size := Nat.lt_of_lt_of_le hb4 hB.size
          by_cases hk : k ≤ mi
          · have k2 : (k : Int) ≤ (mi : Int) := by omega
            have r1 := (World.cell?_of_block (a := ⟨gc, i * 2, none⟩) (hB.block _ hgc)).trans C1
            have r2 := (World.cell?_of_block (a := ⟨gc, i * 2 + 1, none⟩) (hB.block _ hgc)).trans C2
            have t1 := (World.cell?_of_block (a := ⟨gs, i * 2, none⟩) (hB.block _ hgs)).trans D1
            have t2 := (World.cell?_of_block (a := ⟨gs, i * 2 + 1, none⟩) (hB.block _ hgs)).trans D2
            have rb : gc < wo.heap.size := Nat.lt_of_lt_of_le hgc hB.size
            have tb : gs < wo.heap.size := Nat.lt_of_lt_of_le hgs hB.size
            try simp only at r1 r2 t1 t2
            obtain ⟨P, hP⟩ : ∃ P, (k : Int) * dx = P := ⟨_, rfl⟩
            obtain ⟨Q, hQ⟩ : ∃ Q, (k : Int) * dy = Q := ⟨_, rfl⟩
            have pb : -10 ≤ P ∧ P ≤ 10 := by rcases bd1 with rfl | rfl | rfl <;> omega
            have qb : -10 ≤ Q ∧ Q ≤ 10 := by rcases bd2 with rfl | rfl | rfl <;> omega
            have w1 : IntKind.i64.wrap ((k : Int) * dx) = P := by rw [hP]; simp [IntKind.wrap, IntKind.signed, IntKind.bits]; omega
            have w2 : IntKind.i64.wrap ((k : Int) * dy) = Q := by rw [hQ]; simp [IntKind.wrap, IntKind.signed, IntKind.bits]; omega
            have w3 : IntKind.i64.wrap (cx + P) = cx + P := by simp [IntKind.wrap, IntKind.signed, IntKind.bits]; omega
            have w4 : IntKind.i64.wrap (cy + Q) = cy + Q := by simp [IntKind.wrap, IntKind.signed, IntKind.bits]; omega
            have hsd := side_next (cx, cy) (dx, dy) k
            simp only [hP, hQ] at hsd
            have HSd := Lib.hid hsd
            clear hsd
            have HSl := Lib.hid (show (accL C D m i ++ sideL (cx, cy) (dx, dy) k).length ≤ 500 by rw [List.length_append, side_len]; have := HLi.out; omega)
            have HA1 := Lib.hid (fun w' => HAt.out (cx + P) (cy + Q) w')
            have i2 : (i : Int) < ((4 : Nat) : Int) := by omega
            clear hown hB bd1 bd2 hP hQ
            go_upto_region 15 with (go_at_call 27; (with_reducible refine (HPi.out _).mono ?_); rintro e w1 ⟨rfl, J4, d4, rfl⟩)
            go_region_held3 (fun w' => w'.cell? ⟨gc, i * 2, none⟩ = some (.int .i64 cx) ∧ w'.cell? ⟨gc, i * 2 + 1, none⟩ = some (.int .i64 cy) ∧ w'.cell? ⟨gs, i * 2, none⟩ = some (.int .i64 dx) ∧ w'.cell? ⟨gs, i * 2 + 1, none⟩ = some (.int .i64 dy)) (first | (refine ⟨?_, ?_, ?_, ?_⟩ <;> (simp [go_sem, *]; done))) (first
              | (go_simp; go_at_call 31; (with_reducible refine (HA1.out _).mono ?_); rintro e w1 ⟨rfl, J5, d5, rfl⟩; go_simp)
              | (refine step_papp rfl (.tmp 61) (.tmp 89) rfl W3.heap.size _ _ (accL C D m i ++ sideL (cx, cy) (dx, dy) k) rfl (powns_below HOW.out (by (repeat' (first | (with_reducible exact Below.refl _ _) | (with_reducible assumption) | (with_reducible refine Below.alloc ?_ ?_ _) | (with_reducible refine Below.drew ?_) | (with_reducible refine below_drewN ?_ _) | (with_reducible refine below_plus ?_ ?_ _ _) | (with_reducible refine Below.setCell ?_ ?_ _) | (with_reducible refine Below.setRow ?_ ?_ _) | go_size)))) _ (cx + P) (cy + Q) rfl (by simp [go_sem]) (by simp [go_sem]) HSl.out (by simp; have := HB.out.size; omega) ?_; intro v' w' hown' hg'; have hgb := grown_below (B := W3.heap.size) (a := W3) (HB.out.trans (by (repeat' (first | (with_reducible exact Below.refl _ _) | (with_reducible assumption) | (with_reducible refine Below.alloc ?_ ?_ _) | (with_reducible refine Below.drew ?_) | (with_reducible refine below_drewN ?_ _) | (with_reducible refine below_plus ?_ ?_ _ _) | (with_reducible refine Below.setCell ?_ ?_ _) | (with_reducible refine Below.setRow ?_ ?_ _) | go_size)))) hg' (by simp; have := HB.out.size; omega) (powns_block HOW.out); have K1 := (World.cell?_of_block (a := ⟨gc, i * 2, none⟩) (hgb.block _ hgc)).trans C1; have K2 := (World.cell?_of_block (a := ⟨gc, i * 2 + 1, none⟩) (hgb.block _ hgc)).trans C2; have K3 := (World.cell?_of_block (a := ⟨gs, i * 2, none⟩) (hgb.block _ hgs)).trans D1; have K4 := (World.cell?_of_block (a := ⟨gs, i * 2 + 1, none⟩) (hgb.block _ hgs)).trans D2; go_simp))
            all_goals
              go_wp2_with fail
              go_roundw
              case rel => exact ⟨k + 1, by go_num, by omega, by rw [HSd.out, ← List.append_assoc, List.length_append]; exact hown', hgb⟩
              case measure => simp [intOf]; omega
          · have k2 : ¬ (k : Int) ≤ (mi : Int) := by omega
            obtain rfl : k = mi + 1 := by omega
            have HBx := Lib.hid hB
            clear hown hB
            go_wp2_with (go_at_call 27; (with_reducible refine (HPi.out _).mono ?_); rintro e w1 ⟨rfl, J4, d4, rfl⟩)
            go_roundw
            case rel => exact ⟨i + 1, by go_num, by omega, by rw [HAcc.out]; exact powns_below HOW.out (by (repeat' (first | (with_reducible exact Below.refl _ _) | (with_reducible assumption) | (with_reducible refine Below.alloc ?_ ?_ _) | (with_reducible refine Below.drew ?_) | (with_reducible refine below_drewN ?_ _) | (with_reducible refine below_plus ?_ ?_ _ _) | (with_reducible refine Below.setCell ?_ ?_ _) | (with_reducible refine Below.setRow ?_ ?_ _) | go_size))), HBx.out.trans (by (repeat' (first | (with_reducible exact Below.refl _ _) | (with_reducible assumption) | (with_reducible refine Below.alloc ?_ ?_ _) | (with_reducible refine Below.drew ?_) | (with_reducible refine below_drewN ?_ _) | (with_reducible refine below_plus ?_ ?_ _ _) | (with_reducible refine Below.setCell ?_ ?_ _) | (with_reducible refine Below.setRow ?_ ?_ _) | go_size)))⟩
            case measure => simp [intOf]; omega
      · obtain rfl : i = 4 := by omega
        have hlen : (accL C D m 4).length = m 0 + m 1 + m 2 + m 3 + 4 := by rw [HBox.out, boxL_len]
        have hm0 := HM10.out 0
        have hm1 := HM10.out 1
        have hm2 := HM10.out 2
        have hm3 := HM10.out 3
        have HF := Lib.hid (box_fine (m0 := m 0) (m1 := m 1) (m2 := m 2) (m3 := m 3) s1 hm0 hm1 hm2 hm3 K1.out K2.out)
        have HSn := Lib.hid (box_sign (m0 := m 0) (m1 := m 1) (m2 := m 2) (m3 := m 3) s1 hm0 hm1 hm2 hm3 K1.out K2.out)
        obtain ⟨av, cv, rfl, hR⟩ := prc_owns hown
        rw [hlen] at hR
        have HR := Lib.hid hR
        have HC1 := Lib.hid (ck_is (accL C D m 4) (0, 0) (by rw [HBox.out]; exact check_at (check_fine.2 HF.out)) (m 0 + m 1 + m 2 + m 3 + 4) (by omega))
        have HS1 := Lib.hid (sg_is (accL C D m 4) 1 (by rw [HBox.out]; exact HSn.out) (m 0 + m 1 + m 2 + m 3 + 4) (by omega))
        have HC2 := Lib.hid (ck_is [(x, y), (x + s, y + s), (x + s, y), (x, y + s)] (193, 0) (box_crossed (by omega) K1.out K2.out) 4 (by decide))
        simp only at HC1 HC2
        rw [hlen]
        generalize accL C D m 4 = LL at *
        generalize m 0 + m 1 + m 2 + m 3 + 4 = nn at *
        have HBe := Lib.hid hB
        have hsz := hB.size
        obtain ⟨wo, rfl⟩ : ∃ wo : World, wo = wr := ⟨_, rfl⟩
        have q := fun j hj => HCC.out j hj
        rw [← HC.out] at q
        obtain ⟨u0, u1⟩ := q 0 (by decide)
        obtain ⟨u2, u3⟩ := q 1 (by decide)
        obtain ⟨u4, u5⟩ := q 2 (by decide)
        obtain ⟨u6, u7⟩ := q 3 (by decide)
        simp only [corL, List.getD_cons_zero, List.getD_cons_succ, Nat.zero_add, Nat.zero_mul, Nat.one_mul, Nat.reduceMul, Nat.reduceAdd] at u0 u1 u2 u3 u4 u5 u6 u7
        have v0 := (World.cell?_of_block (a := ⟨gc, 0, none⟩) (hB.block _ hgc)).trans u0
        have v1 := (World.cell?_of_block (a := ⟨gc, 1, none⟩) (hB.block _ hgc)).trans u1
        have v2 := (World.cell?_of_block (a := ⟨gc, 2, none⟩) (hB.block _ hgc)).trans u2
        have v3 := (World.cell?_of_block (a := ⟨gc, 3, none⟩) (hB.block _ hgc)).trans u3
        have v4 := (World.cell?_of_block (a := ⟨gc, 4, none⟩) (hB.block _ hgc)).trans u4
        have v5 := (World.cell?_of_block (a := ⟨gc, 5, none⟩) (hB.block _ hgc)).trans u5
        have v6 := (World.cell?_of_block (a := ⟨gc, 6, none⟩) (hB.block _ hgc)).trans u6
        have v7 := (World.cell?_of_block (a := ⟨gc, 7, none⟩) (hB.block _ hgc)).trans u7
        have rb : gc < wo.heap.size := Nat.lt_of_lt_of_le hgc hB.size
        have hfl := fld_err
        clear hown hB hR hlen q u0 u1 u2 u3 u4 u5 u6 u7 hm0 hm1 hm2 hm3
        go_upto_region 18 with (first
          | (go_at_call 14; refine (HC1.out _ _ _ HR.out).mono ?_; clear HC1; rintro e w1 ⟨rfl, J5, d5, rfl⟩)
          | (go_at_call 18; refine (HS1.out _ _ _ (HR.out.below (by (repeat' (first | (with_reducible exact Below.refl _ _) | (with_reducible assumption) | (with_reducible refine Below.alloc ?_ ?_ _) | (with_reducible refine Below.drew ?_) | (with_reducible refine below_drewN ?_ _) | (with_reducible refine below_plus ?_ ?_ _ _) | (with_reducible refine Below.setCell ?_ ?_ _) | (with_reducible refine Below.setRow ?_ ?_ _) | go_size))))).mono ?_; rintro e w1 ⟨rfl, J6, d6, rfl⟩))
        refine region_quiet_tail (C := Cls wo) 12 (by kernel_rfl) (by kernel_rfl) ⟨_, _, rfl⟩ ?_
        simp only [List.take_succ_cons, List.take_zero, List.drop_succ_cons, List.drop_zero]
        refine QW.out ?_
        repeat (first | (refine qw_skip (by rfl) ?_; simp only [Act.put, List.setIfInBounds_toArray, List.set_cons_succ, List.set_cons_zero]) | (refine qw_want (by rfl) (fun K hK => ?_); go_simp; first | (refine hK _ ?_; clear hK K) | (apply Exists.intro; refine ⟨?_, hK _ ?_⟩; (rintro w3_ ⟨J3_, d3_, rfl⟩; first | (with_reducible exact rfl) | (go_simp; with_reducible exact rfl) | (go_simp; (first | (with_reducible refine (HC2.out _).mono ?_)); rintro e_ w_ ⟨rfl, J4_, d4_, rfl⟩; exact ⟨rfl, J3_ ++ J4_, d4_, by simp only [plus_plus, Array.append_assoc]⟩)); clear hK K)))
        refine qw_nil ?_
        rintro w3 ⟨J3, d3, rfl⟩
        go_wp2_with (go_at_call 14; refine (HC2.out _ _ _ (prc_blt rfl (by simp [pcells]) (by decide) (by simp [Nat.add_assoc]))).mono ?_; rintro e w1 ⟨rfl, J7, d7, rfl⟩)
        go_ret
        exact ⟨rfl, junk_of_below ((HJ3.out.trans (HBe.out.mono HJ3.out.size)).trans (by have := HJ3.out.size; (repeat' (first | (with_reducible exact Below.refl _ _) | (with_reducible assumption) | (with_reducible refine Below.alloc ?_ ?_ _) | (with_reducible refine Below.drew ?_) | (with_reducible refine below_drewN ?_ _) | (with_reducible refine below_plus ?_ ?_ _ _) | (with_reducible refine Below.setCell ?_ ?_ _) | (with_reducible refine Below.setRow ?_ ?_ _) | go_size))))⟩
  · have e2 : (me == 0) = false := by rw [beq_eq_false_iff_ne]; exact hme
    have e3 : (me != 0) = true := by rw [bne, e2]; rfl
    have HJ1 := Lib.hid (HJ.out.trans (hj1.mono HJ.out.size))
    clear hj1
    go_wp2_with fail
    go_ret
    exact ⟨rfl, junk_of_below HJ1.out⟩
end Go.Proofs.Ytmofejcafbjlnaa

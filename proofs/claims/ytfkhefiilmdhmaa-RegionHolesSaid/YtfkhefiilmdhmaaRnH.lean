/- The law RegionHoles: the walk. -/
import Derived.Test.YtfkhefiilmdhmaaRnB
import Derived.Test.YtfkhefiilmdhmaaInTwo
namespace Go.Proofs.Ytfkhefiilmdhmaa
set_option linter.unusedVariables false
set_option linter.unusedSimpArgs false
open Go.RowKit

/-- A ring that reads is put behind rings of the call's own. -/
theorem wpList_garg {ops : Array Oper} {rest : List Oper} {o : Oper} {a : Act} {w : World} {Q : Exit → Act → World → Prop} (hgd : o.guard = none) (s x : Operand)
    (ho : o.op = .call { callee := .builtin .append, args := #[s, x], argTypes := #[23, 23] }) (base : Nat) (v : Value) (ps : List (Value × List Pt)) (hs : a.eval s = v) (hown : GOwn w base v ps)
    (g : Nat) (y : Option Addr) (m c : Nat) (L : List Pt) (hx : a.eval x = .slice (some ⟨g, 0, none⟩) 1 1) (hc : w.cell? ⟨g, 0, none⟩ = some (.slice y m c)) (hp : PRC w y m c L) (hlow : ∀ z, y = some z → 0 < m → z.block < base) (hm : ps.length ≤ 100000) (hb : base ≤ w.heap.size)
    (h : ∀ a' ca' w', GRC w' a' (ps.length + 1) ca' (ps.map (·.2) ++ [L]) → w.grownBy w' v.ownBlock → wpList Try.prog ops Q rest (a.put o.dst (.slice a' (ps.length + 1) ca')) w') : wpList Try.prog ops Q (o :: rest) a w := by
  obtain ⟨i0, hi0, hz0, hz1, hz2⟩ := info_ring
  refine wpList_append_own _ hgd s x _ ho base 28 i0 _ 1 24 Try.underlying23 hi0 hz0 hz1 hz2 rfl (by decide) v ps.length (ps.map (·.1)) hs hown.row ⟨g, 0, none⟩ 1 1 [.slice y m c] hx
    rfl (fun j z hz => by
      cases j with
      | zero => simp at hz; subst hz; exact hc
      | succ j => simp at hz) (by intro z hz; simp at hz; subst hz; rfl) (by unfold maxLen; omega) (by omega) hb ?_
  intro v' w' hown' hg _
  have hk : GKeeps base 27 w w' := gkeeps_grown hg base _ fun r c e1 e2 e3 => by
    obtain ⟨_, c', hc'⟩ := gown_block hown.row r e1
    rw [e3] at hc'
    injection hc' with hc'
    injection hc' with _ hc' _
    exact absurd hc' (by decide)
  have hb2 : Below base w w' := (Below.refl base w).grown hg hb (fun r hr => (gown_block hown.row r hr).1)
  have hpl : PRC w' y m c L := by
    refine ⟨⟨hp.rd.1, ?_⟩, hp.ok⟩
    rcases hp.rd.2 with h0 | ⟨b, o', e, hcell⟩
    · exact .inl h0
    · by_cases hm0 : m = 0
      · exact .inl hm0
      refine .inr ⟨b, o', e, fun i hi => ?_⟩
      have hbl : b < base := hlow ⟨b, o', none⟩ e (by omega)
      obtain ⟨k1, k2⟩ := hcell i hi
      exact ⟨(World.cell?_of_block (a := ⟨b, o' + i * 2, none⟩) (hb2.block b hbl)).trans k1, (World.cell?_of_block (a := ⟨b, o' + i * 2 + 1, none⟩) (hb2.block b hbl)).trans k2⟩
  obtain ⟨h1, hr⟩ := hown'
  rcases hr with ⟨e, h0⟩ | ⟨g', cap, cur, rfl, hg', hc', hnc, h5, h6, ht⟩
  · simp at h0
  · refine h _ cap _ ⟨by simp, ⟨hnc, fun h => by cases h⟩, .inr ⟨g', 0, rfl, fun i hi => ?_⟩⟩ hg
    rw [Nat.mul_one] at ht
    have hcell : w'.cell? ⟨g', 0 + i, none⟩ = (ps.map (·.1) ++ [Value.slice y m c])[i]? := by
      rw [← ht, List.getElem?_take_of_lt (by simpa using hi)]
      simp [World.cell?, hc']
    by_cases hi2 : i < ps.length
    · have hmem : ps[i] ∈ ps := List.getElem_mem hi2
      obtain ⟨a', c', e, hB⟩ := prc_owns (gown_keeps (hown.each _ hmem) hk)
      refine ⟨a', ps[i].2.length, c', ?_, ?_⟩
      · rw [hcell, List.getElem?_append_left (by simpa using hi2), List.getElem?_map, List.getElem?_eq_getElem hi2]
        simp [e]
      · rw [List.getD_eq_getElem?_getD, List.getElem?_append_left (by simpa using hi2), List.getElem?_map, List.getElem?_eq_getElem hi2]
        exact hB
    · have hi3 : i = ps.length := by omega
      subst hi3
      refine ⟨y, m, c, ?_, ?_⟩
      · rw [hcell, List.getElem?_append_right (by simp)]; simp
      · rw [List.getD_eq_getElem?_getD, List.getElem?_append_right (by simp)]
        simpa using hpl

set_option maxRecDepth 100000 in
theorem rholes_big (px py : Int) (w : World) (a b : Option Addr) (n ca m cb : Nat) (R : List (List Pt)) (hR : GRC w a n ca R) (hs : n ≤ 4611686018427387903) (hl : ∀ K ∈ R, K.length ≤ 8796093022208) (h : (10 < n ∨ 100 < allN R) ∨ 100 < m) :
    Calls Try.prog 4 #[.agg #[.slice a n ca], .slice b m cb, pt px py] w fun e w' => e = .returned (.bool true) ∧ Junk w w' := by
  have HAw := Lib.hid l_reAwake
  have HR := Lib.hid hR
  have HL := Lib.hid (fun w' h => k_LargeRegion 10 100 (by decide) w' a n ca R h hs hl)
  unfold pt
  by_cases h1 : 10 < n ∨ 100 < allN R
  · have hb : (decide (10 < n) || decide (100 < allN R)) = true := by simpa using h1
    rw [hb] at HL
    clear hR hb h h1
    go_enter Try.func4, Try.ntmps4
    go_wp2_with (first | (go_at_call 11; refine (HAw.out _).mono ?_; rintro e w1 ⟨rfl, J1, d1, rfl⟩) | (go_at_call 12; refine (HL.out _ (HR.out.below (by (repeat' (first | (with_reducible exact Below.refl _ _) | (with_reducible assumption) | (with_reducible refine Below.alloc ?_ ?_ _) | (with_reducible refine Below.drew ?_) | (with_reducible refine below_drewN ?_ _) | (with_reducible refine below_plus ?_ ?_ _ _) | (with_reducible refine Below.setCell ?_ ?_ _) | (with_reducible refine Below.setRow ?_ ?_ _) | go_size))))).mono ?_; rintro e w1 ⟨rfl, J2, d2, rfl⟩))
    go_ret
    exact ⟨rfl, junk_of_below (by (repeat' (first | (with_reducible exact Below.refl _ _) | (with_reducible assumption) | (with_reducible refine Below.alloc ?_ ?_ _) | (with_reducible refine Below.drew ?_) | (with_reducible refine below_drewN ?_ _) | (with_reducible refine below_plus ?_ ?_ _ _) | (with_reducible refine Below.setCell ?_ ?_ _) | (with_reducible refine Below.setRow ?_ ?_ _) | go_size)))⟩
  · have hb : (decide (10 < n) || decide (100 < allN R)) = false := by simpa using h1
    rw [hb] at HL
    have i1 : (100 : Int) < (m : Int) := by omega
    clear hR hb h h1
    go_enter Try.func4, Try.ntmps4
    go_wp2_with (first | (go_at_call 11; refine (HAw.out _).mono ?_; rintro e w1 ⟨rfl, J1, d1, rfl⟩) | (go_at_call 12; refine (HL.out _ (HR.out.below (by (repeat' (first | (with_reducible exact Below.refl _ _) | (with_reducible assumption) | (with_reducible refine Below.alloc ?_ ?_ _) | (with_reducible refine Below.drew ?_) | (with_reducible refine below_drewN ?_ _) | (with_reducible refine below_plus ?_ ?_ _ _) | (with_reducible refine Below.setCell ?_ ?_ _) | (with_reducible refine Below.setRow ?_ ?_ _) | go_size))))).mono ?_; rintro e w1 ⟨rfl, J2, d2, rfl⟩))
    go_ret
    exact ⟨rfl, junk_of_below (by (repeat' (first | (with_reducible exact Below.refl _ _) | (with_reducible assumption) | (with_reducible refine Below.alloc ?_ ?_ _) | (with_reducible refine Below.drew ?_) | (with_reducible refine below_drewN ?_ _) | (with_reducible refine below_plus ?_ ?_ _ _) | (with_reducible refine Below.setCell ?_ ?_ _) | (with_reducible refine Below.setRow ?_ ?_ _) | go_size)))⟩
set_option maxRecDepth 100000 in
set_option maxHeartbeats 4000000 in
theorem rholes_in (px py : Int) (w : World) (a b : Option Addr) (n ca m cb : Nat) (R : List (List Pt)) (L : List Pt) (hR : GRC w a n ca R) (hL : PRC w b m cb L) (h1 : n ≤ 10) (h2 : allN R ≤ 100) (h3 : m ≤ 100) :
    Calls Try.prog 4 #[.agg #[.slice a n ca], .slice b m cb, pt px py] w fun e w' => e = .returned (.bool true) ∧ Junk w w' := by
  have hl := fun K hK => Nat.le_trans (le_alln (R := R) (K := K) hK) h2
  have HAw := Lib.hid l_reAwake
  have HR := Lib.hid hR
  have HP := Lib.hid hL
  have HL := Lib.hid (fun w' h => k_LargeRegion 10 100 (by decide) w' a n ca R h (by omega) (fun K hK => by have := hl K hK; omega))
  have hb : (decide (10 < n) || decide (100 < allN R)) = false := by rw [decide_eq_false (by omega), decide_eq_false (by omega)]; rfl
  rw [hb] at HL
  have HCp := Lib.hid (fun w' h => k_CopyRings w' a n ca R h (by omega) (fun K hK => by have := hl K hK; omega))
  have HI1 := Lib.hid (fun w' h => c_reIn px py w' a n ca R h (by omega) (fun K hK => by have := hl K hK; omega))
  have HI2 := Lib.hid (fun w' a' ca' h => c_reIn px py w' a' (n + 1) ca' (R ++ [L]) h (by omega) (fun K hK => by
    rcases List.mem_append.1 hK with hK | hK
    · have := hl K hK; omega
    · rw [List.mem_singleton.1 hK, hL.rd.1]; omega))
  have HI3 := Lib.hid (fun w' h => c_inIn px py w' b m cb L h (by omega))
  have hq := reg_app (px, py) R L
  generalize regQ (px, py) (R ++ [L]) = q2 at *
  generalize regQ (px, py) R = q1 at *
  generalize inQ (px, py) L = q3 at *
  subst hq
  have hlow : ∀ z, b = some z → 0 < m → z.block < w.heap.size := by
    intro z hz hm
    rcases hL.rd.2 with h0 | ⟨b', o', e, hc⟩
    · omega
    · rw [hz] at e
      cases e
      exact World.block_lt_of_cell? _ _ (hc 0 hm).1
  have HLW := Lib.hid hlow
  have LR := Lib.hid hR.len
  have i1 : ¬ (100 : Int) < (m : Int) := by omega
  unfold pt at *
  clear hR hL hl hb hlow
  go_enter Try.func4, Try.ntmps4
  go_upto_region 5 with (first
    | (go_at_call 11; refine (HAw.out _).mono ?_; rintro e w1 ⟨rfl, J1, d1, rfl⟩)
    | (go_at_call 12; refine (HL.out _ (HR.out.below (by (repeat' (first | (with_reducible exact Below.refl _ _) | (with_reducible assumption) | (with_reducible refine Below.alloc ?_ ?_ _) | (with_reducible refine Below.drew ?_) | (with_reducible refine below_drewN ?_ _) | (with_reducible refine below_plus ?_ ?_ _ _) | (with_reducible refine Below.setCell ?_ ?_ _) | (with_reducible refine Below.setRow ?_ ?_ _) | go_size))))).mono ?_; rintro e w1 ⟨rfl, J2, d2, rfl⟩)
    | (go_at_call 13; refine (HCp.out _ (HR.out.below (by (repeat' (first | (with_reducible exact Below.refl _ _) | (with_reducible assumption) | (with_reducible refine Below.alloc ?_ ?_ _) | (with_reducible refine Below.drew ?_) | (with_reducible refine below_drewN ?_ _) | (with_reducible refine below_plus ?_ ?_ _ _) | (with_reducible refine Below.setCell ?_ ?_ _) | (with_reducible refine Below.setRow ?_ ?_ _) | go_size))))).mono ?_; rintro e w1 ⟨⟨v, rfl, ps, hv, hps⟩, J3, d3, rfl⟩; obtain ⟨x, c, rfl, _⟩ := hv.grc; have HPL := Lib.hid (show ps.length = n by have := congrArg List.length hps; rw [List.length_map, LR.out] at this; exact this); rw [HPL.out] at hv; rw [HPL.out]; (try simp only [plus_plus, Array.append_assoc] at hv); have HO := Lib.hid hv; have HPS := Lib.hid hps; clear hv hps)
    | (at_builtin; refine wpList_garg rfl (.tmp 20) (.tmp 22) rfl _ _ ps rfl (HO.out.below (by ((try simp only [← Array.append_assoc]); repeat' (first | (with_reducible exact Below.refl _ _) | (with_reducible assumption) | (with_reducible refine Below.alloc ?_ ?_ _) | (with_reducible refine Below.drew ?_) | (with_reducible refine below_drewN ?_ _) | (with_reducible exact below_d _ _ _ _ _) | (with_reducible refine below_snoc _ _ ?_ ?_) | (with_reducible refine below_plus ?_ ?_ _ _) | (with_reducible refine Below.setCell ?_ ?_ _) | (with_reducible refine Below.setRow ?_ ?_ _) | go_size)))) _ b m cb L rfl (by simp [go_sem]) (HP.out.below (by ((try simp only [← Array.append_assoc]); repeat' (first | (with_reducible exact Below.refl _ _) | (with_reducible assumption) | (with_reducible refine Below.alloc ?_ ?_ _) | (with_reducible refine Below.drew ?_) | (with_reducible refine below_drewN ?_ _) | (with_reducible exact below_d _ _ _ _ _) | (with_reducible refine below_snoc _ _ ?_ ?_) | (with_reducible refine below_plus ?_ ?_ _ _) | (with_reducible refine Below.setCell ?_ ?_ _) | (with_reducible refine Below.setRow ?_ ?_ _) | go_size)))) (fun z h1 h2 => by have := HLW.out z h1 h2; simp; omega) (by rw [HPL.out]; omega) (by simp; try omega) ?_; intro a5 ca5 w5 hg5 hgr; rw [HPL.out, HPS.out] at hg5; rw [HPL.out]; have HG5 := Lib.hid hg5; have HB5 := Lib.hid (Below.grown (Below.refl _ _) hgr (by simp; try omega) (fun r hr => (gown_block (HO.out).row r hr).1)); clear hg5 hgr))
  have hb5 := HB5.out.mono (show w.heap.size + 2 ≤ _ by simp; try omega)
  have q0 : w5.cell? ⟨w.heap.size, 0, none⟩ = some (.slice a n ca) := (World.cell?_of_block (hb5.block w.heap.size (by omega))).trans (by simp [go_sem])
  have q1 : w5.cell? ⟨w.heap.size + 1, 0, none⟩ = some (.int .i64 px) := (World.cell?_of_block (hb5.block (w.heap.size + 1) (by omega))).trans (by simp [go_sem])
  have q2 : w5.cell? ⟨w.heap.size + 1, 1, none⟩ = some (.int .i64 py) := (World.cell?_of_block (hb5.block (w.heap.size + 1) (by omega))).trans (by simp [go_sem])
  have hw5 : Below w.heap.size w w5 := Below.trans (show Below w.heap.size w _ by ((try simp only [← Array.append_assoc]); repeat' (first | (with_reducible exact Below.refl _ _) | (with_reducible assumption) | (with_reducible refine Below.alloc ?_ ?_ _) | (with_reducible refine Below.drew ?_) | (with_reducible refine below_drewN ?_ _) | (with_reducible exact below_d _ _ _ _ _) | (with_reducible refine below_snoc _ _ ?_ ?_) | (with_reducible refine below_plus ?_ ?_ _ _) | (with_reducible refine Below.setCell ?_ ?_ _) | (with_reducible refine Below.setRow ?_ ?_ _) | go_size))) (hb5.mono (by omega))
  have l5 : w.heap.size + 1 < w5.heap.size := World.block_lt_of_cell? _ _ q1
  obtain ⟨W, hW⟩ : ∃ W, w5.alloc (.cells #[.slice a5 (n + 1) ca5] 25) = W := ⟨_, rfl⟩
  have hbW : Below w5.heap.size w5 W := by rw [← hW]; exact (Below.refl _ w5).alloc (Nat.le_refl _) _
  have r0 := (World.cell?_of_block (a := ⟨w.heap.size, 0, none⟩) (hbW.block w.heap.size (by omega))).trans q0
  have r1 := (World.cell?_of_block (hbW.block _ l5)).trans q1
  have r2 := (World.cell?_of_block (hbW.block _ l5)).trans q2
  have r3 : W.cell? ⟨w5.heap.size, 0, none⟩ = some (.slice a5 (n + 1) ca5) := by rw [← hW]; simp [go_sem]
  have m0 : w.heap.size < W.heap.size := World.block_lt_of_cell? _ _ r0
  have m1 : w.heap.size + 1 < W.heap.size := World.block_lt_of_cell? _ _ r1
  have m3 : w5.heap.size < W.heap.size := World.block_lt_of_cell? _ _ r3
  have hwW : Below w.heap.size w W := hw5.trans (hbW.mono hw5.size)
  have kR := HR.out.below hwW
  have kL := HP.out.below hwW
  have kG := HG5.out.below hbW
  have HJW := Lib.hid hwW
  have HA1 := Lib.hid (fun (J : Array Obj) (d : Nat) => HI1.out (W.plus J d) (kR.below (Junk.below ⟨J, d, rfl⟩)))
  have HA2 := Lib.hid (fun (J : Array Obj) (d : Nat) => HI2.out (W.plus J d) a5 ca5 (kG.below (Junk.below ⟨J, d, rfl⟩)))
  have HA3 := Lib.hid (fun (J : Array Obj) (d : Nat) => HI3.out (W.plus J d) (kL.below (Junk.below ⟨J, d, rfl⟩)))
  rw [hW]
  clear hW hb5 hw5 hbW q0 q1 q2 l5 kR kL kG hwW HI1 HI2 HI3 HO HPS HPL HG5 HB5
  refine region_quiet_all (C := Cls W) (by kernel_rfl) (by kernel_rfl) (cls_drawn _) ?_
  repeat (first | (refine qw_skip (by rfl) ?_; simp only [Act.put, List.setIfInBounds_toArray, List.set_cons_succ, List.set_cons_zero]) | (refine qw_want (by rfl) (fun K hK => ?_); go_simp; first | (refine hK _ ?_; clear hK K) | (apply Exists.intro; refine ⟨?_, hK _ ?_⟩; (rintro w3_ ⟨J3_, d3_, rfl⟩; first | (with_reducible exact rfl) | (go_simp; with_reducible exact rfl) | (go_simp; (first | (with_reducible refine (HAw.out _).mono ?_) | (with_reducible refine (HA1.out _ _).mono ?_) | (with_reducible refine (HA2.out _ _).mono ?_) | (with_reducible refine (HA3.out _ _).mono ?_)); rintro e_ w_ ⟨rfl, J4_, d4_, rfl⟩; exact ⟨rfl, J3_ ++ J4_, d4_, by simp only [plus_plus, Array.append_assoc]⟩)); clear hK K)))
  refine qw_nil ?_
  rintro w6 ⟨J8, d8, rfl⟩
  go_wp2_with fail
  go_ret
  exact ⟨by cases q1 <;> cases q3 <;> rfl, junk_of_below (HJW.out.trans ((Junk.below ⟨_, _, rfl⟩).mono HJW.out.size))⟩
theorem l_regionHoles (w : World) (a : Option Addr) (n ca : Nat) (R : List (List Pt)) (hR : GRC w a n ca R) (hs : n ≤ 4611686018427387903) (hl : ∀ K ∈ R, K.length ≤ 8796093022208) (b : Option Addr) (m cb : Nat) (L : List Pt) (hL : PRC w b m cb L) (_ : m ≤ 9223372036854775807) (_ : b = none → m = 0 ∧ cb = 0) (px py : Int) :
    Calls Try.prog 4 #[.agg #[.slice a n ca], .slice b m cb, pt px py] w fun e w' => e = .returned (.bool true) ∧ Junk w w' := by
  by_cases h : (10 < n ∨ 100 < allN R) ∨ 100 < m
  · exact rholes_big px py w a b n ca m cb R hR hs hl h
  · exact rholes_in px py w a b n ca m cb R L hR hL (by omega) (by omega) (by omega)
end Go.Proofs.Ytfkhefiilmdhmaa

/- The law RegionSames: the walk. -/
import Derived.Test.YtfkhefiilmdhmaaGreatReTwo
import Derived.Test.YtfkhefiilmdhmaaGreatReThree
namespace Go.Proofs.YtfkhefiilmdhmaaGreat
set_option linter.unusedVariables false
set_option linter.unusedSimpArgs false
open Go.RowKit

/-- A region of the call's own, whatever comes behind. -/
def GFree (w : World) (v : Value) (R : List (List Pt)) : Prop := ∃ ps, GOwn w 0 v ps ∧ ps.map (·.2) = R
theorem k_OwnFree (w : World) (a : Option Addr) (n ca : Nat) (R : List (List Pt)) (hR : GRC w a n ca R) (hs : n ≤ 1000) (hl : ∀ K ∈ R, K.length ≤ 100000) :
    Calls Tryz.prog 7 #[.agg #[.slice a n ca]] w fun e w' => (∃ x c, e = .returned (.agg #[.slice x n c]) ∧ GFree w' (.slice x n c) R) ∧ Junk w w' := by
  have HC := Lib.hid (fun w' h => k_CopyRings w' a n ca R h hs hl)
  have HR := Lib.hid hR
  have L1 := Lib.hid hR.len
  clear hR
  go_enter Tryz.func7, Tryz.ntmps7
  go_wp2_with (go_at_call 23; refine (HC.out _ (HR.out.below (by (repeat' (first | (with_reducible exact Below.refl _ _) | (with_reducible assumption) | (with_reducible refine Below.alloc ?_ ?_ _) | (with_reducible refine Below.drew ?_) | (with_reducible refine below_drewN ?_ _) | (with_reducible refine below_plus ?_ ?_ _ _) | (with_reducible refine Below.setCell ?_ ?_ _) | (with_reducible refine Below.setRow ?_ ?_ _) | go_size))))).mono ?_; rintro e w1 ⟨⟨v, rfl, ps, hv, hps⟩, J1, d1, rfl⟩; obtain ⟨x, c, rfl, _⟩ := hv.grc; have HG := Lib.hid hv; have HPS := Lib.hid hps; clear hv hps)
  have hpl : ps.length = n := by have := congrArg List.length HPS.out; rw [List.length_map, L1.out] at this; exact this
  rw [hpl] at HG
  refine bodyPost_ret (results_reg rfl _ _ (w.heap.size + 1) #[.slice x n c] rfl (by simp [go_sem, hpl]) rfl) rfl ⟨⟨_, _, rfl, ps, ?_, HPS.out⟩, junk_of_below (by (repeat' (first | (with_reducible exact Below.refl _ _) | (with_reducible assumption) | (with_reducible refine Below.alloc ?_ ?_ _) | (with_reducible refine Below.drew ?_) | (with_reducible refine below_drewN ?_ _) | (with_reducible refine below_plus ?_ ?_ _ _) | (with_reducible refine Below.setCell ?_ ?_ _) | (with_reducible refine Below.setRow ?_ ?_ _) | go_size)))⟩
  have h2 : GOwn ((((w.alloc (.cells #[.slice a n ca] 24)).alloc (.cells #[.slice none 0 0] 24)).plus J1 d1).setCell ⟨w.heap.size + 1, 0, none⟩ (.slice x n c)) _ _ ps := HG.out.set (by simp) _
  rw [hpl]
  simpa [go_sem] using h2.base (Nat.zero_le _)
section
variable {base : Nat} {t : TypeId} {A B : World}
theorem gk_refl (base : Nat) (t : TypeId) (A : World) : GKeeps base t A A := fun _ _ _ h => h
theorem gk_drew_l (h : GKeeps base t A B) : GKeeps base t A.drew B := h
theorem gk_alloc_r (h : GKeeps base t A B) (o : Obj) : GKeeps base t A (B.alloc o) := fun g c hb hc => by
  have := h g c hb hc
  rw [← this]
  exact (((Below.refl _ B).alloc (Nat.le_refl _) o).block g (heap_lt this))
theorem gk_plus_r (h : GKeeps base t A B) (J : Array Obj) (d : Nat) : GKeeps base t A (B.plus J d) := fun g c hb hc => by
  have := h g c hb hc
  rw [heap_plus _ _ _ _ (heap_lt this)]; exact this
theorem gk_alloc {c1 c2 : Array Value} {T : TypeId} {f1 f2 : Nat × Nat} (hT : T ≠ t) (h : GKeeps base t A B) (hs : A.heap.size = B.heap.size) : GKeeps base t (A.alloc (.cells c1 T f1)) (B.alloc (.cells c2 T f2)) := fun g c hb hc => by
  by_cases hg : g < A.heap.size
  · have h1 : (A.alloc (.cells c1 T f1)).heap[g]? = A.heap[g]? := ((Below.refl _ A).alloc (Nat.le_refl _) _).block g hg
    rw [h1] at hc
    exact gk_alloc_r h _ g c hb hc
  · have hlt := heap_lt hc
    have : g = A.heap.size := by simp at hlt; omega
    subst this
    rw [World.alloc_heap_new] at hc
    injection hc with hc
    injection hc with _ hc _
    exact absurd hc hT
theorem gk_plus_app {J K : Array Obj} {d e : Nat} (h : GKeeps base t A B) (hs : A.heap.size = B.heap.size) : GKeeps base t (A.plus J d) (B.plus (J ++ K) e) := fun g c hb hc => by
  by_cases hg : g < A.heap.size
  · rw [heap_plus _ _ _ _ hg] at hc
    exact gk_plus_r h _ _ g c hb hc
  · have hlt := heap_lt hc
    rw [size_plus] at hlt
    have h1 : (A.heap ++ J)[g]? = some (.cells c t (0, 0)) := hc
    rw [Array.getElem?_append_right (by omega)] at h1
    show (B.heap ++ (J ++ K))[g]? = _
    rw [Array.getElem?_append_right (by omega), ← hs, Array.getElem?_append_left (by omega)]
    exact h1
theorem gk_plus {J : Array Obj} {d e : Nat} (h : GKeeps base t A B) (hs : A.heap.size = B.heap.size) : GKeeps base t (A.plus J d) (B.plus J e) := by
  have := gk_plus_app (J := J) (K := #[]) (d := d) (e := e) h hs
  rwa [Array.append_empty] at this
end
theorem gfree_grc {w1 w2 : World} {x : Option Addr} {n c : Nat} {R : List (List Pt)} (hl : R.length = n) (h : GFree w1 (.slice x n c) R) (h1 : GKeeps 0 42 w1 w2) (h2 : GKeeps 0 26 w1 w2) : GRC w2 x n c R := by
  obtain ⟨ps, hg, rfl⟩ := h
  have hg2 : GOwn w2 0 (.slice x n c) ps := ⟨gown_keeps hg.row h1, fun p hp => gown_keeps (hg.each p hp) h2⟩
  obtain ⟨x', c', e, hh⟩ := hg2.grc
  rw [List.length_map] at hl
  rw [hl] at e hh
  cases e
  exact hh
def OwAt (W : World) (n m : Nat) (A B : List (List Pt)) (s t : Value) (wx : World) : Prop :=
  ∃ P Q V x c y f, s = .pointer (some ⟨P, 0, none⟩) ∧ t = .pointer (some ⟨Q, 0, none⟩) ∧ V = wx ∧ V.cell? ⟨P, 0, none⟩ = some (.slice x n c) ∧ V.cell? ⟨Q, 0, none⟩ = some (.slice y m f) ∧ GRC V x n c A ∧ GRC V y m f B ∧ Below W.heap.size W V
set_option maxRecDepth 100000 in
set_option maxHeartbeats 8000000 in
theorem rsames_in (w : World) (a b : Option Addr) (n m ca cb : Nat) (A B : List (List Pt)) (hA : GRC w a n ca A) (hB : GRC w b m cb B) (h1 : n ≤ 30) (h2 : allN A ≤ 450) (h3 : m ≤ 30) (h4 : allN B ≤ 450) :
    Calls Tryz.prog 4 #[.agg #[.slice a n ca], .agg #[.slice b m cb]] w fun e w' => e = .returned (.bool true) ∧ Junk w w' := by
  have la := fun K hK => Nat.le_trans (ring_le (R := A) (K := K) hK) h2
  have lb := fun K hK => Nat.le_trans (ring_le (R := B) (K := K) hK) h4
  have HAw := Lib.hid l_reAwake
  have HA := Lib.hid hA
  have L1 := Lib.hid hA.len
  have L2 := Lib.hid hB.len
  have HB := Lib.hid hB
  have HL1 := Lib.hid (fun w' h => l_reBig w' a n ca A h (by omega) (fun K hK => by have := la K hK; omega))
  have HL2 := Lib.hid (fun w' h => l_reBig w' b m cb B h (by omega) (fun K hK => by have := lb K hK; omega))
  rw [show (decide (30 < n) || decide (450 < allN A)) = false by rw [decide_eq_false (by omega), decide_eq_false (by omega)]; rfl] at HL1
  rw [show (decide (30 < m) || decide (450 < allN B)) = false by rw [decide_eq_false (by omega), decide_eq_false (by omega)]; rfl] at HL2
  have HO1 := Lib.hid (fun w' h => k_OwnFree w' a n ca A h (by omega) (fun K hK => by have := la K hK; omega))
  have HO2 := Lib.hid (fun w' h => k_OwnFree w' b m cb B h (by omega) (fun K hK => by have := lb K hK; omega))
  clear hA hB
  go_enter Tryz.func4, Tryz.ntmps4
  go_upto_region 3 with (first
    | (go_at_call 6; (with_reducible refine (HL1.out _ ?_).mono ?_); (exact HA.out.below (by ((try simp only [← Array.append_assoc]); repeat' (first | (with_reducible exact Below.refl _ _) | (with_reducible assumption) | (with_reducible refine Below.alloc ?_ ?_ _) | (with_reducible refine Below.drew ?_) | (with_reducible refine below_drewN ?_ _) | (with_reducible exact below_d _ _ _ _ _) | (with_reducible refine below_snoc _ _ ?_ ?_) | (with_reducible refine below_plus ?_ ?_ _ _) | (with_reducible refine Below.setCell ?_ ?_ _) | (with_reducible refine Below.setRow ?_ ?_ _) | go_size)))); rintro e w1 ⟨rfl, J1, d1, rfl⟩)
    | (go_at_call 6; (with_reducible refine (HL2.out _ ?_).mono ?_); (exact HB.out.below (by ((try simp only [← Array.append_assoc]); repeat' (first | (with_reducible exact Below.refl _ _) | (with_reducible assumption) | (with_reducible refine Below.alloc ?_ ?_ _) | (with_reducible refine Below.drew ?_) | (with_reducible refine below_drewN ?_ _) | (with_reducible exact below_d _ _ _ _ _) | (with_reducible refine below_snoc _ _ ?_ ?_) | (with_reducible refine below_plus ?_ ?_ _ _) | (with_reducible refine Below.setCell ?_ ?_ _) | (with_reducible refine Below.setRow ?_ ?_ _) | go_size)))); rintro e w1 ⟨rfl, J2, d2, rfl⟩))
  obtain ⟨W, hW⟩ : ∃ W, ((w.alloc (.cells #[.slice a n ca] 24)).alloc (.cells #[.slice b m cb] 24)).plus (J1 ++ J2) d2 = W := ⟨_, rfl⟩
  have c0 : W.cell? ⟨w.heap.size, 0, none⟩ = some (.slice a n ca) := by rw [← hW]; simp [go_sem]
  have c1 : W.cell? ⟨w.heap.size + 1, 0, none⟩ = some (.slice b m cb) := by rw [← hW]; simp [go_sem]
  have hj : Below w.heap.size w W := by rw [← hW]; ((try simp only [← Array.append_assoc]); repeat' (first | (with_reducible exact Below.refl _ _) | (with_reducible assumption) | (with_reducible refine Below.alloc ?_ ?_ _) | (with_reducible refine Below.drew ?_) | (with_reducible refine below_drewN ?_ _) | (with_reducible exact below_d _ _ _ _ _) | (with_reducible refine below_snoc _ _ ?_ ?_) | (with_reducible refine below_plus ?_ ?_ _ _) | (with_reducible refine Below.setCell ?_ ?_ _) | (with_reducible refine Below.setRow ?_ ?_ _) | go_size))
  have l0 : w.heap.size < W.heap.size := World.block_lt_of_cell? _ _ c0
  have l1 : w.heap.size + 1 < W.heap.size := World.block_lt_of_cell? _ _ c1
  have HAW := Lib.hid (HA.out.below hj)
  have HBW := Lib.hid (HB.out.below hj)
  have HJ := Lib.hid hj
  rw [hW]
  clear hW hj HL1 HL2
  go_cut [5, 6] from 13 to 16 (fun s t wx => OwAt W n m A B s t wx)
  case first =>
    clear HAw la lb HA HB HJ
    go_region_held3 (fun w' => w'.cell? ⟨w.heap.size, 0, none⟩ = some (.slice a n ca) ∧ w'.cell? ⟨w.heap.size + 1, 0, none⟩ = some (.slice b m cb)) (first | (refine ⟨?_, ?_⟩ <;> (simp [go_sem, *]; done))) (first
      | (go_simp; go_at_call 7; (with_reducible refine (HO1.out _ ?_).mono ?_); (exact HAW.out.below (by ((try simp only [← Array.append_assoc]); repeat' (first | (with_reducible exact Below.refl _ _) | (with_reducible assumption) | (with_reducible refine Below.alloc ?_ ?_ _) | (with_reducible refine Below.drew ?_) | (with_reducible refine below_drewN ?_ _) | (with_reducible exact below_d _ _ _ _ _) | (with_reducible refine below_snoc _ _ ?_ ?_) | (with_reducible refine below_plus ?_ ?_ _ _) | (with_reducible refine Below.setCell ?_ ?_ _) | (with_reducible refine Below.setRow ?_ ?_ _) | go_size)))); rintro e w1 ⟨⟨x1, f1, rfl, hg⟩, J5, d5, rfl⟩; have GA := Lib.hid hg; clear hg; go_simp)
      | (go_simp; go_at_call 7; (with_reducible refine (HO2.out _ ?_).mono ?_); (exact HBW.out.below (by ((try simp only [← Array.append_assoc]); repeat' (first | (with_reducible exact Below.refl _ _) | (with_reducible assumption) | (with_reducible refine Below.alloc ?_ ?_ _) | (with_reducible refine Below.drew ?_) | (with_reducible refine below_drewN ?_ _) | (with_reducible exact below_d _ _ _ _ _) | (with_reducible refine below_snoc _ _ ?_ ?_) | (with_reducible refine below_plus ?_ ?_ _ _) | (with_reducible refine Below.setCell ?_ ?_ _) | (with_reducible refine Below.setRow ?_ ?_ _) | go_size)))); rintro e w1 ⟨⟨x2, f2, rfl, hg⟩, J6, d6, rfl⟩; have GB := Lib.hid hg; clear hg; go_simp))
    all_goals go_wp2_with fail
    all_goals go_meet
    all_goals clear HO1 HO2 HAW HBW
    all_goals exact ⟨_, _, _, _, _, _, _, rfl, rfl, rfl, by simp [go_sem], by simp [go_sem], gfree_grc L1.out GA.out (by ((try simp only [plus_plus, Array.append_assoc]); repeat' (first | (with_reducible exact gk_refl _ _ _) | (with_reducible refine gk_plus ?_ (by first | rfl | (simp; done) | (simp; omega))) | (with_reducible refine gk_plus_app ?_ (by first | rfl | (simp; done) | (simp; omega))) | (with_reducible refine gk_drew_l ?_) | (with_reducible refine gk_alloc (by decide) ?_ (by first | rfl | (simp; done) | (simp; omega))) | (with_reducible refine gk_plus_r ?_ _ _) | (with_reducible refine gk_alloc_r ?_ _)))) (by ((try simp only [plus_plus, Array.append_assoc]); repeat' (first | (with_reducible exact gk_refl _ _ _) | (with_reducible refine gk_plus ?_ (by first | rfl | (simp; done) | (simp; omega))) | (with_reducible refine gk_plus_app ?_ (by first | rfl | (simp; done) | (simp; omega))) | (with_reducible refine gk_drew_l ?_) | (with_reducible refine gk_alloc (by decide) ?_ (by first | rfl | (simp; done) | (simp; omega))) | (with_reducible refine gk_plus_r ?_ _ _) | (with_reducible refine gk_alloc_r ?_ _)))), gfree_grc L2.out GB.out (by ((try simp only [plus_plus, Array.append_assoc]); repeat' (first | (with_reducible exact gk_refl _ _ _) | (with_reducible refine gk_plus ?_ (by first | rfl | (simp; done) | (simp; omega))) | (with_reducible refine gk_plus_app ?_ (by first | rfl | (simp; done) | (simp; omega))) | (with_reducible refine gk_drew_l ?_) | (with_reducible refine gk_alloc (by decide) ?_ (by first | rfl | (simp; done) | (simp; omega))) | (with_reducible refine gk_plus_r ?_ _ _) | (with_reducible refine gk_alloc_r ?_ _)))) (by ((try simp only [plus_plus, Array.append_assoc]); repeat' (first | (with_reducible exact gk_refl _ _ _) | (with_reducible refine gk_plus ?_ (by first | rfl | (simp; done) | (simp; omega))) | (with_reducible refine gk_plus_app ?_ (by first | rfl | (simp; done) | (simp; omega))) | (with_reducible refine gk_drew_l ?_) | (with_reducible refine gk_alloc (by decide) ?_ (by first | rfl | (simp; done) | (simp; omega))) | (with_reducible refine gk_plus_r ?_ _ _) | (with_reducible refine gk_alloc_r ?_ _)))), by ((try simp only [← Array.append_assoc]); repeat' (first | (with_reducible exact Below.refl _ _) | (with_reducible assumption) | (with_reducible refine Below.alloc ?_ ?_ _) | (with_reducible refine Below.drew ?_) | (with_reducible refine below_drewN ?_ _) | (with_reducible exact below_d _ _ _ _ _) | (with_reducible refine below_snoc _ _ ?_ ?_) | (with_reducible refine below_plus ?_ ?_ _ _) | (with_reducible refine Below.setCell ?_ ?_ _) | (with_reducible refine Below.setRow ?_ ?_ _) | go_size))⟩
  case rest =>
  obtain ⟨P, Q, V, x, c, y, f, rfl, rfl, rfl, p0, q0, gx, gy, hV⟩ := hcut
  have v0 := (World.cell?_of_block (hV.block _ l0)).trans c0
  have v1 := (World.cell?_of_block (hV.block _ l1)).trans c1
  have HJV := Lib.hid (HJ.out.trans (hV.mono HJ.out.size))
  have ga := HAW.out.below hV
  have gb := HBW.out.below hV
  have n0 := World.block_lt_of_cell? _ _ v0
  have n1 := World.block_lt_of_cell? _ _ v1
  have n2 := World.block_lt_of_cell? _ _ p0
  have n3 := World.block_lt_of_cell? _ _ q0
  have fa : A.flatten.length ≤ 100000 := by rw [List.length_flatten]; unfold allN at h2; omega
  have fb : B.flatten.length ≤ 100000 := by rw [List.length_flatten]; unfold allN at h4; omega
  obtain ⟨r, hr⟩ : ∃ r, sameG A B = r := ⟨_, rfl⟩
  have HS1 := Lib.hid (fun (J : Array Obj) (d : Nat) => show Calls Tryz.prog 16 #[.agg #[.slice x n c], .agg #[.slice y m f]] (V.plus J d) fun e w'' => e = .returned (.bool r) ∧ Junk (V.plus J d) w'' by
    rw [← hr]
    exact c_reSame (V.plus J d) x y n m c f A B (gx.below (Junk.below ⟨J, d, rfl⟩)) (gy.below (Junk.below ⟨J, d, rfl⟩)) (by omega) (by omega) fa fb)
  have HS2 := Lib.hid (fun (J : Array Obj) (d : Nat) => show Calls Tryz.prog 17 #[.agg #[.slice a n ca], .agg #[.slice b m cb]] (V.plus J d) fun e w'' => e = .returned (.bool r) ∧ Junk (V.plus J d) w'' by
    rw [← hr]
    exact r_reSame (V.plus J d) a b n m ca cb A B (ga.below (Junk.below ⟨J, d, rfl⟩)) (gb.below (Junk.below ⟨J, d, rfl⟩)) (by omega) (by omega) (fun K hK => by have := la K hK; omega) (fun K hK => by have := lb K hK; omega))
  have HE1 := Lib.hid (fun (J : Array Obj) (d : Nat) => k_EqualRegion (V.plus J d) x a n c ca A (gx.below (Junk.below ⟨J, d, rfl⟩)) (ga.below (Junk.below ⟨J, d, rfl⟩)) (by omega) (fun K hK => by have := la K hK; omega))
  have HE2 := Lib.hid (fun (J : Array Obj) (d : Nat) => k_EqualRegion (V.plus J d) y b m f cb B (gy.below (Junk.below ⟨J, d, rfl⟩)) (gb.below (Junk.below ⟨J, d, rfl⟩)) (by omega) (fun K hK => by have := lb K hK; omega))
  have m0 := HJV.out.size
  clear hV ga gb gx gy HA HB HAW HBW HO1 HO2 c0 c1 l0 l1 HJ hr la lb fa fb
  go_upto_region 4 with fail
  refine region_quiet_all (C := Cls V) (by kernel_rfl) (by kernel_rfl) (cls_drawn _) ?_
  repeat (first | (refine qw_skip (by rfl) ?_; simp only [Act.put, List.setIfInBounds_toArray, List.set_cons_succ, List.set_cons_zero]) | (refine qw_want (by rfl) (fun K hK => ?_); go_simp; first | (refine hK _ ?_; clear hK K) | (apply Exists.intro; refine ⟨?_, hK _ ?_⟩; (rintro w3_ ⟨J3_, d3_, rfl⟩; first | (with_reducible exact rfl) | (go_simp; with_reducible exact rfl) | (go_simp; (first | (with_reducible refine (HAw.out _).mono ?_) | (with_reducible refine (HS1.out _ _).mono ?_) | (with_reducible refine (HS2.out _ _).mono ?_) | (with_reducible refine (HE1.out _ _).mono ?_) | (with_reducible refine (HE2.out _ _).mono ?_)); rintro e_ w_ ⟨rfl, J4_, d4_, rfl⟩; exact ⟨rfl, J3_ ++ J4_, d4_, by simp only [plus_plus, Array.append_assoc]⟩)); clear hK K)))
  refine qw_nil ?_
  rintro w6 ⟨J8, d8, rfl⟩
  go_wp2_with fail
  go_ret
  exact ⟨rfl, junk_of_below (HJV.out.trans ((Junk.below ⟨_, _, rfl⟩).mono m0))⟩
set_option maxRecDepth 100000 in
theorem rsames_big1 (w : World) (a b : Option Addr) (n m ca cb : Nat) (A B : List (List Pt)) (hA : GRC w a n ca A) (hs : n ≤ 4611686018427387903) (hl : ∀ K ∈ A, K.length ≤ 8796093022208) (h : 30 < n ∨ 450 < allN A) :
    Calls Tryz.prog 4 #[.agg #[.slice a n ca], .agg #[.slice b m cb]] w fun e w' => e = .returned (.bool true) ∧ Junk w w' := by
  have HR := Lib.hid hA
  have HL := Lib.hid (fun w' h => l_reBig w' a n ca A h hs hl)
  have hb : (decide (30 < n) || decide (450 < allN A)) = true := by simpa using h
  rw [hb] at HL
  clear hA hb h
  go_enter Tryz.func4, Tryz.ntmps4
  go_wp2_with (go_at_call 6; refine (HL.out _ (HR.out.below (by (repeat' (first | (with_reducible exact Below.refl _ _) | (with_reducible assumption) | (with_reducible refine Below.alloc ?_ ?_ _) | (with_reducible refine Below.drew ?_) | (with_reducible refine below_drewN ?_ _) | (with_reducible refine below_plus ?_ ?_ _ _) | (with_reducible refine Below.setCell ?_ ?_ _) | (with_reducible refine Below.setRow ?_ ?_ _) | go_size))))).mono ?_; rintro e w1 ⟨rfl, J2, d2, rfl⟩)
  go_ret
  exact ⟨rfl, junk_of_below (by (repeat' (first | (with_reducible exact Below.refl _ _) | (with_reducible assumption) | (with_reducible refine Below.alloc ?_ ?_ _) | (with_reducible refine Below.drew ?_) | (with_reducible refine below_drewN ?_ _) | (with_reducible refine below_plus ?_ ?_ _ _) | (with_reducible refine Below.setCell ?_ ?_ _) | (with_reducible refine Below.setRow ?_ ?_ _) | go_size)))⟩
set_option maxRecDepth 100000 in
theorem rsames_big2 (w : World) (a b : Option Addr) (n m ca cb : Nat) (A B : List (List Pt)) (hA : GRC w a n ca A) (hB : GRC w b m cb B) (hs : n ≤ 4611686018427387903) (hl : ∀ K ∈ A, K.length ≤ 8796093022208) (hs2 : m ≤ 4611686018427387903) (hl2 : ∀ K ∈ B, K.length ≤ 8796093022208) (h0 : ¬ (30 < n ∨ 450 < allN A)) (h : 30 < m ∨ 450 < allN B) :
    Calls Tryz.prog 4 #[.agg #[.slice a n ca], .agg #[.slice b m cb]] w fun e w' => e = .returned (.bool true) ∧ Junk w w' := by
  have HA := Lib.hid hA
  have HB := Lib.hid hB
  have HL1 := Lib.hid (fun w' h => l_reBig w' a n ca A h hs hl)
  have HL2 := Lib.hid (fun w' h => l_reBig w' b m cb B h hs2 hl2)
  rw [show (decide (30 < n) || decide (450 < allN A)) = false by rw [decide_eq_false (by omega), decide_eq_false (by omega)]; rfl] at HL1
  rw [show (decide (30 < m) || decide (450 < allN B)) = true by simpa using h] at HL2
  clear hA hB h h0
  go_enter Tryz.func4, Tryz.ntmps4
  go_wp2_with (first
    | (go_at_call 6; (with_reducible refine (HL1.out _ ?_).mono ?_); (exact HA.out.below (by ((try simp only [← Array.append_assoc]); repeat' (first | (with_reducible exact Below.refl _ _) | (with_reducible assumption) | (with_reducible refine Below.alloc ?_ ?_ _) | (with_reducible refine Below.drew ?_) | (with_reducible refine below_drewN ?_ _) | (with_reducible exact below_d _ _ _ _ _) | (with_reducible refine below_snoc _ _ ?_ ?_) | (with_reducible refine below_plus ?_ ?_ _ _) | (with_reducible refine Below.setCell ?_ ?_ _) | (with_reducible refine Below.setRow ?_ ?_ _) | go_size)))); rintro e w1 ⟨rfl, J1, d1, rfl⟩)
    | (go_at_call 6; (with_reducible refine (HL2.out _ ?_).mono ?_); (exact HB.out.below (by ((try simp only [← Array.append_assoc]); repeat' (first | (with_reducible exact Below.refl _ _) | (with_reducible assumption) | (with_reducible refine Below.alloc ?_ ?_ _) | (with_reducible refine Below.drew ?_) | (with_reducible refine below_drewN ?_ _) | (with_reducible exact below_d _ _ _ _ _) | (with_reducible refine below_snoc _ _ ?_ ?_) | (with_reducible refine below_plus ?_ ?_ _ _) | (with_reducible refine Below.setCell ?_ ?_ _) | (with_reducible refine Below.setRow ?_ ?_ _) | go_size)))); rintro e w1 ⟨rfl, J2, d2, rfl⟩))
  go_ret
  exact ⟨rfl, junk_of_below (by (repeat' (first | (with_reducible exact Below.refl _ _) | (with_reducible assumption) | (with_reducible refine Below.alloc ?_ ?_ _) | (with_reducible refine Below.drew ?_) | (with_reducible refine below_drewN ?_ _) | (with_reducible refine below_plus ?_ ?_ _ _) | (with_reducible refine Below.setCell ?_ ?_ _) | (with_reducible refine Below.setRow ?_ ?_ _) | go_size)))⟩
theorem l_regionSames (w : World) (a : Option Addr) (n ca : Nat) (A : List (List Pt)) (hA : GRC w a n ca A) (hs : n ≤ 4611686018427387903) (hl : ∀ K ∈ A, K.length ≤ 8796093022208) (b : Option Addr) (m cb : Nat) (B : List (List Pt)) (hB : GRC w b m cb B) (hs2 : m ≤ 4611686018427387903) (hl2 : ∀ K ∈ B, K.length ≤ 8796093022208) :
    Calls Tryz.prog 4 #[.agg #[.slice a n ca], .agg #[.slice b m cb]] w fun e w' => e = .returned (.bool true) ∧ Junk w w' := by
  by_cases h : 30 < n ∨ 450 < allN A
  · exact rsames_big1 w a b n m ca cb A B hA hs hl h
  by_cases h2 : 30 < m ∨ 450 < allN B
  · exact rsames_big2 w a b n m ca cb A B hA hB hs hl hs2 hl2 h h2
  exact rsames_in w a b n m ca cb A B hA hB (by omega) (by omega) (by omega) (by omega)
end Go.Proofs.YtfkhefiilmdhmaaGreat

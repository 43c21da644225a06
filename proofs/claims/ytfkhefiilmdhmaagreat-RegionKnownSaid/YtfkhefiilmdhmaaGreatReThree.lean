/- region: compare; slices.CompareFunc over points; slices.SortFunc over rings; normal; slices.EqualFunc; Same. slices.SortFunc over rings of the call's own, by region.compare. region: normal, Same; slices.EqualFunc over rings. apportionref11.Same: the first that is left and is the same, ring by ring. -/
import Derived.Test.YtfkhefiilmdhmaaGreatReTwo
import Derived.Test.YtfkhefiilmdhmaaGreatReOne
import Derived.Test.YtfkhefiilmdhmaaGreatRgLaw
import Derived.Test.YtfkhefiilmdhmaaGreatShelfC
import Derived.Laws.MakeOwn
namespace Go.Proofs.YtfkhefiilmdhmaaGreat
section
set_option linter.unusedVariables false
set_option linter.unusedSimpArgs false
open Go.RowKit

theorem cmpL_step {K M : List Pt} {k : Nat} (hk : k < K.length) (hm : k < M.length) : cmpL (K.drop k) (M.drop k) = if cmpC (K.getD k (0, 0)) (M.getD k (0, 0)) = 0 then cmpL (K.drop (k + 1)) (M.drop (k + 1)) else cmpC (K.getD k (0, 0)) (M.getD k (0, 0)) := by
  rw [List.drop_eq_getElem_cons hk, List.drop_eq_getElem_cons hm, List.getD_eq_getElem?_getD, List.getD_eq_getElem?_getD, List.getElem?_eq_getElem hk, List.getElem?_eq_getElem hm]
  rfl
theorem cmpL_right {K M : List Pt} {k : Nat} (hk : k < K.length) (hm : M.length ≤ k) : cmpL (K.drop k) (M.drop k) = 1 := by
  rw [List.drop_eq_getElem_cons hk, List.drop_of_length_le hm]
  rfl
theorem cmpL_left {K M : List Pt} {k : Nat} (hk : K.length ≤ k) : cmpL (K.drop k) (M.drop k) = if k < M.length then -1 else 0 := by
  rw [List.drop_of_length_le hk, cmpL_none, List.length_drop]
  by_cases h : k < M.length
  · rw [if_pos h, if_neg (by omega)]
  · rw [if_neg h, if_pos (by omega)]
/-- Blocks behind, and at least so many draws. -/
def ClsU (W : World) (b : Nat) (w' : World) : Prop := ∃ J d, b ≤ d ∧ w' = W.plus J d
/- point.Compare, and the count of draws does not go back. -/
set_option maxRecDepth 100000 in
set_option maxHeartbeats 1000000 in
theorem m_ptCompare (ax ay bx by_ : Int) (w : World) : Calls Tryz.prog 86 #[pt ax ay, pt bx by_] w fun e w' => e = .returned (.int .i64 (cmpF ax ay bx by_)) ∧ Junk w w' ∧ w.drawn ≤ w'.drawn := by
  rw [← cmpF_sgn]
  have H1 := Lib.hid (fun w' => w_cmp ay by_ w')
  have H2 := Lib.hid (fun w' => w_cmp ax bx w')
  generalize sgn (ay - by_) = p at *
  generalize sgn (ax - bx) = q at *
  obtain ⟨r, hr⟩ : ∃ r, (if p = 0 then q else p) = r := ⟨_, rfl⟩
  rw [hr]
  have HO := Lib.hid (show ∀ (b : Nat) (w' : World), w'.cell? ⟨b, 0, none⟩ = some (.int .i64 p) → w'.cell? ⟨b, 1, none⟩ = some (.int .i64 q) → Calls Tryz.prog 115 #[.slice (some ⟨b, 0, none⟩) 2 2] w' fun e w'' => e = .returned (.int .i64 r) ∧ w' = w'' from by
    intro b w' h0 h1
    rw [← hr]
    exact w_or2 p q b w' h0 h1)
  clear hr
  unfold pt
  go_enter Tryz.func86, Tryz.ntmps86
  go_upto_region 1 with fail
  refine region_quiet_tail (C := ClsU ((w.alloc (.cells #[.int .i64 ax, .int .i64 ay] 26)).alloc (.cells #[.int .i64 bx, .int .i64 by_] 26)) w.drawn) 10 (by kernel_rfl) (by kernel_rfl) ⟨#[], w.drawn + 1, Nat.le_succ _, (plus_nil _).symm⟩ ?_
  simp only [List.take_succ_cons, List.take_zero, List.drop_succ_cons, List.drop_zero]
  iterate 5 (refine wpQuiet_step (fun K hK => ?_); go_simp; first | (refine hK _ ?_; clear hK K) | (apply Exists.intro; refine ⟨?_, hK _ ?_⟩; (rintro w3_ ⟨J3_, d3_, hd3_, rfl⟩; first | (with_reducible exact rfl) | (go_simp; with_reducible exact rfl) | (go_simp; refine (H1.out _).mono ?_; rintro e_ w_ ⟨rfl, rfl⟩; exact ⟨rfl, _, _, hd3_, rfl⟩)); clear hK K))
  iterate 5 (refine wpQuiet_step (fun K hK => ?_); go_simp; first | (refine hK _ ?_; clear hK K) | (apply Exists.intro; refine ⟨?_, hK _ ?_⟩; (rintro w3_ ⟨J3_, d3_, hd3_, rfl⟩; first | (with_reducible exact rfl) | (go_simp; with_reducible exact rfl) | (go_simp; refine (H2.out _).mono ?_; rintro e_ w_ ⟨rfl, rfl⟩; exact ⟨rfl, _, _, hd3_, rfl⟩)); clear hK K))
  refine wpQuiet_nil ?_
  rintro w3 ⟨J3, d3, hd3, rfl⟩
  have HD := Lib.hid hd3
  clear hd3
  go_wp2_with fail
  refine (HO.out _ _ ?_ ?_).mono ?_
  · simp [go_sem]
  · simp [go_sem]
  rintro e w1 ⟨rfl, rfl⟩
  go_wp2
  go_ret
  exact ⟨rfl, junk_of_below (by (repeat' (first | (with_reducible exact Below.refl _ _) | (with_reducible assumption) | (with_reducible refine Below.alloc ?_ ?_ _) | (with_reducible refine Below.drew ?_) | (with_reducible refine below_drewN ?_ _) | (with_reducible refine below_plus ?_ ?_ _ _) | (with_reducible refine Below.setCell ?_ ?_ _) | (with_reducible refine Below.setRow ?_ ?_ _) | go_size))), HD.out⟩

/-- Between two rounds: what is left tells the order. -/
def CfAt (w : World) (K M : List Pt) (x : Value) (wr : World) : Prop := ∃ k : Nat, x = .int .i64 (k : Int) ∧ k ≤ K.length ∧ k ≤ M.length ∧ cmpL K M = cmpL (K.drop k) (M.drop k) ∧ Cls w wr ∧ w.drawn ≤ wr.drawn

set_option maxRecDepth 100000 in
set_option maxHeartbeats 2000000 in
theorem n_slCompare (w : World) (a b : Option Addr) (n m ca cb : Nat) (K M : List Pt) (hK : PReads w a n K) (hM : PReads w b m M) (hs : n ≤ 4611686018427387903) (hs2 : m ≤ 4611686018427387903) :
    Calls Tryz.prog 85 #[.slice a n ca, .slice b m cb, .func (.func 86) #[] #[]] w fun e w' => e = .returned (.int .i64 (cmpL K M)) ∧ Junk w w' ∧ w.drawn ≤ w'.drawn := by
  have L1 := Lib.hid hK.1
  have L2 := Lib.hid hM.1
  have H1 := Lib.hid hK.2
  have H2 := Lib.hid hM.2
  obtain ⟨R, hR⟩ : ∃ R, cmpL K M = R := ⟨_, rfl⟩
  rw [hR]
  have HR := Lib.hid hR
  clear hK hM hR
  go_enter Tryz.func85, Tryz.ntmps85
  go_wp2_with fail
  go_loopw [13] (fun x wr => CfAt w K M x wr) (fun x _ => n - (intOf x).toNat)
  case atStart => exact ⟨0, rfl, by omega, by omega, by rw [List.drop_zero, List.drop_zero], ⟨#[], _, (plus_nil _).symm⟩, Nat.le_refl _⟩
  case round =>
    obtain ⟨k, rfl, k1, k2, hk, ⟨J, d, rfl⟩, hd⟩ := hrel
    have HD := Lib.hid (show w.drawn ≤ d from hd)
    clear hd
    rw [L1.out] at k1
    rw [L2.out] at k2
    rw [HR.out] at hk
    by_cases hlt : k < n
    · rcases H1.out with h | ⟨b1, o1, rfl, hc1⟩
      · omega
      obtain ⟨p1, p2⟩ := hc1 k hlt
      obtain ⟨u, v, hx⟩ : ∃ u v : Int, K.getD k (0, 0) = (u, v) := ⟨_, _, rfl⟩
      rw [hx] at p1 p2
      simp only at p1 p2
      have hb1 : b1 < w.heap.size := World.block_lt_of_cell? _ _ p1
      have i1 : (k : Int) < (n : Int) := by omega
      by_cases hm : k < m
      · rcases H2.out with h | ⟨b2, o2, rfl, hc2⟩
        · omega
        obtain ⟨q1, q2⟩ := hc2 k hm
        obtain ⟨x, y, hy⟩ : ∃ u v : Int, M.getD k (0, 0) = (u, v) := ⟨_, _, rfl⟩
        rw [hy] at q1 q2
        simp only at q1 q2
        have hb2 : b2 < w.heap.size := World.block_lt_of_cell? _ _ q1
        have hst := cmpL_step (K := K) (M := M) (k := k) (by rw [L1.out]; exact hlt) (by rw [L2.out]; exact hm)
        rw [hx, hy, ← hk] at hst
        unfold cmpC at hst
        simp only at hst
        have HCM := Lib.hid (fun w' => m_ptCompare u v x y w')
        unfold pt at HCM
        generalize cmpF u v x y = r at *
        have HST := Lib.hid hst
        have i2 : ¬ (m : Int) ≤ (k : Int) := by omega
        have i3 : (k : Int) < (m : Int) := by omega
        have i4 : ¬ (k : Int) ≥ (m : Int) := by omega
        clear hc1 hc2 hx hy hst hk
        by_cases h5 : r = 0
        · have HE0 := Lib.hid (HST.out.trans (if_pos h5))
          subst h5
          clear HST
          go_wp2_with (go_at_call 86; refine (HCM.out _).mono ?_; rintro e w1 ⟨rfl, ⟨J3, d3, rfl⟩, hdr⟩; have HD3 := Lib.hid (Nat.le_trans HD.out (show d ≤ d3 from hdr)); clear hdr)
          go_roundw
          case rel => exact ⟨k + 1, by go_num, by rw [L1.out]; omega, by rw [L2.out]; omega, by rw [HR.out]; exact HE0.out, cls_of (junk_of_below (by (repeat' (first | (with_reducible exact Below.refl _ _) | (with_reducible assumption) | (with_reducible refine Below.alloc ?_ ?_ _) | (with_reducible refine Below.drew ?_) | (with_reducible refine below_drewN ?_ _) | (with_reducible refine below_plus ?_ ?_ _ _) | (with_reducible refine Below.setCell ?_ ?_ _) | (with_reducible refine Below.setRow ?_ ?_ _) | go_size)))), HD3.out⟩
          case measure => simp [intOf]; omega
        · have e5 : (r != 0) = true := by simpa using h5
          have HE := Lib.hid (HST.out.trans (if_neg h5))
          clear h5
          go_wp2_with (go_at_call 86; refine (HCM.out _).mono ?_; rintro e w1 ⟨rfl, ⟨J3, d3, rfl⟩, hdr⟩; have HD3 := Lib.hid (Nat.le_trans HD.out (show d ≤ d3 from hdr)); clear hdr)
          go_ret
          exact ⟨congrArg (fun z => Ending.returned (.int .i64 z)) HE.out.symm, junk_of_below (by (repeat' (first | (with_reducible exact Below.refl _ _) | (with_reducible assumption) | (with_reducible refine Below.alloc ?_ ?_ _) | (with_reducible refine Below.drew ?_) | (with_reducible refine below_drewN ?_ _) | (with_reducible refine below_plus ?_ ?_ _ _) | (with_reducible refine Below.setCell ?_ ?_ _) | (with_reducible refine Below.setRow ?_ ?_ _) | go_size))), HD3.out⟩
      · have HE := Lib.hid (show R = 1 by rw [hk]; exact cmpL_right (by rw [L1.out]; exact hlt) (by rw [L2.out]; omega))
        have i2 : (m : Int) ≤ (k : Int) := by omega
        have i4 : (k : Int) ≥ (m : Int) := by omega
        clear hc1 hx hk
        go_wp2_with fail
        go_ret
        exact ⟨congrArg (fun z => Ending.returned (.int .i64 z)) HE.out.symm, junk_of_below (by (repeat' (first | (with_reducible exact Below.refl _ _) | (with_reducible assumption) | (with_reducible refine Below.alloc ?_ ?_ _) | (with_reducible refine Below.drew ?_) | (with_reducible refine below_drewN ?_ _) | (with_reducible refine below_plus ?_ ?_ _ _) | (with_reducible refine Below.setCell ?_ ?_ _) | (with_reducible refine Below.setRow ?_ ?_ _) | go_size))), HD.out⟩
    · obtain rfl : k = n := by omega
      have hE := cmpL_left (K := K) (M := M) (k := k) (by rw [L1.out]; exact Nat.le_refl _)
      rw [L2.out, ← hk] at hE
      have i1 : ¬ (k : Int) < (k : Int) := by omega
      by_cases hm : k < m
      · have HE := Lib.hid (hE.trans (if_pos hm))
        have i3 : (k : Int) < (m : Int) := by omega
        clear hE hk
        go_wp2_with fail
        go_ret
        exact ⟨congrArg (fun z => Ending.returned (.int .i64 z)) HE.out.symm, junk_of_below (by (repeat' (first | (with_reducible exact Below.refl _ _) | (with_reducible assumption) | (with_reducible refine Below.alloc ?_ ?_ _) | (with_reducible refine Below.drew ?_) | (with_reducible refine below_drewN ?_ _) | (with_reducible refine below_plus ?_ ?_ _ _) | (with_reducible refine Below.setCell ?_ ?_ _) | (with_reducible refine Below.setRow ?_ ?_ _) | go_size))), HD.out⟩
      · have HE := Lib.hid (hE.trans (if_neg hm))
        have i3 : ¬ (k : Int) < (m : Int) := by omega
        clear hE hk
        go_wp2_with fail
        go_ret
        exact ⟨congrArg (fun z => Ending.returned (.int .i64 z)) HE.out.symm, junk_of_below (by (repeat' (first | (with_reducible exact Below.refl _ _) | (with_reducible assumption) | (with_reducible refine Below.alloc ?_ ?_ _) | (with_reducible refine Below.drew ?_) | (with_reducible refine below_drewN ?_ _) | (with_reducible refine below_plus ?_ ?_ _ _) | (with_reducible refine Below.setCell ?_ ?_ _) | (with_reducible refine Below.setRow ?_ ?_ _) | go_size))), HD.out⟩

set_option maxRecDepth 100000 in
theorem n_reCompare (w : World) (a b : Option Addr) (n m ca cb : Nat) (K M : List Pt) (hK : PReads w a n K) (hM : PReads w b m M) (hs : n ≤ 4611686018427387903) (hs2 : m ≤ 4611686018427387903) :
    Calls Tryz.prog 61 #[.slice a n ca, .slice b m cb] w fun e w' => e = .returned (.int .i64 (cmpL K M)) ∧ Junk w w' ∧ w.drawn ≤ w'.drawn := by
  have HC := Lib.hid (n_slCompare w a b n m ca cb K M hK hM hs hs2)
  generalize cmpL K M = r at *
  clear hK hM
  go_enter Tryz.func61, Tryz.ntmps61
  go_wp2_with (go_at_call 85; refine HC.out.mono ?_; rintro e w1 ⟨rfl, ⟨J3, d3, rfl⟩, hdr⟩; have HD := Lib.hid hdr; clear hdr)
  go_ret
  exact ⟨rfl, junk_of_below (by (repeat' (first | (with_reducible exact Below.refl _ _) | (with_reducible assumption) | (with_reducible refine Below.alloc ?_ ?_ _) | (with_reducible refine Below.drew ?_) | (with_reducible refine below_drewN ?_ _) | (with_reducible refine below_plus ?_ ?_ _ _) | (with_reducible refine Below.setCell ?_ ?_ _) | (with_reducible refine Below.setRow ?_ ?_ _) | go_size))), HD.out⟩
end

section
set_option linter.unusedVariables false
set_option linter.unusedSimpArgs false
open Go.RowKit Go.Shelf Go.Lib Go.Sort

def encR {z : Nat} (ps : List (Value × List Pt)) (i : Fin (z + 1)) : Value := (ps.getD i.val (.slice none 0 0, [])).1
def lstR {z : Nat} (ps : List (Value × List Pt)) (i : Fin (z + 1)) : List Pt := (ps.getD i.val (.slice none 0 0, [])).2
def cmpR {z : Nat} (ps : List (Value × List Pt)) (i j : Fin (z + 1)) : Int := cmpL (lstR ps i) (lstR ps j)
theorem swoR {z : Nat} (ps : List (Value × List Pt)) : SWO (ltOf (cmpR (z := z) ps)) where
  irrefl x := by unfold ltOf cmpR; rw [cmpL_self]; rfl
  trans x y v h1 h2 := by
    unfold ltOf cmpR at *
    rw [decide_eq_true_eq] at *
    apply Decidable.byContradiction
    intro k
    have n1 := cmpL_neg (lstR ps x) (lstR ps v)
    have n2 := cmpL_neg (lstR ps y) (lstR ps v)
    have := cmpL_trans (K := lstR ps v) (M := lstR ps x) (N := lstR ps y) (by omega) (by omega)
    omega
  ntrans x y v h1 h2 := by
    unfold ltOf cmpR at *
    rw [decide_eq_false_iff_not] at *
    have n1 := cmpL_neg (lstR ps x) (lstR ps y)
    have n2 := cmpL_neg (lstR ps y) (lstR ps v)
    have n3 := cmpL_neg (lstR ps x) (lstR ps v)
    have := cmpL_trans (K := lstR ps v) (M := lstR ps y) (N := lstR ps x) (by omega) (by omega)
    omega
theorem sw_heap {α : Type} [Inhabited α] (enc : α → Value) (w : World) (g m : Nat) (dk : Array α) (os : Array Obj) {k : Nat} (hk : k ≠ g) (hl : k < w.heap.size) : (sortWorld enc w g 0 m dk os).heap[k]? = w.heap[k]? := by
  unfold sortWorld
  rw [heap_grow_old _ _ (by rw [size_putRow]; exact hl)]
  unfold putRow mapBlock
  show (w.heap.modify g _)[k]? = _
  rw [Array.getElem?_modify, if_neg (fun e => hk e.symm)]
theorem sw_below {α : Type} [Inhabited α] (enc : α → Value) (w : World) (base g m : Nat) (dk : Array α) (os : Array Obj) (hg : base ≤ g) (hb : base ≤ w.heap.size) : Go.RowKit.Below base w (sortWorld enc w g 0 m dk os) := by
  refine ⟨rfl, rfl, rfl, ?_, fun k hk => sw_heap enc w g m dk os (by omega) (by omega)⟩
  unfold sortWorld
  rw [size_grow, size_putRow]
  show w.heap.size ≤ w.heap.size + _
  omega
theorem grow_of_junk {w w' : World} (h : Junk w w') (hd : w.drawn ≤ w'.drawn) : ∃ q os, w' = grow (w.drewN q) os := by
  obtain ⟨J, d, rfl⟩ := h
  have hd' : w.drawn ≤ d := hd
  refine ⟨d - w.drawn, J, ?_⟩
  unfold grow World.plus World.drewN
  simp only [World.mk.injEq, and_true, true_and]
  omega

set_option maxHeartbeats 2000000 in
theorem n_slSort (w : World) (base : Nat) (v : Value) (ps : List (Value × List Pt)) (h : GOwn w base v ps) (hb : base ≤ w.heap.size) (h0 : 0 < ps.length) (hs : ps.length ≤ 1000) (hl : ∀ p ∈ ps, p.2.length ≤ 100000) :
    ∃ a ca, v = .slice a ps.length ca ∧ Calls Tryz.prog 60 #[.slice a ps.length ca, .func (.func 61) #[] #[]] w fun e w' =>
      e = .returned (.tuple #[]) ∧ ∃ R, UpL R ∧ R.Perm (ps.map (·.2)) ∧ GRC w' a ps.length ca R ∧ Go.RowKit.Below base w w' := by
  obtain ⟨z, hz⟩ : ∃ z, ps.length = z + 1 := ⟨ps.length - 1, by omega⟩
  obtain ⟨⟨h1, hr⟩, he⟩ := h
  rcases hr with ⟨rfl, h00⟩ | ⟨g, cap, cur, rfl, hg, hc, hnc, h5, h6, ht⟩
  · omega
  refine ⟨_, cap, rfl, ?_⟩
  have hgl : g < w.heap.size := heap_lt hc
  have hmem : ∀ i : Fin (z + 1), ps.getD i.val (.slice none 0 0, []) ∈ ps := fun i => by
    have hi : i.val < ps.length := by have := i.isLt; omega
    rw [List.getD_eq_getElem?_getD, List.getElem?_eq_getElem hi]; exact List.getElem_mem hi
  have hrow : ∀ (m : Nat) (dk : Array (Fin (z + 1))) (os : Array Obj) (i : Fin (z + 1)), ∃ a c, encR ps i = .slice a (lstR ps i).length c ∧ PRC (sortWorld (encR ps) w g 0 m dk os) a (lstR ps i).length c (lstR ps i) := by
    intro m dk os i
    have hk : GKeeps base 26 w (sortWorld (encR (z := z) ps) w g 0 m dk os) := fun k c hk1 hk2 =>
      (sw_heap _ w g m dk os (fun e => by
        subst e
        rw [hc] at hk2
        injection hk2 with hk2
        injection hk2 with _ hk2 _
        exact absurd hk2 (by decide)) (heap_lt hk2)).trans hk2
    exact prc_owns (gown_keeps (he _ (hmem i)) hk)
  have hcur : ∀ i : Fin (z + 1), cur[i.val]? = some (encR ps i) := fun i => by
    have hi : i.val < ps.length := by have := i.isLt; omega
    have h7 : (cur.toList.take (ps.length * 1))[i.val]? = some (encR ps i) := by
      rw [ht]
      unfold encR
      rw [List.getElem?_map, List.getElem?_eq_getElem hi, List.getD_eq_getElem?_getD, List.getElem?_eq_getElem hi]
      rfl
    rw [Nat.mul_one, List.getElem?_take_of_lt hi] at h7
    simpa using h7
  obtain ⟨d, hd, hds⟩ : ∃ d : Array (Fin (z + 1)), d.size = z + 1 ∧ ∀ i (hi : i < d.size), d[i].val = i := ⟨Array.ofFn id, by simp, fun i hi => by simp⟩
  have hdi : ∀ j, j < d.size → d[j]!.val = j := fun j hj => by rw [getElem!_pos d j hj]; exact hds j hj
  have hH : Holds (encR (z := z) ps) w g 0 d := fun j hj => by
    have hj2 : j < z + 1 := by omega
    have e : d[j]! = (⟨j, hj2⟩ : Fin (z + 1)) := Fin.ext (hdi j hj)
    rw [e, Nat.zero_add]
    constructor
    · have := hcur ⟨j, hj2⟩
      simp only [World.cell?, hc]
      simpa using this
    · simp [World.frozen?, hc]
  have hcmp : CmpLays1 Tryz.prog 61 #[] (encR (z := z) ps) (cmpR (z := z) ps) g 0 d.size w := by
    intro m os dk hsz x y
    obtain ⟨a1, c1, e1, p1⟩ := hrow m dk os x
    obtain ⟨a2, c2, e2, p2⟩ := hrow m dk os y
    have l1 := hl _ (hmem x)
    have l2 := hl _ (hmem y)
    have k := n_reCompare _ a1 a2 _ _ c1 c2 _ _ p1.rd p2.rd (Nat.le_trans l1 (by decide)) (Nat.le_trans l2 (by decide))
    rw [e1, e2]
    exact k.mono fun e w' ⟨k1, k2, k3⟩ => ⟨k1, grow_of_junk k2 k3⟩
  have hS := Any.slices_SortFunc Tryz.sortG (encR ps) (fun x => by obtain ⟨a, c, e, _⟩ := hrow 0 d #[] x; rw [e]; rfl) (cmpR ps) (swoR ps) 61 #[] g 0 cap d w (enters_of Tryz.func61 (by kernel_rfl) rfl) hcmp hH hgl (by omega)
  change Calls Tryz.prog 60 _ _ _ at hS
  rw [show ps.length = d.size by omega]
  refine hS.mono ?_
  rintro e w' ⟨rfl, d', n, os, ⟨p1, p2, p3⟩, s1, rfl⟩
  refine ⟨rfl, d'.toList.map (lstR ps), ?_, ?_, ?_, sw_below _ w base g n d' os hg hb⟩
  · unfold UpL
    rw [List.pairwise_map, List.pairwise_iff_getElem]
    intro i j hi hj hij
    have hi' : i < d'.size := by simpa using hi
    have hj' : j < d'.size := by simpa using hj
    have k := s1 i j (Nat.zero_le _) hij (by omega)
    rw [getElem!_pos d' i hi', getElem!_pos d' j hj'] at k
    unfold ltOf cmpR at k
    rw [decide_eq_false_iff_not] at k
    have := cmpL_neg (lstR ps d'[i]) (lstR ps d'[j])
    simp only [Array.getElem_toList]
    omega
  · rw [← p1] at p3
    rw [Array.extract_size] at p3
    rw [p1, Array.extract_size] at p3
    refine (p3.map (lstR ps)).trans ?_
    have : d.toList.map (lstR ps) = ps.map (·.2) := by
      apply List.ext_getElem
      · simp; omega
      · intro i h1 h2
        have hi : i < d.size := by simpa using h1
        simp only [List.getElem_map, Array.getElem_toList]
        unfold lstR
        rw [hds i hi, List.getD_eq_getElem?_getD, List.getElem?_eq_getElem (by simpa using h2)]
        rfl
    rw [this]
  · have hH' := holds_sortWorld (encR ps) w g 0 n d d' os hgl hH p1
    refine ⟨by simpa using p1, ⟨by omega, fun h => by cases h⟩, .inr ⟨g, 0, rfl, fun i hi => ?_⟩⟩
    have hi' : i < d'.size := by omega
    obtain ⟨a, c, e, p⟩ := hrow n d' os d'[i]
    refine ⟨a, (lstR ps d'[i]).length, c, ?_, ?_⟩
    · have := (hH' i hi').1
      rw [getElem!_pos d' i hi', e] at this
      exact this
    · rw [List.getD_eq_getElem?_getD, List.getElem?_map, Array.getElem?_toList, Array.getElem?_eq_getElem hi']
      exact p
end

section
set_option linter.unusedVariables false
set_option linter.unusedSimpArgs false
open Go.RowKit

theorem fld_0r (x y : Int) (w : World) : (Instr.field 35 (.agg #[.int .i64 x, .int .i64 y]) 0).run Tryz.prog w = .ok (.int .i64 x) w := by kernel_rfl
attribute [go_sem] fld_0r
def EqAt (w : World) (A B : List (List Pt)) (x : Value) (wr : World) : Prop := ∃ k : Nat, x = .int .i64 (k : Int) ∧ k ≤ A.length ∧ (∀ j, j < k → A.getD j [] = B.getD j []) ∧ Cls w wr
theorem eq_all {A B : List (List Pt)} (hl : A.length = B.length) (h : ∀ j, j < A.length → A.getD j [] = B.getD j []) : A = B := by
  apply List.ext_getElem hl
  intro i h1 h2
  have := h i h1
  rw [List.getD_eq_getElem?_getD, List.getD_eq_getElem?_getD, List.getElem?_eq_getElem h1, List.getElem?_eq_getElem h2] at this
  exact this

set_option maxRecDepth 100000 in
set_option maxHeartbeats 2000000 in
theorem n_slEqualG (w : World) (a b : Option Addr) (n m ca cb : Nat) (A B : List (List Pt)) (hA : GRC w a n ca A) (hB : GRC w b m cb B) (hs : n ≤ 1000) (hl : ∀ K ∈ A, K.length ≤ 100000) :
    Calls Tryz.prog 37 #[.slice a n ca, .slice b m cb, .func (.func 38) #[] #[]] w fun e w' => e = .returned (.bool (decide (A = B))) ∧ Junk w w' := by
  have l1 := hA.len
  have l2 := hB.len
  by_cases hnm : n = m
  · have e1 : ((n : Int) != (m : Int)) = false := by simp [hnm]
    subst hnm
    have H1 := Lib.hid hA.cells
    have H2 := Lib.hid hB.cells
    have HL := Lib.hid hl
    have L1 := Lib.hid l1
    have L2 := Lib.hid l2
    obtain ⟨R, hR⟩ : ∃ R, decide (A = B) = R := ⟨_, rfl⟩
    rw [hR]
    have HR := Lib.hid hR
    clear hA hB hl hR l1 l2
    go_enter Tryz.func37, Tryz.ntmps37
    go_wp2_with fail
    go_loopw [17] (fun x wr => EqAt w A B x wr) (fun x _ => n - (intOf x).toNat)
    case atStart => exact ⟨0, rfl, by omega, fun j hj => absurd hj (by omega), #[], _, (plus_nil _).symm⟩
    case round =>
      obtain ⟨k, rfl, k1, hk, J, d, rfl⟩ := hrel
      rw [L1.out] at k1
      by_cases hlt : k < n
      · rcases H1.out with h | ⟨b1, o1, rfl, hc1⟩
        · omega
        rcases H2.out with h | ⟨b2, o2, rfl, hc2⟩
        · omega
        obtain ⟨x, mx, c, p1, hp⟩ := hc1 k hlt
        obtain ⟨y, my, f, p2, hq⟩ := hc2 k hlt
        have hkR : k < A.length := by rw [L1.out]; exact hlt
        have hm : (A.getD k []).length ≤ 100000 := HL.out _ (ring_in hkR)
        have hb1 : b1 < w.heap.size := World.block_lt_of_cell? _ _ p1
        have hb2 : b2 < w.heap.size := World.block_lt_of_cell? _ _ p2
        obtain ⟨g, hg⟩ : ∃ g, decide (A.getD k [] = B.getD k []) = g := ⟨_, rfl⟩
        have HG := Lib.hid hg
        have HKk := Lib.hid hk
        have HC := Lib.hid (show Calls Tryz.prog 38 #[.slice x mx c, .slice y my f] (w.plus J d) fun e w'' => e = .returned (.bool g) ∧ Junk (w.plus J d) w'' by
          rw [← hg]
          exact n_slEqual (w.plus J d) x y mx my c f _ _ (hp.below (Junk.below ⟨J, d, rfl⟩)).rd (hq.below (Junk.below ⟨J, d, rfl⟩)).rd (by rw [← hp.rd.1]; omega))
        have i1 : (k : Int) < (n : Int) := by omega
        clear hc1 hc2 hp hq hm hg hk
        cases g with
        | true =>
          go_wp2_with (go_at_call 38; refine HC.out.mono ?_; rintro e w1 ⟨rfl, J3, d3, rfl⟩)
          go_roundw
          case rel => exact ⟨k + 1, by go_num, by rw [L1.out]; omega, fun j hj => by
            by_cases hjk : j = k
            · subst hjk; exact of_decide_eq_true HG.out
            · exact HKk.out j (by omega), cls_of (junk_of_below (by (repeat' (first | (with_reducible exact Below.refl _ _) | (with_reducible assumption) | (with_reducible refine Below.alloc ?_ ?_ _) | (with_reducible refine Below.drew ?_) | (with_reducible refine below_drewN ?_ _) | (with_reducible refine below_plus ?_ ?_ _ _) | (with_reducible refine Below.setCell ?_ ?_ _) | (with_reducible refine Below.setRow ?_ ?_ _) | go_size))))⟩
          case measure => simp [intOf]; omega
        | false =>
          have HE := Lib.hid (show R = false by rw [← HR.out]; exact decide_eq_false (fun e => by subst e; exact absurd rfl (of_decide_eq_false HG.out)))
          go_wp2_with (go_at_call 38; refine HC.out.mono ?_; rintro e w1 ⟨rfl, J3, d3, rfl⟩)
          go_ret
          exact ⟨retB HE.out.symm, junk_of_below (by (repeat' (first | (with_reducible exact Below.refl _ _) | (with_reducible assumption) | (with_reducible refine Below.alloc ?_ ?_ _) | (with_reducible refine Below.drew ?_) | (with_reducible refine below_drewN ?_ _) | (with_reducible refine below_plus ?_ ?_ _ _) | (with_reducible refine Below.setCell ?_ ?_ _) | (with_reducible refine Below.setRow ?_ ?_ _) | go_size)))⟩
      · obtain rfl : k = n := by omega
        have HE := Lib.hid (show R = true by rw [← HR.out]; exact decide_eq_true (eq_all (by rw [L1.out, L2.out]) fun j hj => hk j (by rw [L1.out] at hj; exact hj)))
        have i1 : ¬ (k : Int) < (k : Int) := by omega
        clear hk
        go_wp2_with fail
        go_ret
        exact ⟨retB HE.out.symm, junk_of_below (by (repeat' (first | (with_reducible exact Below.refl _ _) | (with_reducible assumption) | (with_reducible refine Below.alloc ?_ ?_ _) | (with_reducible refine Below.drew ?_) | (with_reducible refine below_drewN ?_ _) | (with_reducible refine below_plus ?_ ?_ _ _) | (with_reducible refine Below.setCell ?_ ?_ _) | (with_reducible refine Below.setRow ?_ ?_ _) | go_size)))⟩
  · have e1 : ((n : Int) != (m : Int)) = true := by simp; omega
    have hE : decide (A = B) = false := decide_eq_false (fun e => by subst e; omega)
    rw [hE]
    clear hA hB hl hE
    go_enter Tryz.func37, Tryz.ntmps37
    go_wp2_with fail
    go_ret
    exact ⟨rfl, junk_of_below (by (repeat' (first | (with_reducible exact Below.refl _ _) | (with_reducible assumption) | (with_reducible refine Below.alloc ?_ ?_ _) | (with_reducible refine Below.drew ?_) | (with_reducible refine below_drewN ?_ _) | (with_reducible refine below_plus ?_ ?_ _ _) | (with_reducible refine Below.setCell ?_ ?_ _) | (with_reducible refine Below.setRow ?_ ?_ _) | go_size)))⟩

/-- Between two rounds: the normal forms so far. -/
def NfAt (W : World) (R : List (List Pt)) (v i : Value) (wr : World) : Prop := ∃ (k : Nat) (ps : List (Value × List Pt)), i = .int .i64 (k : Int) ∧ k ≤ R.length ∧ GOwn wr W.heap.size v ps ∧ ps.map (·.2) = (R.take k).map normF ∧ Below W.heap.size W wr
set_option maxRecDepth 100000 in
set_option maxHeartbeats 2000000 in
theorem n_reNormal_bad (w : World) (a : Option Addr) (n ca : Nat) (R : List (List Pt)) (hR : GRC w a n ca R) (hs : n ≤ 1000) (hl : ∀ K ∈ R, K.length ≤ 100000) (hv : ¬ (checkR R).1 = 0) :
    Calls Tryz.prog 36 #[.agg #[.slice a n ca]] w fun e w' => e = .returned (.tuple #[.slice none 0 0, .bool false]) ∧ Junk w w' := by
  have HR := Lib.hid hR
  have HC := Lib.hid (fun w' h => c_reCheck w' a n ca R h hs hl)
  obtain ⟨⟨e, at_⟩, he⟩ : ∃ r, checkR R = r := ⟨_, rfl⟩
  rw [he] at HC hv
  unfold fltV at HC
  simp only at HC hv
  have e5 : (e != 0) = true := by simpa using hv
  clear hR hl he hv
  go_enter Tryz.func36, Tryz.ntmps36
  go_wp2_with (go_at_call 10; refine (HC.out _ (HR.out.below (by (repeat' (first | (with_reducible exact Below.refl _ _) | (with_reducible assumption) | (with_reducible refine Below.alloc ?_ ?_ _) | (with_reducible refine Below.drew ?_) | (with_reducible refine below_drewN ?_ _) | (with_reducible refine below_plus ?_ ?_ _ _) | (with_reducible refine Below.setCell ?_ ?_ _) | (with_reducible refine Below.setRow ?_ ?_ _) | go_size))))).mono ?_; rintro e w1 ⟨rfl, J4, d4, rfl⟩)
  go_ret2
  exact ⟨rfl, junk_of_below (by (repeat' (first | (with_reducible exact Below.refl _ _) | (with_reducible assumption) | (with_reducible refine Below.alloc ?_ ?_ _) | (with_reducible refine Below.drew ?_) | (with_reducible refine below_drewN ?_ _) | (with_reducible refine below_plus ?_ ?_ _ _) | (with_reducible refine Below.setCell ?_ ?_ _) | (with_reducible refine Below.setRow ?_ ?_ _) | go_size)))⟩
set_option maxRecDepth 100000 in
set_option maxHeartbeats 2000000 in
theorem n_reNormal (w : World) (a : Option Addr) (n ca : Nat) (R : List (List Pt)) (hR : GRC w a n ca R) (hs : n ≤ 1000) (hl : ∀ K ∈ R, K.length ≤ 100000) (hv : (checkR R).1 = 0) :
    Calls Tryz.prog 36 #[.agg #[.slice a n ca]] w fun e w' => (∃ x c N, e = .returned (.tuple #[.slice x n c, .bool true]) ∧ GRC w' x n c N ∧ UpL N ∧ N.Perm (R.map normF)) ∧ Junk w w' := by
  have hf := checkR_fine.1 hv
  have HF := Lib.hid hf.each
  have L1 := Lib.hid hR.len
  have h0 : 0 < n := by rw [← hR.len]; exact hf.few
  have HR := Lib.hid hR
  have HC := Lib.hid (fun w' h => c_reCheck w' a n ca R h hs hl)
  obtain ⟨⟨e, at_⟩, he⟩ : ∃ r, checkR R = r := ⟨_, rfl⟩
  rw [he] at HC hv
  unfold fltV at HC
  simp only at HC hv
  subst hv
  clear hR hl he hf
  go_enter Tryz.func36, Tryz.ntmps36
  go_wp2_with (go_at_call 10; refine (HC.out _ (HR.out.below (by (repeat' (first | (with_reducible exact Below.refl _ _) | (with_reducible assumption) | (with_reducible refine Below.alloc ?_ ?_ _) | (with_reducible refine Below.drew ?_) | (with_reducible refine below_drewN ?_ _) | (with_reducible refine below_plus ?_ ?_ _ _) | (with_reducible refine Below.setCell ?_ ?_ _) | (with_reducible refine Below.setRow ?_ ?_ _) | go_size))))).mono ?_; rintro e w1 ⟨rfl, J4, d4, rfl⟩)
  obtain ⟨W, hW⟩ : ∃ W, (w.alloc (.cells #[.slice a n ca] 24)).plus J4 d4 = W := ⟨_, rfl⟩
  have c0 : W.cell? ⟨w.heap.size, 0, none⟩ = some (.slice a n ca) := by rw [← hW]; simp [go_sem]
  have hj : Below w.heap.size w W := by rw [← hW]; (repeat' (first | (with_reducible exact Below.refl _ _) | (with_reducible assumption) | (with_reducible refine Below.alloc ?_ ?_ _) | (with_reducible refine Below.drew ?_) | (with_reducible refine below_drewN ?_ _) | (with_reducible refine below_plus ?_ ?_ _ _) | (with_reducible refine Below.setCell ?_ ?_ _) | (with_reducible refine Below.setRow ?_ ?_ _) | go_size))
  have HRW := Lib.hid (HR.out.below hj)
  have HJ := Lib.hid hj
  have m0 := hj.size
  have l0 : w.heap.size < W.heap.size := World.block_lt_of_cell? _ _ c0
  rw [hW]
  clear hW HR HC hj
  go_loopw [4, 16] (fun v i wr => NfAt W R v i wr) (fun _ i _ => n - (intOf i).toNat)
  case atStart => exact ⟨0, [], rfl, by omega, gown_nil _ _, rfl, Below.refl _ _⟩
  case round =>
    obtain ⟨k, ps, rfl, k1, hown, hps, hB⟩ := hrel
    rw [L1.out] at k1
    have hsz := hB.size
    have hpl : ps.length = k := by have := congrArg List.length hps; rw [List.length_map, List.length_map, List.length_take, L1.out] at this; omega
    by_cases hlt : k < n
    · rcases HRW.out.cells with h | ⟨b, o, rfl, hc⟩
      · omega
      obtain ⟨x, m, c, p1, hp⟩ := hc k hlt
      have hkR : k < R.length := by rw [L1.out]; exact hlt
      have hm : m ≤ 400 := by rw [← hp.rd.1]; exact Nat.le_trans (HF.out _ (ring_in hkR)).long (by decide)
      have hbW : b < W.heap.size := World.block_lt_of_cell? _ _ p1
      have s1 := (World.cell?_of_block (hB.block _ hbW)).trans p1
      have s0 := (World.cell?_of_block (hB.block _ l0)).trans c0
      obtain ⟨Kk, hKk⟩ : ∃ Kk, R.getD k [] = Kk := ⟨_, rfl⟩
      rw [hKk] at hp
      have HCN := Lib.hid (c_rgNormal wr x m c Kk (hp.below hB) hm)
      have HOW := Lib.hid hown
      have HB := Lib.hid hB
      have HPS := Lib.hid (show (ps.map (·.2)) ++ [normF Kk] = (R.take (k + 1)).map normF by rw [← hKk, hps, List.take_succ_eq_append_getElem hkR, List.map_append, List.getD_eq_getElem?_getD, List.getElem?_eq_getElem hkR, Option.getD_some]; rfl)
      generalize normF Kk = Nk at *
      obtain ⟨wo, rfl⟩ : ∃ wo : World, wo = wr := ⟨_, rfl⟩
      have lb : b < wo.heap.size := Nat.lt_of_lt_of_le hbW hsz
      have lw : w.heap.size < wo.heap.size := Nat.lt_of_lt_of_le l0 hsz
      have i1 : (k : Int) < (n : Int) := by omega
      have HPL := Lib.hid hpl
      clear hc p1 hp hown hps hB hm hpl hKk
      go_wp2_with (first
        | (go_at_call 59; refine HCN.out.mono ?_; rintro e w1 ⟨⟨v1, bb, rfl, hown1, _⟩, J5, d5, rfl⟩; obtain ⟨av, cv, rfl, _⟩ := prc_owns hown1; have HO1 := Lib.hid (gown_base hown1 hsz); clear hown1)
        | (at_builtin; refine wpList_gapp rfl (.tmp 25) (.tmp 27) rfl W.heap.size _ ps rfl (HOW.out.below (by (repeat' (first | (with_reducible exact Below.refl _ _) | (with_reducible assumption) | (with_reducible refine Below.alloc ?_ ?_ _) | (with_reducible refine Below.drew ?_) | (with_reducible refine below_drewN ?_ _) | (with_reducible refine below_plus ?_ ?_ _ _) | (with_reducible refine Below.setCell ?_ ?_ _) | (with_reducible refine Below.setRow ?_ ?_ _) | go_size)))) _ _ Nk rfl (by simp [go_sem]) (gown_keeps HO1.out (gkeeps_below (by (repeat' (first | (with_reducible exact Below.refl _ _) | (with_reducible assumption) | (with_reducible refine Below.alloc ?_ ?_ _) | (with_reducible refine Below.drew ?_) | (with_reducible refine below_drewN ?_ _) | (with_reducible refine below_plus ?_ ?_ _ _) | (with_reducible refine Below.setCell ?_ ?_ _) | (with_reducible refine Below.setRow ?_ ?_ _) | go_size))) _ _)) (by have := HPL.out; omega) (by simp; omega) ?_; intro v2 w2 hown2 hg2))
      go_roundw
      case rel => exact ⟨k + 1, _, by go_num, by rw [L1.out]; omega, hown2, by rw [List.map_append]; exact HPS.out, grown_below (B := W.heap.size) (a := W) (HB.out.trans ((show Below wo.heap.size wo _ by (repeat' (first | (with_reducible exact Below.refl _ _) | (with_reducible assumption) | (with_reducible refine Below.alloc ?_ ?_ _) | (with_reducible refine Below.drew ?_) | (with_reducible refine below_drewN ?_ _) | (with_reducible refine below_plus ?_ ?_ _ _) | (with_reducible refine Below.setCell ?_ ?_ _) | (with_reducible refine Below.setRow ?_ ?_ _) | go_size))).mono hsz)) hg2 (by simp; omega) (fun r hr => (gown_block (HOW.out).row r hr).1)⟩
      case measure => simp [intOf]; omega
    · obtain rfl : k = n := by omega
      rw [List.take_of_length_le (by rw [L1.out]; omega)] at hps
      have hlen : ∀ p ∈ ps, p.2.length ≤ 100000 := fun p hp => by
        have hm : p.2 ∈ R.map normF := by rw [← hps]; exact List.mem_map_of_mem hp
        obtain ⟨K, hK, e⟩ := List.mem_map.1 hm
        rw [← e, norm_len (norm_is (HF.out K hK))]
        exact Nat.le_trans (HF.out K hK).long (by decide)
      obtain ⟨x, c, rfl, hS⟩ := n_slSort wr W.heap.size _ ps hown hsz (by omega) (by omega) hlen
      rw [hpl, hps] at hS
      have HS := Lib.hid hS
      have HB := Lib.hid hB
      have i1 : ¬ (k : Int) < (k : Int) := by omega
      rw [hpl]
      clear hown hps hlen hS hB hpl
      go_wp2_with (go_at_call 60; refine HS.out.mono ?_; rintro e w1 ⟨rfl, N, hu, hp, hg, hB2⟩; have HU := Lib.hid hu; have HP := Lib.hid hp; have HG := Lib.hid hg; have HB2 := Lib.hid hB2; clear hu hp hg hB2)
      go_ret2
      exact ⟨⟨_, _, N, rfl, HG.out, HU.out, HP.out⟩, junk_of_below ((HJ.out.trans (HB.out.mono m0)).trans (HB2.out.mono m0))⟩

/-- Are two regions the same, as a truth value? -/
noncomputable def sameG (A B : List (List Pt)) : Bool := decide ((checkR A).1 = 0) && decide ((checkR B).1 = 0) && (A.map normF).isPerm (B.map normF)
set_option maxRecDepth 100000 in
set_option maxHeartbeats 2000000 in
theorem c_reSame (w : World) (a b : Option Addr) (n m ca cb : Nat) (A B : List (List Pt)) (hA : GRC w a n ca A) (hB : GRC w b m cb B) (hs : n ≤ 1000) (hs2 : m ≤ 1000) (hl : A.flatten.length ≤ 100000) (hl2 : B.flatten.length ≤ 100000) :
    Calls Tryz.prog 16 #[.agg #[.slice a n ca], .agg #[.slice b m cb]] w fun e w' => e = .returned (.bool (sameG A B)) ∧ Junk w w' := by
  have la : ∀ K ∈ A, K.length ≤ 100000 := fun K hK => Nat.le_trans (ring_le hK) (by unfold allN; rw [← List.length_flatten]; exact hl)
  have lb : ∀ K ∈ B, K.length ≤ 100000 := fun K hK => Nat.le_trans (ring_le hK) (by unfold allN; rw [← List.length_flatten]; exact hl2)
  have H1 := Lib.hid hA
  have H2 := Lib.hid hB
  obtain ⟨R, hR⟩ : ∃ R, sameG A B = R := ⟨_, rfl⟩
  rw [hR]
  by_cases h1 : (checkR A).1 = 0
  · have HN1 := Lib.hid (fun w' h => n_reNormal w' a n ca A h hs la h1)
    by_cases h2 : (checkR B).1 = 0
    · have HN2 := Lib.hid (fun w' h => n_reNormal w' b m cb B h hs2 lb h2)
      have HR := Lib.hid (show (A.map normF).isPerm (B.map normF) = R by rw [← hR]; unfold sameG; rw [decide_eq_true h1, decide_eq_true h2]; rfl)
      have f1 := checkR_fine.1 h1
      have HL1 := Lib.hid (fun (N : List (List Pt)) (hp : N.Perm (A.map normF)) => show ∀ K ∈ N, K.length ≤ 100000 from fun K hK => by
        obtain ⟨M, hM, e⟩ := List.mem_map.1 (hp.mem_iff.1 hK)
        rw [← e, norm_len (norm_is (f1.each M hM))]
        exact Nat.le_trans (f1.each M hM).long (by decide))
      have HE := Lib.hid (fun w' x y c f N1 N2 g1 g2 l => n_slEqualG w' x y n m c f N1 N2 g1 g2 hs l)
      clear hA hB la lb hl hl2 hR h1 h2 f1
      go_enter Tryz.func16, Tryz.ntmps16
      go_wp2_with (first
        | (go_at_call 36; (with_reducible refine (HN1.out _ ?_).mono ?_); (exact H1.out.below (by ((try simp only [← Array.append_assoc]); repeat' (first | (with_reducible exact Below.refl _ _) | (with_reducible assumption) | (with_reducible refine Below.alloc ?_ ?_ _) | (with_reducible refine Below.drew ?_) | (with_reducible refine below_drewN ?_ _) | (with_reducible exact below_d _ _ _ _ _) | (with_reducible refine below_snoc _ _ ?_ ?_) | (with_reducible refine below_plus ?_ ?_ _ _) | (with_reducible refine Below.setCell ?_ ?_ _) | (with_reducible refine Below.setRow ?_ ?_ _) | go_size)))); rintro e w1 ⟨⟨x1, c1, N1, rfl, hg, hu, hp⟩, J1, d1, rfl⟩; have G1 := Lib.hid hg; have U1 := Lib.hid hu; have P1 := Lib.hid hp; clear hg hu hp)
        | (go_at_call 36; (with_reducible refine (HN2.out _ ?_).mono ?_); (exact H2.out.below (by ((try simp only [← Array.append_assoc]); repeat' (first | (with_reducible exact Below.refl _ _) | (with_reducible assumption) | (with_reducible refine Below.alloc ?_ ?_ _) | (with_reducible refine Below.drew ?_) | (with_reducible refine below_drewN ?_ _) | (with_reducible exact below_d _ _ _ _ _) | (with_reducible refine below_snoc _ _ ?_ ?_) | (with_reducible refine below_plus ?_ ?_ _ _) | (with_reducible refine Below.setCell ?_ ?_ _) | (with_reducible refine Below.setRow ?_ ?_ _) | go_size)))); rintro e w1 ⟨⟨x2, c2, N2, rfl, hg, hu, hp⟩, J2, d2, rfl⟩; have G2 := Lib.hid hg; have U2 := Lib.hid hu; have P2 := Lib.hid hp; clear hg hu hp)
        | (go_at_call 37; (refine (HE.out _ _ _ _ _ _ _ (G1.out.below (by ((try simp only [← Array.append_assoc]); repeat' (first | (with_reducible exact Below.refl _ _) | (with_reducible assumption) | (with_reducible refine Below.alloc ?_ ?_ _) | (with_reducible refine Below.drew ?_) | (with_reducible refine below_drewN ?_ _) | (with_reducible exact below_d _ _ _ _ _) | (with_reducible refine below_snoc _ _ ?_ ?_) | (with_reducible refine below_plus ?_ ?_ _ _) | (with_reducible refine Below.setCell ?_ ?_ _) | (with_reducible refine Below.setRow ?_ ?_ _) | go_size)))) (grc_eqh G2.out (by simp only [plus_plus, Array.append_assoc])) (HL1.out _ P1.out)).mono ?_); rintro e w1 ⟨rfl, J3, d3, rfl⟩))
      go_ret
      exact ⟨retB (by rw [← HR.out]; exact up_eq U1.out U2.out P1.out P2.out), junk_of_below (by (repeat' (first | (with_reducible exact Below.refl _ _) | (with_reducible assumption) | (with_reducible refine Below.alloc ?_ ?_ _) | (with_reducible refine Below.drew ?_) | (with_reducible refine below_drewN ?_ _) | (with_reducible refine below_plus ?_ ?_ _ _) | (with_reducible refine Below.setCell ?_ ?_ _) | (with_reducible refine Below.setRow ?_ ?_ _) | go_size)))⟩
    · have HN2 := Lib.hid (fun w' h => n_reNormal_bad w' b m cb B h hs2 lb h2)
      have HR := Lib.hid (show R = false by rw [← hR]; unfold sameG; rw [decide_eq_false h2]; simp)
      clear hA hB la lb hl hl2 hR h1 h2
      go_enter Tryz.func16, Tryz.ntmps16
      go_wp2_with (first
        | (go_at_call 36; (with_reducible refine (HN1.out _ ?_).mono ?_); (exact H1.out.below (by ((try simp only [← Array.append_assoc]); repeat' (first | (with_reducible exact Below.refl _ _) | (with_reducible assumption) | (with_reducible refine Below.alloc ?_ ?_ _) | (with_reducible refine Below.drew ?_) | (with_reducible refine below_drewN ?_ _) | (with_reducible exact below_d _ _ _ _ _) | (with_reducible refine below_snoc _ _ ?_ ?_) | (with_reducible refine below_plus ?_ ?_ _ _) | (with_reducible refine Below.setCell ?_ ?_ _) | (with_reducible refine Below.setRow ?_ ?_ _) | go_size)))); rintro e w1 ⟨⟨x1, c1, N1, rfl, _, _, _⟩, J1, d1, rfl⟩)
        | (go_at_call 36; (with_reducible refine (HN2.out _ ?_).mono ?_); (exact H2.out.below (by ((try simp only [← Array.append_assoc]); repeat' (first | (with_reducible exact Below.refl _ _) | (with_reducible assumption) | (with_reducible refine Below.alloc ?_ ?_ _) | (with_reducible refine Below.drew ?_) | (with_reducible refine below_drewN ?_ _) | (with_reducible exact below_d _ _ _ _ _) | (with_reducible refine below_snoc _ _ ?_ ?_) | (with_reducible refine below_plus ?_ ?_ _ _) | (with_reducible refine Below.setCell ?_ ?_ _) | (with_reducible refine Below.setRow ?_ ?_ _) | go_size)))); rintro e w1 ⟨rfl, J2, d2, rfl⟩))
      go_ret
      exact ⟨retB HR.out.symm, junk_of_below (by (repeat' (first | (with_reducible exact Below.refl _ _) | (with_reducible assumption) | (with_reducible refine Below.alloc ?_ ?_ _) | (with_reducible refine Below.drew ?_) | (with_reducible refine below_drewN ?_ _) | (with_reducible refine below_plus ?_ ?_ _ _) | (with_reducible refine Below.setCell ?_ ?_ _) | (with_reducible refine Below.setRow ?_ ?_ _) | go_size)))⟩
  · have HN1 := Lib.hid (fun w' h => n_reNormal_bad w' a n ca A h hs la h1)
    have HR := Lib.hid (show R = false by rw [← hR]; unfold sameG; rw [decide_eq_false h1]; simp)
    by_cases h2 : (checkR B).1 = 0
    · have HN2 := Lib.hid (fun w' h => n_reNormal w' b m cb B h hs2 lb h2)
      clear hA hB la lb hl hl2 hR h1 h2
      go_enter Tryz.func16, Tryz.ntmps16
      go_wp2_with (first
        | (go_at_call 36; (with_reducible refine (HN1.out _ ?_).mono ?_); (exact H1.out.below (by ((try simp only [← Array.append_assoc]); repeat' (first | (with_reducible exact Below.refl _ _) | (with_reducible assumption) | (with_reducible refine Below.alloc ?_ ?_ _) | (with_reducible refine Below.drew ?_) | (with_reducible refine below_drewN ?_ _) | (with_reducible exact below_d _ _ _ _ _) | (with_reducible refine below_snoc _ _ ?_ ?_) | (with_reducible refine below_plus ?_ ?_ _ _) | (with_reducible refine Below.setCell ?_ ?_ _) | (with_reducible refine Below.setRow ?_ ?_ _) | go_size)))); rintro e w1 ⟨rfl, J1, d1, rfl⟩)
        | (go_at_call 36; (with_reducible refine (HN2.out _ ?_).mono ?_); (exact H2.out.below (by ((try simp only [← Array.append_assoc]); repeat' (first | (with_reducible exact Below.refl _ _) | (with_reducible assumption) | (with_reducible refine Below.alloc ?_ ?_ _) | (with_reducible refine Below.drew ?_) | (with_reducible refine below_drewN ?_ _) | (with_reducible exact below_d _ _ _ _ _) | (with_reducible refine below_snoc _ _ ?_ ?_) | (with_reducible refine below_plus ?_ ?_ _ _) | (with_reducible refine Below.setCell ?_ ?_ _) | (with_reducible refine Below.setRow ?_ ?_ _) | go_size)))); rintro e w1 ⟨⟨x2, c2, N2, rfl, _, _, _⟩, J2, d2, rfl⟩))
      go_ret
      exact ⟨retB HR.out.symm, junk_of_below (by (repeat' (first | (with_reducible exact Below.refl _ _) | (with_reducible assumption) | (with_reducible refine Below.alloc ?_ ?_ _) | (with_reducible refine Below.drew ?_) | (with_reducible refine below_drewN ?_ _) | (with_reducible refine below_plus ?_ ?_ _ _) | (with_reducible refine Below.setCell ?_ ?_ _) | (with_reducible refine Below.setRow ?_ ?_ _) | go_size)))⟩
    · have HN2 := Lib.hid (fun w' h => n_reNormal_bad w' b m cb B h hs2 lb h2)
      clear hA hB la lb hl hl2 hR h1 h2
      go_enter Tryz.func16, Tryz.ntmps16
      go_wp2_with (first
        | (go_at_call 36; (with_reducible refine (HN1.out _ ?_).mono ?_); (exact H1.out.below (by ((try simp only [← Array.append_assoc]); repeat' (first | (with_reducible exact Below.refl _ _) | (with_reducible assumption) | (with_reducible refine Below.alloc ?_ ?_ _) | (with_reducible refine Below.drew ?_) | (with_reducible refine below_drewN ?_ _) | (with_reducible exact below_d _ _ _ _ _) | (with_reducible refine below_snoc _ _ ?_ ?_) | (with_reducible refine below_plus ?_ ?_ _ _) | (with_reducible refine Below.setCell ?_ ?_ _) | (with_reducible refine Below.setRow ?_ ?_ _) | go_size)))); rintro e w1 ⟨rfl, J1, d1, rfl⟩)
        | (go_at_call 36; (with_reducible refine (HN2.out _ ?_).mono ?_); (exact H2.out.below (by ((try simp only [← Array.append_assoc]); repeat' (first | (with_reducible exact Below.refl _ _) | (with_reducible assumption) | (with_reducible refine Below.alloc ?_ ?_ _) | (with_reducible refine Below.drew ?_) | (with_reducible refine below_drewN ?_ _) | (with_reducible exact below_d _ _ _ _ _) | (with_reducible refine below_snoc _ _ ?_ ?_) | (with_reducible refine below_plus ?_ ?_ _ _) | (with_reducible refine Below.setCell ?_ ?_ _) | (with_reducible refine Below.setRow ?_ ?_ _) | go_size)))); rintro e w1 ⟨rfl, J2, d2, rfl⟩))
      go_ret
      exact ⟨retB HR.out.symm, junk_of_below (by (repeat' (first | (with_reducible exact Below.refl _ _) | (with_reducible assumption) | (with_reducible refine Below.alloc ?_ ?_ _) | (with_reducible refine Below.drew ?_) | (with_reducible refine below_drewN ?_ _) | (with_reducible refine below_plus ?_ ?_ _ _) | (with_reducible refine Below.setCell ?_ ?_ _) | (with_reducible refine Below.setRow ?_ ?_ _) | go_size)))⟩
end

section
set_option linter.unusedVariables false
set_option linter.unusedSimpArgs false
open Go.RowKit

/-- Those whose mark is not set. -/
def leftL : List Bool → List (List Pt) → List (List Pt)
  | u :: us, K :: Bs => if u then leftL us Bs else K :: leftL us Bs
  | _, _ => []
theorem left_all : ∀ B : List (List Pt), leftL (List.replicate B.length false) B = B
  | [] => rfl
  | K :: B => by
    show K :: leftL (List.replicate B.length false) B = K :: B
    rw [left_all B]
theorem left_mem {K : List Pt} : ∀ {us : List Bool} {B : List (List Pt)}, K ∈ leftL us B → ∃ k : Nat, us[k]? = some false ∧ B[k]? = some K
  | [], B, h => by simp [leftL] at h
  | u :: us, [], h => by simp [leftL] at h
  | true :: us, M :: B, h => by
    obtain ⟨k, h1, h2⟩ := left_mem (us := us) (B := B) h
    exact ⟨k + 1, by simpa using h1, by simpa using h2⟩
  | false :: us, M :: B, h => by
    rcases List.mem_cons.1 (show K ∈ M :: leftL us B from h) with rfl | h
    · exact ⟨0, rfl, rfl⟩
    · obtain ⟨k, h1, h2⟩ := left_mem (us := us) (B := B) h
      exact ⟨k + 1, by simpa using h1, by simpa using h2⟩
theorem left_set {K : List Pt} : ∀ {us : List Bool} {B : List (List Pt)} {k : Nat}, us[k]? = some false → B[k]? = some K → (leftL us B).Perm (K :: leftL (us.set k true) B)
  | [], B, k, h1, _ => by simp at h1
  | u :: us, [], k, _, h2 => by simp at h2
  | u :: us, M :: B, 0, h1, h2 => by
    simp at h1 h2
    subst h1
    subst h2
    exact List.Perm.refl _
  | true :: us, M :: B, k + 1, h1, h2 => left_set (us := us) (B := B) (k := k) (by simpa using h1) (by simpa using h2)
  | false :: us, M :: B, k + 1, h1, h2 => by
    have := left_set (us := us) (B := B) (k := k) (by simpa using h1) (by simpa using h2)
    show (M :: leftL us B).Perm (K :: M :: leftL (us.set k true) B)
    exact (this.cons M).trans (List.Perm.swap K M _)
/-- One more is paired. -/
theorem pair_step {A B : List (List Pt)} {us : List Bool} {i k : Nat} {K : List Pt} (h : (A.take i ++ leftL us B).Perm B) (hi : A[i]? = some K) (h1 : us[k]? = some false) (h2 : B[k]? = some K) : (A.take (i + 1) ++ leftL (us.set k true) B).Perm B := by
  refine List.Perm.trans ?_ h
  have hl : i < A.length := by
    rcases Nat.lt_or_ge i A.length with h | h
    · exact h
    · rw [List.getElem?_eq_none h] at hi; cases hi
  have e : A.take (i + 1) = A.take i ++ [K] := by
    rw [List.take_succ_eq_append_getElem hl]
    rw [List.getElem?_eq_getElem hl] at hi
    injection hi with hi
    rw [hi]
  rw [e, List.append_assoc]
  exact List.Perm.append_left _ (left_set h1 h2).symm
/-- One that nothing is left for. -/
theorem pair_none {A B : List (List Pt)} {us : List Bool} {i : Nat} {K : List Pt} (h : (A.take i ++ leftL us B).Perm B) (hi : A[i]? = some K) (hn : ∀ k : Nat, us[k]? = some false → B[k]? ≠ some K) : A.isPerm B = false := by
  apply Decidable.byContradiction
  intro hp
  have hp : A.Perm B := List.isPerm_iff.1 (by simpa using hp)
  have h2 : (A.take i ++ leftL us B).Perm (A.take i ++ A.drop i) := by rw [List.take_append_drop]; exact h.trans hp.symm
  have h3 := (List.perm_append_left_iff _).1 h2
  have hl : i < A.length := by
    rcases Nat.lt_or_ge i A.length with h | h
    · exact h
    · rw [List.getElem?_eq_none h] at hi; cases hi
  have hm : K ∈ A.drop i := by
    rw [List.drop_eq_getElem_cons hl]
    rw [List.getElem?_eq_getElem hl] at hi
    injection hi with hi
    rw [hi]; exact List.mem_cons_self
  obtain ⟨k, h4, h5⟩ := left_mem (h3.mem_iff.2 hm)
  exact hn k h4 h5
theorem pair_all {A B : List (List Pt)} {us : List Bool} (h : (A ++ leftL us B).Perm B) (hl : A.length = B.length) : A.isPerm B = true := by
  have := h.length_eq
  rw [List.length_append] at this
  have e : leftL us B = [] := List.eq_nil_of_length_eq_zero (by omega)
  rw [e, List.append_nil] at h
  exact List.isPerm_iff.2 h

/-- A row of marks. -/
def brw (us : List Bool) : Array Value := (us.map Value.bool).toArray
theorem brw_get {us : List Bool} {k : Nat} {x : Bool} (h : us[k]? = some x) : (brw us)[k]? = some (.bool x) := by simp [brw, h]
theorem brw_set (us : List Bool) (k : Nat) (x : Bool) : (brw us).setIfInBounds k (.bool x) = brw (us.set k x) := by
  unfold brw
  rw [List.setIfInBounds_toArray, List.map_set]
theorem info_bool : ∃ i, Tryz.prog.info? 4 = some i ∧ i.zero = some (.bool false) ∧ i.size = 1 ∧ i.bytes = 1 := by
  have h : (Tryz.prog.info? 4).map (fun i => (i.zero, i.size, i.bytes)) = some (some (.bool false), 1, 1) := by kernel_rfl
  cases hi : Tryz.prog.info? 4 with
  | none => rw [hi] at h; cases h
  | some i =>
    rw [hi] at h
    simp at h
    exact ⟨i, rfl, h.1, h.2.1, h.2.2⟩
theorem made_brw (n : Nat) (hn : n ≤ 1099511627776) (w : World) : (Instr.makeSlice 58 (.int .i64 n) (.int .i64 n)).run Tryz.prog w = .ok (.slice (some ⟨w.heap.size, 0, none⟩) n n) (w.alloc (.cells (brw (List.replicate n false)) 4)) := by
  obtain ⟨i, hi, hz, hs, hb⟩ := info_bool
  have h := run_make (P := Tryz.prog) w 58 4 i (.bool false) Tryz.underlying58 hi hz .i64 .i64 n n (by omega) (by omega) (by rw [hb]; omega) (by omega)
  rw [h]
  have e : madeCells (Value.bool false).cells ((n : Int).toNat * i.size) = brw (List.replicate n false) := by
    rw [hs, Nat.mul_one, Int.toNat_natCast]
    apply Array.ext_getElem?
    intro k
    by_cases hk : k < n
    · rw [brw_get (x := false) (by simp [hk])]
      simp [madeCells, hk, Value.cells, Nat.mod_one]
    · rw [Array.getElem?_eq_none (by rw [size_madeCells]; omega), Array.getElem?_eq_none (by simp [brw]; omega)]
  rw [e, Int.toNat_natCast]

/-- Between two outer rounds: the first i are paired. -/
def SmO (V : World) (A B : List (List Pt)) (x : Value) (wr : World) : Prop := ∃ (i : Nat) (us : List Bool), x = .int .i64 (i : Int) ∧ i ≤ A.length ∧ us.length = B.length ∧ (A.take i ++ leftL us B).Perm B ∧ Blk wr V.heap.size (brw us) 4 ∧ Below V.heap.size V wr
/-- Between two inner rounds: none so far, or the one is paired. -/
def SmI (V : World) (A B : List (List Pt)) (i : Nat) (us : List Bool) (K : List Pt) (x y : Value) (wr : World) : Prop := ∃ (k : Nat) (vs : List Bool) (f : Bool), y = .int .i64 (k : Int) ∧ x = .bool f ∧ k ≤ B.length ∧ Blk wr V.heap.size (brw vs) 4 ∧ Below V.heap.size V wr ∧
  ((f = false ∧ vs = us ∧ ∀ j, j < k → us[j]? = some false → B[j]? ≠ some K) ∨ (f = true ∧ vs.length = B.length ∧ (A.take (i + 1) ++ leftL vs B).Perm B))
theorem map_at {R : List (List Pt)} {f : List Pt → List Pt} {k : Nat} (hk : k < R.length) : (R.map f)[k]? = some (f (R.getD k [])) := by
  rw [List.getElem?_map, List.getElem?_eq_getElem hk, List.getD_eq_getElem?_getD, List.getElem?_eq_getElem hk]; rfl
set_option maxRecDepth 100000 in
set_option maxHeartbeats 4000000 in
theorem r_reSame_ok (w : World) (a b : Option Addr) (n ca cb : Nat) (A B : List (List Pt)) (hA : GRC w a n ca A) (hB : GRC w b n cb B) (hs : n ≤ 1000) (la : ∀ K ∈ A, K.length ≤ 100000) (lb : ∀ K ∈ B, K.length ≤ 100000) (hv : (checkR A).1 = 0) (hv2 : (checkR B).1 = 0) :
    Calls Tryz.prog 17 #[.agg #[.slice a n ca], .agg #[.slice b n cb]] w fun e w' => e = .returned (.bool (sameG A B)) ∧ Junk w w' := by
  have f1 := checkR_fine.1 hv
  have f2 := checkR_fine.1 hv2
  have HF1 := Lib.hid f1.each
  have HF2 := Lib.hid f2.each
  have L1 := Lib.hid hA.len
  have L2 := Lib.hid hB.len
  have H1 := Lib.hid hA
  have H2 := Lib.hid hB
  obtain ⟨R, hR⟩ : ∃ R, sameG A B = R := ⟨_, rfl⟩
  rw [hR]
  have HR := Lib.hid (show (A.map normF).isPerm (B.map normF) = R by rw [← hR]; unfold sameG; rw [decide_eq_true hv, decide_eq_true hv2]; rfl)
  have HC1 := Lib.hid (fun w' h => r_reCheck w' a n ca A h (fun K hK => Nat.le_trans (la K hK) (by decide)))
  have HC2 := Lib.hid (fun w' h => r_reCheck w' b n cb B h (fun K hK => Nat.le_trans (lb K hK) (by decide)))
  obtain ⟨⟨e1, t1⟩, he1⟩ : ∃ r, checkR A = r := ⟨_, rfl⟩
  obtain ⟨⟨e2, t2⟩, he2⟩ : ∃ r, checkR B = r := ⟨_, rfl⟩
  rw [he1] at HC1 hv
  rw [he2] at HC2 hv2
  unfold fltV at HC1 HC2
  simp only at HC1 HC2 hv hv2
  subst hv hv2
  have hmk := made_brw n (by omega)
  have nn : ((n : Int) != (n : Int)) = false := by simp
  clear hA hB la lb f1 f2 hR he1 he2
  go_enter Tryz.func17, Tryz.ntmps17
  go_upto_region 3 with (first
    | (go_at_call 11; (with_reducible refine (HC1.out _ ?_).mono ?_); (exact H1.out.below (by ((try simp only [← Array.append_assoc]); repeat' (first | (with_reducible exact Below.refl _ _) | (with_reducible assumption) | (with_reducible refine Below.alloc ?_ ?_ _) | (with_reducible refine Below.drew ?_) | (with_reducible refine below_drewN ?_ _) | (with_reducible exact below_d _ _ _ _ _) | (with_reducible refine below_snoc _ _ ?_ ?_) | (with_reducible refine below_plus ?_ ?_ _ _) | (with_reducible refine Below.setCell ?_ ?_ _) | (with_reducible refine Below.setRow ?_ ?_ _) | go_size)))); rintro e w1 ⟨rfl, J1, d1, rfl⟩)
    | (go_at_call 11; (with_reducible refine (HC2.out _ ?_).mono ?_); (exact H2.out.below (by ((try simp only [← Array.append_assoc]); repeat' (first | (with_reducible exact Below.refl _ _) | (with_reducible assumption) | (with_reducible refine Below.alloc ?_ ?_ _) | (with_reducible refine Below.drew ?_) | (with_reducible refine below_drewN ?_ _) | (with_reducible exact below_d _ _ _ _ _) | (with_reducible refine below_snoc _ _ ?_ ?_) | (with_reducible refine below_plus ?_ ?_ _ _) | (with_reducible refine Below.setCell ?_ ?_ _) | (with_reducible refine Below.setRow ?_ ?_ _) | go_size)))); rintro e w1 ⟨rfl, J2, d2, rfl⟩))
  obtain ⟨V, hV⟩ : ∃ V, ((w.alloc (.cells #[.slice a n ca] 24)).alloc (.cells #[.slice b n cb] 24)).plus (J1 ++ J2) d2 = V := ⟨_, rfl⟩
  have c0 : V.cell? ⟨w.heap.size, 0, none⟩ = some (.slice a n ca) := by rw [← hV]; simp [go_sem]
  have c1 : V.cell? ⟨w.heap.size + 1, 0, none⟩ = some (.slice b n cb) := by rw [← hV]; simp [go_sem]
  have hj : Below w.heap.size w V := by rw [← hV]; ((try simp only [← Array.append_assoc]); repeat' (first | (with_reducible exact Below.refl _ _) | (with_reducible assumption) | (with_reducible refine Below.alloc ?_ ?_ _) | (with_reducible refine Below.drew ?_) | (with_reducible refine below_drewN ?_ _) | (with_reducible exact below_d _ _ _ _ _) | (with_reducible refine below_snoc _ _ ?_ ?_) | (with_reducible refine below_plus ?_ ?_ _ _) | (with_reducible refine Below.setCell ?_ ?_ _) | (with_reducible refine Below.setRow ?_ ?_ _) | go_size))
  have HAV := Lib.hid (H1.out.below hj)
  have HBV := Lib.hid (H2.out.below hj)
  have HJ := Lib.hid hj
  have m0 := hj.size
  have l0 : w.heap.size < V.heap.size := World.block_lt_of_cell? _ _ c0
  have l1 : w.heap.size + 1 < V.heap.size := World.block_lt_of_cell? _ _ c1
  have HS0 := Lib.hid (show ((A.map normF).take 0 ++ leftL (List.replicate n false) (B.map normF)).Perm (B.map normF) by rw [List.take_zero, List.nil_append, show n = (B.map normF).length by rw [List.length_map, L2.out], left_all])
  have HLA := Lib.hid (show (A.map normF).length = n by rw [List.length_map, L1.out])
  have HLB := Lib.hid (show (B.map normF).length = n by rw [List.length_map, L2.out])
  rw [hV]
  clear hV H1 H2 HC1 HC2 hj
  go_wp2_with fail
  clear hmk
  go_loopw [6] (fun x wr => SmO V (A.map normF) (B.map normF) x wr) (fun x _ => n - (intOf x).toNat)
  case atStart => exact ⟨0, List.replicate n false, rfl, by omega, by rw [HLB.out]; simp, HS0.out, Blk.new V _ _, (Below.refl _ V).alloc (Nat.le_refl _) _⟩
  case round =>
    obtain ⟨i, us, rfl, i0, hu, hp, bU, hBl⟩ := hrel
    rw [HLA.out] at i0
    rw [HLB.out] at hu
    have s0 := (World.cell?_of_block (hBl.block _ l0)).trans c0
    have s1 := (World.cell?_of_block (hBl.block _ l1)).trans c1
    have n0 := World.block_lt_of_cell? _ _ s0
    have n1 := World.block_lt_of_cell? _ _ s1
    by_cases hlt : i < n
    · rcases HAV.out.cells with h | ⟨b1, o1, rfl, hc1⟩
      · omega
      obtain ⟨x, mm, c, p1, hp1⟩ := hc1 i hlt
      have hiR : i < A.length := by rw [L1.out]; exact hlt
      have fi := HF1.out _ (ring_in hiR)
      have hb1 : b1 < V.heap.size := World.block_lt_of_cell? _ _ p1
      have HP1 := Lib.hid hp1
      have HFi := Lib.hid fi
      have HAt := Lib.hid (map_at (f := normF) hiR)
      have HI := Lib.hid (And.intro hu (And.intro hp (And.intro bU hBl)))
      have i1 : (i : Int) < (n : Int) := by omega
      obtain ⟨Ki, hKi⟩ : ∃ Ki, A.getD i [] = Ki := ⟨_, rfl⟩
      rw [hKi] at HP1 HFi HAt
      clear hc1 hp1 fi hu hp bU hBl hKi
      go_wp2_with fail
      go_loopw [7, 8] (fun x y wr => SmI V (A.map normF) (B.map normF) i us (normF Ki) x y wr) (fun _ y _ => n - (intOf y).toNat)
      case atStart => exact ⟨0, us, false, rfl, rfl, by omega, HI.out.2.2.1, HI.out.2.2.2, .inl ⟨rfl, rfl, fun j hj => absurd hj (by omega)⟩⟩
      case round =>
        obtain ⟨k, vs, f, rfl, rfl, k0, bV, hB2, hcase⟩ := hrel
        rw [HLB.out] at k0
        have r0 := (World.cell?_of_block (hB2.block _ l0)).trans c0
        have r1 := (World.cell?_of_block (hB2.block _ l1)).trans c1
        have q0 := World.block_lt_of_cell? _ _ r0
        have q1 := World.block_lt_of_cell? _ _ r1
        have r2 := (World.cell?_of_block (hB2.block _ hb1)).trans p1
        have q2 := World.block_lt_of_cell? _ _ r2
        cases f with
        | true =>
          have HV := Lib.hid (And.intro bV (And.intro hB2 hcase))
          clear bV hB2 hcase
          by_cases hk : k < n
          all_goals
            have k1 : (decide ((k : Int) < (n : Int))) = decide (k < n) := by simp
            go_wp2_with fail
            go_roundw
            case rel =>
              obtain ⟨bV, hB2, hcase⟩ := HV.out
              rcases hcase with ⟨h, _⟩ | ⟨_, h2, h3⟩
              · cases h
              · exact ⟨i + 1, vs, by go_num, by rw [HLA.out]; omega, h2, h3, bV, hB2⟩
            case measure => simp [intOf]; omega
        | false =>
          rcases hcase with ⟨_, rfl, hno⟩ | ⟨h, _⟩
          case inr => cases h
          have HNO := Lib.hid hno
          clear hno
          by_cases hk : k < n
          · rcases HBV.out.cells with h | ⟨b2, o2, rfl, hc2⟩
            · omega
            obtain ⟨y, l, h, p2, hp2⟩ := hc2 k hk
            have hkR : k < B.length := by rw [L2.out]; exact hk
            have fk := HF2.out _ (ring_in hkR)
            have hb2 : b2 < V.heap.size := World.block_lt_of_cell? _ _ p2
            have r3 := (World.cell?_of_block (hB2.block _ hb2)).trans p2
            have q3 := World.block_lt_of_cell? _ _ r3
            have hkv : k < vs.length := by rw [HI.out.1]; exact hk
            obtain ⟨g, hg⟩ : ∃ g, vs[k]? = some g := ⟨_, List.getElem?_eq_getElem hkv⟩
            have u0 : wr.cell? ⟨V.heap.size, k, none⟩ = some (.bool g) := (bV.cell k).trans (brw_get hg)
            have g0 := bV.frozen k
            have lU := bV.lt
            have hBk := map_at (f := normF) hkR
            obtain ⟨Mk, hMk⟩ : ∃ Mk, B.getD k [] = Mk := ⟨_, rfl⟩
            rw [hMk] at hp2 fk hBk
            have hsm : sameB Ki Mk = decide (normF Ki = normF Mk) := by
              rw [Bool.eq_iff_iff, same_true, same_norm, decide_eq_true_eq]
              exact ⟨fun h => h.2.2, fun h => ⟨HFi.out, fk, h⟩⟩
            obtain ⟨q, hq⟩ : ∃ q, decide (normF Ki = normF Mk) = q := ⟨_, rfl⟩
            rw [hq] at hsm
            have HC := Lib.hid (fun (J : Array Obj) (d : Nat) => show Calls Tryz.prog 39 #[.slice x mm c, .slice y l h] (wr.plus J d) fun e w'' => e = .returned (.bool q) ∧ Junk (wr.plus J d) w'' by
              have z1 := HFi.out.long
              have z2 := fk.long
              rw [HP1.out.rd.1] at z1
              rw [hp2.rd.1] at z2
              rw [← hsm]
              exact s_rgSame (wr.plus J d) x y mm l c h _ _ ((HP1.out.below hB2).below (Junk.below ⟨J, d, rfl⟩)) ((hp2.below hB2).below (Junk.below ⟨J, d, rfl⟩)) (by omega) (by omega))
            have HQ := Lib.hid hq
            have HG := Lib.hid hg
            have HBk := Lib.hid hBk
            have HV := Lib.hid (And.intro bV hB2)
            have k1 : (k : Int) < (n : Int) := by omega
            obtain ⟨wo, rfl⟩ : ∃ wo : World, wo = wr := ⟨_, rfl⟩
            clear hc2 hp2 fk bV hB2 hg hBk hMk hsm hq
            cases g with
            | true =>
              go_upto_region 11 with fail
              refine region_quiet_all (C := Cls wo) (by kernel_rfl) (by kernel_rfl) (cls_drawn _) ?_
              repeat (first | (refine qw_skip (by rfl) ?_; simp only [Act.put, List.setIfInBounds_toArray, List.set_cons_succ, List.set_cons_zero]) | (refine qw_want (by rfl) (fun K hK => ?_); go_simp; first | (refine hK _ ?_; clear hK K) | (apply Exists.intro; refine ⟨?_, hK _ ?_⟩; (rintro w3_ ⟨J3_, d3_, rfl⟩; first | (with_reducible exact rfl) | (go_simp; with_reducible exact rfl) | (go_simp; (first | (with_reducible refine (L1.out _).mono ?_) | (with_reducible refine (HC.out _ _).mono ?_)); rintro e_ w_ ⟨rfl, J4_, d4_, rfl⟩; exact ⟨rfl, J3_ ++ J4_, d4_, by simp only [plus_plus, Array.append_assoc]⟩)); clear hK K)))
              refine qw_nil ?_
              rintro w7 ⟨J3, d3, rfl⟩
              go_wp2_with fail
              go_roundw
              case rel =>
                have hb9 : Below wo.heap.size wo (wo.plus J3 d3) := Junk.below ⟨_, _, rfl⟩
                exact ⟨k + 1, vs, false, by go_num, rfl, by rw [HLB.out]; omega, HV.out.1.below hb9, HV.out.2.trans (hb9.mono HV.out.2.size), .inl ⟨rfl, rfl, fun j hj => by
                  by_cases e : j = k
                  · subst e; intro h; rw [HG.out] at h; cases h
                  · exact HNO.out j (by omega)⟩⟩
              case measure => simp [intOf]; omega
            | false =>
              cases q with
              | true =>
                go_upto_region 11 with fail
                refine region_quiet_all (C := Cls wo) (by kernel_rfl) (by kernel_rfl) (cls_drawn _) ?_
                repeat (first | (refine qw_skip (by rfl) ?_; simp only [Act.put, List.setIfInBounds_toArray, List.set_cons_succ, List.set_cons_zero]) | (refine qw_want (by rfl) (fun K hK => ?_); go_simp; first | (refine hK _ ?_; clear hK K) | (apply Exists.intro; refine ⟨?_, hK _ ?_⟩; (rintro w3_ ⟨J3_, d3_, rfl⟩; first | (with_reducible exact rfl) | (go_simp; with_reducible exact rfl) | (go_simp; (first | (with_reducible refine (L1.out _).mono ?_) | (with_reducible refine (HC.out _ _).mono ?_)); rintro e_ w_ ⟨rfl, J4_, d4_, rfl⟩; exact ⟨rfl, J3_ ++ J4_, d4_, by simp only [plus_plus, Array.append_assoc]⟩)); clear hK K)))
                refine qw_nil ?_
                rintro w7 ⟨J3, d3, rfl⟩
                go_wp2_with fail
                go_roundw
                case rel =>
                  refine ⟨k + 1, vs.set k true, true, by go_num, rfl, by rw [HLB.out]; omega, ?_, ?_, .inr ⟨rfl, by rw [List.length_set, HI.out.1, HLB.out], pair_step HI.out.2.1 HAt.out HG.out (by rw [HBk.out, of_decide_eq_true HQ.out])⟩⟩
                  · have := (HV.out.1.set k (.bool true)).below (Junk.below ⟨J3, d3, rfl⟩)
                    rw [brw_set] at this
                    exact this
                  · have h1 : Below V.heap.size wo (wo.setCell ⟨V.heap.size, k, none⟩ (.bool true)) := (Below.refl _ wo).setCell (p := ⟨V.heap.size, k, none⟩) (Nat.le_refl _) _
                    exact (HV.out.2.trans h1).trans ((Junk.below ⟨J3, d3, rfl⟩).mono (Nat.le_trans HV.out.2.size h1.size))
                case measure => simp [intOf]; omega
              | false =>
                go_upto_region 11 with fail
                refine region_quiet_all (C := Cls wo) (by kernel_rfl) (by kernel_rfl) (cls_drawn _) ?_
                repeat (first | (refine qw_skip (by rfl) ?_; simp only [Act.put, List.setIfInBounds_toArray, List.set_cons_succ, List.set_cons_zero]) | (refine qw_want (by rfl) (fun K hK => ?_); go_simp; first | (refine hK _ ?_; clear hK K) | (apply Exists.intro; refine ⟨?_, hK _ ?_⟩; (rintro w3_ ⟨J3_, d3_, rfl⟩; first | (with_reducible exact rfl) | (go_simp; with_reducible exact rfl) | (go_simp; (first | (with_reducible refine (L1.out _).mono ?_) | (with_reducible refine (HC.out _ _).mono ?_)); rintro e_ w_ ⟨rfl, J4_, d4_, rfl⟩; exact ⟨rfl, J3_ ++ J4_, d4_, by simp only [plus_plus, Array.append_assoc]⟩)); clear hK K)))
                refine qw_nil ?_
                rintro w7 ⟨J3, d3, rfl⟩
                go_wp2_with fail
                go_roundw
                case rel =>
                  have hb9 : Below wo.heap.size wo (wo.plus J3 d3) := Junk.below ⟨_, _, rfl⟩
                  exact ⟨k + 1, vs, false, by go_num, rfl, by rw [HLB.out]; omega, HV.out.1.below hb9, HV.out.2.trans (hb9.mono HV.out.2.size), .inl ⟨rfl, rfl, fun j hj => by
                    by_cases e : j = k
                    · subst e; intro _ h; rw [HBk.out] at h; injection h with h; exact of_decide_eq_false HQ.out h.symm
                    · exact HNO.out j (by omega)⟩⟩
                case measure => simp [intOf]; omega
          · have HE := Lib.hid (show R = false by
              rw [← HR.out]
              refine pair_none HI.out.2.1 HAt.out fun j h1 => HNO.out j ?_ h1
              have : j < vs.length := by
                rcases Nat.lt_or_ge j vs.length with h | h
                · exact h
                · rw [List.getElem?_eq_none h] at h1; cases h1
              rw [HI.out.1] at this
              omega)
            have hB := hB2
            have k1 : ¬ (k : Int) < (n : Int) := by omega
            clear bV hB2
            go_wp2_with fail
            go_ret
            exact ⟨retB HE.out.symm, junk_of_below (HJ.out.trans (hB.mono m0))⟩
    · obtain rfl : i = n := by omega
      rw [List.take_of_length_le (by rw [HLA.out]; omega)] at hp
      have HE := Lib.hid (show R = true by rw [← HR.out]; exact pair_all hp (by rw [HLA.out, HLB.out]))
      have i1 : ¬ (i : Int) < (i : Int) := by omega
      clear hp bU
      go_wp2_with fail
      go_ret
      exact ⟨retB HE.out.symm, junk_of_below (HJ.out.trans (hBl.mono m0))⟩

theorem perm_lens {A B : List (List Pt)} (h : A.length ≠ B.length) : (A.map normF).isPerm (B.map normF) = false := by
  apply Decidable.byContradiction
  intro k
  have := (List.isPerm_iff.1 (show (A.map normF).isPerm (B.map normF) = true by simpa using k)).length_eq
  rw [List.length_map, List.length_map] at this
  exact h this
set_option maxRecDepth 100000 in
set_option maxHeartbeats 2000000 in
theorem r_reSame (w : World) (a b : Option Addr) (n m ca cb : Nat) (A B : List (List Pt)) (hA : GRC w a n ca A) (hB : GRC w b m cb B) (hs : n ≤ 1000) (hs2 : m ≤ 1000) (la : ∀ K ∈ A, K.length ≤ 100000) (lb : ∀ K ∈ B, K.length ≤ 100000) :
    Calls Tryz.prog 17 #[.agg #[.slice a n ca], .agg #[.slice b m cb]] w fun e w' => e = .returned (.bool (sameG A B)) ∧ Junk w w' := by
  by_cases hv : (checkR A).1 = 0 ∧ (checkR B).1 = 0 ∧ n = m
  · obtain ⟨h1, h2, rfl⟩ := hv
    exact r_reSame_ok w a b n ca cb A B hA hB hs la lb h1 h2
  have hR : sameG A B = false := by
    unfold sameG
    by_cases h1 : (checkR A).1 = 0
    · by_cases h2 : (checkR B).1 = 0
      · rw [perm_lens (fun e => hv ⟨h1, h2, by rw [← hA.len, ← hB.len]; exact e⟩)]; simp
      · rw [decide_eq_false h2]; simp
    · rw [decide_eq_false h1]; simp
  rw [hR]
  have H1 := Lib.hid hA
  have H2 := Lib.hid hB
  have HC1 := Lib.hid (fun w' h => r_reCheck w' a n ca A h (fun K hK => Nat.le_trans (la K hK) (by decide)))
  have HC2 := Lib.hid (fun w' h => r_reCheck w' b m cb B h (fun K hK => Nat.le_trans (lb K hK) (by decide)))
  obtain ⟨⟨e1, t1⟩, he1⟩ : ∃ r, checkR A = r := ⟨_, rfl⟩
  obtain ⟨⟨e2, t2⟩, he2⟩ : ∃ r, checkR B = r := ⟨_, rfl⟩
  rw [he1] at HC1 hv
  rw [he2] at HC2 hv
  unfold fltV at HC1 HC2
  simp only at HC1 HC2 hv
  clear hA hB la lb hR he1 he2
  by_cases h1 : e1 = 0
  · subst h1
    by_cases h2 : e2 = 0
    · subst h2
      have hne : n ≠ m := fun e => hv ⟨rfl, rfl, e⟩
      have nn : ((n : Int) != (m : Int)) = true := by simp; omega
      have n2 : ((n : Int) == (m : Int)) = false := by rw [beq_eq_false_iff_ne]; omega
      clear hv
      go_enter Tryz.func17, Tryz.ntmps17
      go_wp2_with (first
        | (go_at_call 11; (with_reducible refine (HC1.out _ ?_).mono ?_); (exact H1.out.below (by ((try simp only [← Array.append_assoc]); repeat' (first | (with_reducible exact Below.refl _ _) | (with_reducible assumption) | (with_reducible refine Below.alloc ?_ ?_ _) | (with_reducible refine Below.drew ?_) | (with_reducible refine below_drewN ?_ _) | (with_reducible exact below_d _ _ _ _ _) | (with_reducible refine below_snoc _ _ ?_ ?_) | (with_reducible refine below_plus ?_ ?_ _ _) | (with_reducible refine Below.setCell ?_ ?_ _) | (with_reducible refine Below.setRow ?_ ?_ _) | go_size)))); rintro e w1 ⟨rfl, J1, d1, rfl⟩)
        | (go_at_call 11; (with_reducible refine (HC2.out _ ?_).mono ?_); (exact H2.out.below (by ((try simp only [← Array.append_assoc]); repeat' (first | (with_reducible exact Below.refl _ _) | (with_reducible assumption) | (with_reducible refine Below.alloc ?_ ?_ _) | (with_reducible refine Below.drew ?_) | (with_reducible refine below_drewN ?_ _) | (with_reducible exact below_d _ _ _ _ _) | (with_reducible refine below_snoc _ _ ?_ ?_) | (with_reducible refine below_plus ?_ ?_ _ _) | (with_reducible refine Below.setCell ?_ ?_ _) | (with_reducible refine Below.setRow ?_ ?_ _) | go_size)))); rintro e w1 ⟨rfl, J2, d2, rfl⟩))
      go_ret
      exact ⟨rfl, junk_of_below (by (repeat' (first | (with_reducible exact Below.refl _ _) | (with_reducible assumption) | (with_reducible refine Below.alloc ?_ ?_ _) | (with_reducible refine Below.drew ?_) | (with_reducible refine below_drewN ?_ _) | (with_reducible refine below_plus ?_ ?_ _ _) | (with_reducible refine Below.setCell ?_ ?_ _) | (with_reducible refine Below.setRow ?_ ?_ _) | go_size)))⟩
    · have x2 : (e2 != 0) = true := by simpa using h2
      clear hv h2
      go_enter Tryz.func17, Tryz.ntmps17
      go_wp2_with (first
        | (go_at_call 11; (with_reducible refine (HC1.out _ ?_).mono ?_); (exact H1.out.below (by ((try simp only [← Array.append_assoc]); repeat' (first | (with_reducible exact Below.refl _ _) | (with_reducible assumption) | (with_reducible refine Below.alloc ?_ ?_ _) | (with_reducible refine Below.drew ?_) | (with_reducible refine below_drewN ?_ _) | (with_reducible exact below_d _ _ _ _ _) | (with_reducible refine below_snoc _ _ ?_ ?_) | (with_reducible refine below_plus ?_ ?_ _ _) | (with_reducible refine Below.setCell ?_ ?_ _) | (with_reducible refine Below.setRow ?_ ?_ _) | go_size)))); rintro e w1 ⟨rfl, J1, d1, rfl⟩)
        | (go_at_call 11; (with_reducible refine (HC2.out _ ?_).mono ?_); (exact H2.out.below (by ((try simp only [← Array.append_assoc]); repeat' (first | (with_reducible exact Below.refl _ _) | (with_reducible assumption) | (with_reducible refine Below.alloc ?_ ?_ _) | (with_reducible refine Below.drew ?_) | (with_reducible refine below_drewN ?_ _) | (with_reducible exact below_d _ _ _ _ _) | (with_reducible refine below_snoc _ _ ?_ ?_) | (with_reducible refine below_plus ?_ ?_ _ _) | (with_reducible refine Below.setCell ?_ ?_ _) | (with_reducible refine Below.setRow ?_ ?_ _) | go_size)))); rintro e w1 ⟨rfl, J2, d2, rfl⟩))
      go_ret
      exact ⟨rfl, junk_of_below (by (repeat' (first | (with_reducible exact Below.refl _ _) | (with_reducible assumption) | (with_reducible refine Below.alloc ?_ ?_ _) | (with_reducible refine Below.drew ?_) | (with_reducible refine below_drewN ?_ _) | (with_reducible refine below_plus ?_ ?_ _ _) | (with_reducible refine Below.setCell ?_ ?_ _) | (with_reducible refine Below.setRow ?_ ?_ _) | go_size)))⟩
  · have x1 : (e1 != 0) = true := by simpa using h1
    clear hv h1
    go_enter Tryz.func17, Tryz.ntmps17
    go_wp2_with (go_at_call 11; (with_reducible refine (HC1.out _ ?_).mono ?_); (exact H1.out.below (by ((try simp only [← Array.append_assoc]); repeat' (first | (with_reducible exact Below.refl _ _) | (with_reducible assumption) | (with_reducible refine Below.alloc ?_ ?_ _) | (with_reducible refine Below.drew ?_) | (with_reducible refine below_drewN ?_ _) | (with_reducible exact below_d _ _ _ _ _) | (with_reducible refine below_snoc _ _ ?_ ?_) | (with_reducible refine below_plus ?_ ?_ _ _) | (with_reducible refine Below.setCell ?_ ?_ _) | (with_reducible refine Below.setRow ?_ ?_ _) | go_size)))); rintro e w1 ⟨rfl, J1, d1, rfl⟩)
    go_ret
    exact ⟨rfl, junk_of_below (by (repeat' (first | (with_reducible exact Below.refl _ _) | (with_reducible assumption) | (with_reducible refine Below.alloc ?_ ?_ _) | (with_reducible refine Below.drew ?_) | (with_reducible refine below_drewN ?_ _) | (with_reducible refine below_plus ?_ ?_ _ _) | (with_reducible refine Below.setCell ?_ ?_ _) | (with_reducible refine Below.setRow ?_ ?_ _) | go_size)))⟩
end
end Go.Proofs.YtfkhefiilmdhmaaGreat

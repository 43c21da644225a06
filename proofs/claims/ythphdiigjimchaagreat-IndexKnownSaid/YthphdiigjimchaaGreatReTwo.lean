/- Regions: edges whose boxes keep clear of each other; lists of points in their order; rows that are sorted. region: meet. region: In, Box; slices.Concat over a slice of rings; count. region: checkEach, checkApart, Check. Regions that come in as arguments, and how many points they have at most. -/
import Derived.Test.YthphdiigjimchaaGreatReOne
import Derived.Test.YthphdiigjimchaaGreatRgLaw
import Derived.Test.YthphdiigjimchaaGreatPtThree
import Derived.Test.YthphdiigjimchaaGreatCrFive
import Derived.Test.YthphdiigjimchaaGreatInTwo
import Derived.Test.YthphdiigjimchaaGreatRgRest
import Derived.WalkMore
import Derived.Test.YthphdiigjimchaaGreatPtArg
import Derived.SizedLaws
namespace Go.Proofs.YthphdiigjimchaaGreat
section
set_option linter.unusedVariables false
set_option linter.unusedSimpArgs false
open Go.RowKit
theorem over_box {a b c d : Pt} {M : List Pt} (hc : c ∈ M) (hd : d ∈ M)
    (hf : meetF (lxF [a, b] [a, b].length) (lyF [a, b] [a, b].length) (hxF [a, b] [a, b].length + 1) (hyF [a, b] [a, b].length + 1) (lxF M M.length) (lyF M M.length) (hxF M M.length + 1) (hyF M M.length + 1) = false) : meetQ a b c d < 2 := by
  apply Decidable.byContradiction
  intro k
  unfold meetQ at k
  split at k
  case isFalse => omega
  case isTrue hm =>
    rw [Bool.and_eq_true] at hm
    have hb := meet_boxes ((how_not (may_ne hm.1) (may_ne hm.2)).1 (by omega))
    have ha : a ∈ [a, b] := by simp
    have hb' : b ∈ [a, b] := by simp
    have a1 := lx_low ha
    have a2 := ly_low ha
    have a3 := hx_high ha
    have a4 := hy_high ha
    have b1 := lx_low hb'
    have b2 := ly_low hb'
    have b3 := hx_high hb'
    have b4 := hy_high hb'
    have c1 := lx_low hc
    have c2 := ly_low hc
    have c3 := hx_high hc
    have c4 := hy_high hc
    have d1 := lx_low hd
    have d2 := ly_low hd
    have d3 := hx_high hd
    have d4 := hy_high hd
    unfold meetF at hf
    rw [decide_eq_false_iff_not] at hf
    generalize lxF [a, b] [a, b].length = A1 at *
    generalize lyF [a, b] [a, b].length = A2 at *
    generalize hxF [a, b] [a, b].length = A3 at *
    generalize hyF [a, b] [a, b].length = A4 at *
    omega
def cmpL : List Pt → List Pt → Int
  | [], [] => 0
  | [], _ :: _ => -1
  | _ :: _, [] => 1
  | a :: K, b :: M => if cmpC a b = 0 then cmpL K M else cmpC a b
def UpL (L : List (List Pt)) : Prop := L.Pairwise fun K M => cmpL K M ≤ 0
end

section
set_option linter.unusedVariables false
set_option linter.unusedSimpArgs false
open Go.RowKit
theorem rot_next {K : List Pt} {i : Nat} (h : i < K.length) : (rotF K 1).getD i (0, 0) = K.getD ((i + 1) % K.length) (0, 0) := by
  rw [← cyc_nat (K := rotF K 1) (k := i) (by rw [rot_len]; exact h), rot_cyc, show (1 : Int) + (i : Int) = (i : Int) + 1 by omega, cyc_next h]
theorem preads_two {w : World} {g : Nat} {x y u v : Int} (h0 : w.cell? ⟨g, 0, none⟩ = some (.int .i64 x)) (h1 : w.cell? ⟨g, 1, none⟩ = some (.int .i64 y)) (h2 : w.cell? ⟨g, 2, none⟩ = some (.int .i64 u)) (h3 : w.cell? ⟨g, 3, none⟩ = some (.int .i64 v)) :
    PReads w (some ⟨g, 0, none⟩) 2 [(x, y), (u, v)] := by
  refine ⟨rfl, .inr ⟨g, 0, rfl, fun i hi => ?_⟩⟩
  match i, hi with
  | 0, _ => exact ⟨h0, h1⟩
  | 1, _ => exact ⟨h2, h3⟩
theorem getD_in {K : List Pt} {k : Nat} (hk : k < K.length) : K.getD k (0, 0) ∈ K := by
  rw [List.getD_eq_getElem?_getD, List.getElem?_eq_getElem hk]; exact List.getElem_mem hk
def BxP (X : World) (A1 A2 A3 A4 : Int) (t : Value) (wx : World) : Prop := ∃ gb, t = .pointer (some ⟨gb, 0, none⟩) ∧ wx.cell? ⟨gb, 0, none⟩ = some (.int .i64 A1) ∧ wx.cell? ⟨gb, 1, none⟩ = some (.int .i64 A2) ∧ wx.cell? ⟨gb, 2, none⟩ = some (.int .i64 A3) ∧ wx.cell? ⟨gb, 3, none⟩ = some (.int .i64 A4) ∧ Cls X wx
def MtO (W : World) (K M : List Pt) (x : Value) (wr : World) : Prop := ∃ i : Nat, x = .int .i64 (i : Int) ∧ i ≤ K.length ∧ (∀ j, j < i → ∀ k, k < M.length → overAt K M j k = false) ∧ Cls W wr
def MtI (W : World) (K M : List Pt) (i : Nat) (x : Value) (wr : World) : Prop := ∃ k : Nat, x = .int .i64 (k : Int) ∧ k ≤ M.length ∧ (∀ j, j < k → overAt K M i j = false) ∧ Cls W wr
set_option maxRecDepth 100000 in
set_option maxHeartbeats 4000000 in
theorem n_reMeet (w : World) (a b : Option Addr) (n m ca cb : Nat) (K M : List Pt) (hK : PRC w a n ca K) (hM : PRC w b m cb M) (hs : n ≤ 400) (hs2 : m ≤ 400) (h0 : 0 < m) (oK : ∀ p ∈ K, okC p = true) (oM : ∀ p ∈ M, okC p = true) :
    Calls Tryz.prog 99 #[.slice a n ca, .slice b m cb] w fun e w' => e = .returned (.bool (rMeet K M)) ∧ Junk w w' := by
  have L1 := Lib.hid hK.rd.1
  have L2 := Lib.hid hM.rd.1
  have HK := Lib.hid hK
  have HM := Lib.hid hM
  have OK := Lib.hid oK
  have HFr := Lib.hid (fun w' h => c_rgFrom w' a n ca K h hs 1)
  have HFs := Lib.hid (fun w' h => c_rgFrom w' b m cb M h hs2 1)
  have hb2 : bndOk M = true := by
    unfold bndOk
    rw [Bool.and_eq_true, decide_eq_true_eq]
    exact ⟨by rw [hM.rd.1]; exact h0, List.all_eq_true.2 oM⟩
  have hbm : boxV M = bxV (lxF M M.length) (lyF M M.length) (hxF M M.length + 1) (hyF M M.length + 1) := boxV_some hb2
  have hov : ∀ x y c d : Pt, c ∈ M → d ∈ M → meetF (lxF [x, y] [x, y].length) (lyF [x, y] [x, y].length) (hxF [x, y] [x, y].length + 1) (hyF [x, y] [x, y].length + 1) (lxF M M.length) (lyF M M.length) (hxF M M.length + 1) (hyF M M.length + 1) = false → meetQ x y c d < 2 := fun x y c d hc hd hf => over_box hc hd hf
  generalize lxF M M.length = kx at *
  generalize lyF M M.length = ky at *
  generalize hxF M M.length + 1 = mx at *
  generalize hyF M M.length + 1 = my at *
  have HOB := Lib.hid hov
  have HBM := Lib.hid (fun w' h => show Calls Tryz.prog 44 #[.slice b m cb] w' fun e w'' => e = .returned (.tuple #[.agg #[.int .i64 kx, .int .i64 ky, .int .i64 mx, .int .i64 my], .bool true]) ∧ Junk w' w'' by
    have := n_ptBounds w' b m cb M h (by omega)
    rw [hbm, hb2] at this
    exact this)
  obtain ⟨R, hR⟩ : ∃ R, rMeet K M = R := ⟨_, rfl⟩
  rw [hR]
  have HR := Lib.hid hR
  clear hK hM hR oK oM hb2 hbm hov
  go_enter Tryz.func99, Tryz.ntmps99
  go_upto_region 3 with (first
    | (go_at_call 128; (with_reducible refine (HFr.out _ ?_).mono ?_); (with_reducible exact HK.out); rintro e w1 ⟨⟨v5, rfl, hv⟩, J5, d5, rfl⟩; obtain ⟨a5, c5, rfl, hr⟩ := own_prcs hv; have HE5 := Lib.hid hr; clear hv hr)
    | (go_at_call 128; (refine (HFs.out _ (HM.out.below (by ((try simp only [← Array.append_assoc]); repeat' first | with_reducible (first | apply Below.refl | assumption | apply bw_a | apply bw_d | apply bw_n | apply bw_e | apply bw_s | apply bw_p | apply bw_c | apply bw_r) | go_size)))).mono ?_); rintro e w1 ⟨⟨v6, rfl, hv⟩, J6, d6, rfl⟩; obtain ⟨a6, c6, rfl, hr⟩ := own_prcs hv; have HE6 := Lib.hid hr; clear hv hr)
    | (go_at_call 44; (refine (HBM.out _ (HM.out.rd.below (by ((try simp only [← Array.append_assoc]); repeat' first | with_reducible (first | apply Below.refl | assumption | apply bw_a | apply bw_d | apply bw_n | apply bw_e | apply bw_s | apply bw_p | apply bw_c | apply bw_r) | go_size)))).mono ?_); rintro e w1 ⟨rfl, J7, d7, rfl⟩))
  obtain ⟨g, hg⟩ : ∃ g, w.heap.size + (J5.size + (J6.size + J7.size)) = g := ⟨_, rfl⟩
  obtain ⟨W, hW⟩ : ∃ W, (w.plus (J5 ++ (J6 ++ J7)) d7).alloc (.cells #[.int .i64 kx, .int .i64 ky, .int .i64 mx, .int .i64 my] 67) = W := ⟨_, rfl⟩
  have hj : Below w.heap.size w W := by rw [← hW]; ((try simp only [← Array.append_assoc]); repeat' first | with_reducible (first | apply Below.refl | assumption | apply bw_a | apply bw_d | apply bw_n | apply bw_e | apply bw_s | apply bw_p | apply bw_c | apply bw_r) | go_size)
  have e5 : PRC W a5 (rotF K 1).length c5 (rotF K 1) := HE5.out.below (by rw [← hW, ← plus_plus w J5 d5]; ((try simp only [← Array.append_assoc]); repeat' first | with_reducible (first | apply Below.refl | assumption | apply bw_a | apply bw_d | apply bw_n | apply bw_e | apply bw_s | apply bw_p | apply bw_c | apply bw_r) | go_size))
  have e6 : PRC W a6 (rotF M 1).length c6 (rotF M 1) := HE6.out.below (by rw [← hW, ← Array.append_assoc, ← plus_plus w (J5 ++ J6) d6, plus_plus]; ((try simp only [← Array.append_assoc]); repeat' first | with_reducible (first | apply Below.refl | assumption | apply bw_a | apply bw_d | apply bw_n | apply bw_e | apply bw_s | apply bw_p | apply bw_c | apply bw_r) | go_size))
  have k0 : W.cell? ⟨g, 0, none⟩ = some (.int .i64 kx) := by rw [← hW, ← hg]; simp [go_sem]
  have k1 : W.cell? ⟨g, 1, none⟩ = some (.int .i64 ky) := by rw [← hW, ← hg]; simp [go_sem]
  have k2 : W.cell? ⟨g, 2, none⟩ = some (.int .i64 mx) := by rw [← hW, ← hg]; simp [go_sem]
  have k3 : W.cell? ⟨g, 3, none⟩ = some (.int .i64 my) := by rw [← hW, ← hg]; simp [go_sem]
  have lg : g < W.heap.size := World.block_lt_of_cell? _ _ k0
  rw [rot_len, L1.out] at e5
  rw [rot_len, L2.out] at e6
  simp only [rot_len, L1.out, L2.out]
  have HKW := Lib.hid (HK.out.below hj)
  have HMW := Lib.hid (HM.out.below hj)
  have H5 := Lib.hid e5.rd.2
  have H6 := Lib.hid e6.rd.2
  have HJ := Lib.hid hj
  have hjs := hj.size
  rw [hg, hW]
  clear hg hW HE5 HE6 HFr HFs HBM e5 e6 hj
  go_wp2_with fail
  go_loopw [26] (fun x wr => MtO W K M x wr) (fun x _ => n - (intOf x).toNat)
  case atStart => exact ⟨0, rfl, by omega, fun j hj => absurd hj (by omega), #[], _, (plus_nil _).symm⟩
  case round =>
    obtain ⟨i, rfl, i0, hi, J, d, rfl⟩ := hrel
    rw [L1.out] at i0
    have HI := Lib.hid hi
    clear hi
    by_cases hlt : i < n
    · rcases HKW.out.rd.2 with h | ⟨b1, o1, rfl, hc1⟩
      · omega
      rcases H5.out with h | ⟨b5, o5, rfl, hc5⟩
      · omega
      obtain ⟨p1, p2⟩ := hc1 i hlt
      obtain ⟨q1, q2⟩ := hc5 i hlt
      rw [rot_next (by rw [L1.out]; exact hlt), L1.out] at q1 q2
      have hin : (i + 1) % n < n := Nat.mod_lt _ (by omega)
      have mem1 := OK.out _ (getD_in (K := K) (k := i) (by rw [L1.out]; exact hlt))
      have mem2 := OK.out _ (getD_in (K := K) (k := (i + 1) % n) (by rw [L1.out]; exact hin))
      have HOV := Lib.hid (fun k => show overAt K M i k = decide (2 ≤ meetQ (K.getD i (0, 0)) (K.getD ((i + 1) % n) (0, 0)) (M.getD k (0, 0)) (M.getD ((k + 1) % m) (0, 0))) by unfold overAt; rw [L1.out, L2.out])
      obtain ⟨u, v, hx⟩ : ∃ u v : Int, K.getD i (0, 0) = (u, v) := ⟨_, _, rfl⟩
      obtain ⟨x, y, hy⟩ : ∃ x y : Int, K.getD ((i + 1) % n) (0, 0) = (x, y) := ⟨_, _, rfl⟩
      rw [hx] at p1 p2 mem1
      rw [hy] at q1 q2 mem2
      rw [hx, hy] at HOV
      simp only at p1 p2 q1 q2
      have hbk : bndOk [(u, v), (x, y)] = true := by
        unfold bndOk allOk okC at *
        simp only [List.all_cons, List.all_nil, Bool.and_true, Bool.and_eq_true, decide_eq_true_eq]
        exact ⟨by simp, mem1, mem2⟩
      have hov := fun k (hk : k < m) => HOB.out (u, v) (x, y) (M.getD k (0, 0)) (M.getD ((k + 1) % m) (0, 0)) (getD_in (by rw [L2.out]; exact hk)) (getD_in (by rw [L2.out]; exact Nat.mod_lt _ (by omega)))
      have hbx := boxV_some hbk
      have HMt := Lib.hid (fun w' => n_ptMeet (lxF [(u, v), (x, y)] [(u, v), (x, y)].length) (lyF [(u, v), (x, y)] [(u, v), (x, y)].length) (hxF [(u, v), (x, y)] [(u, v), (x, y)].length + 1) (hyF [(u, v), (x, y)] [(u, v), (x, y)].length + 1) kx ky mx my w')
      generalize lxF [(u, v), (x, y)] [(u, v), (x, y)].length = A1 at *
      generalize lyF [(u, v), (x, y)] [(u, v), (x, y)].length = A2 at *
      generalize hxF [(u, v), (x, y)] [(u, v), (x, y)].length + 1 = A3 at *
      generalize hyF [(u, v), (x, y)] [(u, v), (x, y)].length + 1 = A4 at *
      generalize meetF A1 A2 A3 A4 kx ky mx my = q at *
      have HQ := Lib.hid (show q = false → ∀ k, k < m → overAt K M i k = false from fun hq k hk => by
        rw [HOV.out k]
        have := hov k hk hq
        exact decide_eq_false (by omega))
      have HB2 := Lib.hid (fun (w' : World) (g' : Nat) (h : PReads w' (some ⟨g', 0, none⟩) 2 [(u, v), (x, y)]) => show Calls Tryz.prog 44 #[.slice (some ⟨g', 0, none⟩) 2 2] w' fun e w'' => e = .returned (.tuple #[.agg #[.int .i64 A1, .int .i64 A2, .int .i64 A3, .int .i64 A4], .bool true]) ∧ Junk w' w'' by
        have := n_ptBounds w' _ 2 2 _ h (by decide)
        rw [hbx, hbk] at this
        exact this)
      unfold bxV at HMt
      have lb1 : b1 < W.heap.size := World.block_lt_of_cell? _ _ p1
      have lb5 : b5 < W.heap.size := World.block_lt_of_cell? _ _ q1
      have i1 : (i : Int) < (n : Int) := by omega
      clear hc1 hc5 hx hy hov hbx hbk mem1 mem2
      go_upto_region 6 with fail
      obtain ⟨gx, hgx⟩ : ∃ gx, W.heap.size + J.size = gx := ⟨_, rfl⟩
      obtain ⟨X, hX⟩ : ∃ X, (W.plus J d).alloc (.cells #[.int .i64 u, .int .i64 v] 42) = X := ⟨_, rfl⟩
      have hWX : Below W.heap.size W X := by rw [← hX]; ((try simp only [← Array.append_assoc]); repeat' first | with_reducible (first | apply Below.refl | assumption | apply bw_a | apply bw_d | apply bw_n | apply bw_e | apply bw_s | apply bw_p | apply bw_c | apply bw_r) | go_size)
      have x0 : X.cell? ⟨gx, 0, none⟩ = some (.int .i64 u) := by rw [← hX, ← hgx]; simp [go_sem]
      have x1 : X.cell? ⟨gx, 1, none⟩ = some (.int .i64 v) := by rw [← hX, ← hgx]; simp [go_sem]
      have y0 := (World.cell?_of_block (hWX.block _ lb5)).trans q1
      have y1 := (World.cell?_of_block (hWX.block _ lb5)).trans q2
      have z0 := (World.cell?_of_block (hWX.block _ lg)).trans k0
      have z1 := (World.cell?_of_block (hWX.block _ lg)).trans k1
      have z2 := (World.cell?_of_block (hWX.block _ lg)).trans k2
      have z3 := (World.cell?_of_block (hWX.block _ lg)).trans k3
      have lx := World.block_lt_of_cell? _ _ x0
      have ly := World.block_lt_of_cell? _ _ y0
      have lz := World.block_lt_of_cell? _ _ z0
      have HX := Lib.hid hWX
      rw [hgx, hX]
      clear hgx hX hWX p1 p2 q1 q2
      go_cut [11] from 31 to 40 (fun t wx => BxP X A1 A2 A3 A4 t wx)
      case first =>
        go_region_held3 (fun w' => w'.cell? ⟨gx, 0, none⟩ = some (.int .i64 u) ∧ w'.cell? ⟨gx, 1, none⟩ = some (.int .i64 v) ∧ w'.cell? ⟨b5, o5 + i * 2, none⟩ = some (.int .i64 x) ∧ w'.cell? ⟨b5, o5 + i * 2 + 1, none⟩ = some (.int .i64 y)) (first | (refine ⟨?_, ?_, ?_, ?_⟩ <;> (simp [go_sem, *]; done))) (first
          | (go_simp; go_at_call 44; (refine (HB2.out _ _ (preads_two (by simp [go_sem]) (by simp [go_sem]) (by simp [go_sem]) (by simp [go_sem]))).mono ?_); rintro e w1 ⟨rfl, J7, d7, rfl⟩; go_simp))
        all_goals go_wp2_with fail
        all_goals go_meet
        all_goals exact ⟨_, rfl, by simp [go_sem], by simp [go_sem], by simp [go_sem], by simp [go_sem], cls_of (junk_of_below (by (repeat' first | with_reducible (first | apply Below.refl | assumption | apply bw_a | apply bw_d | apply bw_n | apply bw_p | apply bw_c | apply bw_r) | go_size)))⟩
      case rest =>
      obtain ⟨gb, rfl, s0, s1, s2, s3, J8, d8, rfl⟩ := hcut
      have ls := World.block_lt_of_cell? _ _ s0
      cases q with
      | false =>
        have HN := Lib.hid (show ∀ j, j < i + 1 → ∀ k, k < M.length → overAt K M j k = false from fun j hj l hl => by
          by_cases hji : j = i
          · subst hji; exact HQ.out rfl l (by rw [L2.out] at hl; exact hl)
          · exact HI.out j (by omega) l hl)
        go_wp2_with (go_at_call 129; refine (HMt.out _).mono ?_; rintro e w1 ⟨rfl, J9, d9, rfl⟩)
        go_roundw
        case rel => exact ⟨i + 1, by go_num, by rw [L1.out]; omega, HN.out, cls_of (junk_of_below (HX.out.trans ((show Below X.heap.size X _ by ((try simp only [← Array.append_assoc]); repeat' first | with_reducible (first | apply Below.refl | assumption | apply bw_a | apply bw_d | apply bw_n | apply bw_e | apply bw_s | apply bw_p | apply bw_c | apply bw_r) | go_size)).mono HX.out.size)))⟩
        case measure => simp [intOf]; omega
      | true =>
        go_wp2_with (go_at_call 129; refine (HMt.out _).mono ?_; rintro e w1 ⟨rfl, J9, d9, rfl⟩)
        go_loopw [47] (fun x wr => MtI X K M i x wr) (fun x _ => m - (intOf x).toNat)
        case atStart => exact ⟨0, rfl, by omega, fun j hj => absurd hj (by omega), _, _, rfl⟩
        case round =>
          obtain ⟨k, rfl, kk, hk, J2, d2, rfl⟩ := hrel
          rw [L2.out] at kk
          have HKk := Lib.hid hk
          clear hk
          by_cases hlt2 : k < m
          · rcases HMW.out.rd.2 with h | ⟨b2, o2, rfl, hc2⟩
            · omega
            rcases H6.out with h | ⟨b6, o6, rfl, hc6⟩
            · omega
            obtain ⟨p1, p2⟩ := hc2 k hlt2
            obtain ⟨q1, q2⟩ := hc6 k hlt2
            rw [rot_next (by rw [L2.out]; exact hlt2), L2.out] at q1 q2
            have hov := HOV.out k
            obtain ⟨s, t, hz⟩ : ∃ u v : Int, M.getD k (0, 0) = (u, v) := ⟨_, _, rfl⟩
            obtain ⟨f, h, hv⟩ : ∃ x y : Int, M.getD ((k + 1) % m) (0, 0) = (x, y) := ⟨_, _, rfl⟩
            rw [hz] at p1 p2
            rw [hv] at q1 q2
            rw [hz, hv] at hov
            simp only at p1 p2 q1 q2
            have r1 := (World.cell?_of_block (HX.out.block _ (World.block_lt_of_cell? _ _ p1))).trans p1
            have r2 := (World.cell?_of_block (HX.out.block _ (World.block_lt_of_cell? _ _ p2))).trans p2
            have r3 := (World.cell?_of_block (HX.out.block _ (World.block_lt_of_cell? _ _ q1))).trans q1
            have r4 := (World.cell?_of_block (HX.out.block _ (World.block_lt_of_cell? _ _ q2))).trans q2
            have hb2 := World.block_lt_of_cell? _ _ r1
            have hb6 := World.block_lt_of_cell? _ _ r3
            have HM2 := Lib.hid (fun w' => n_crMeets u v x y s t f h w')
            have hrg := meet_range (a := (u, v)) (b := (x, y)) (c := (s, t)) (d := (f, h))
            generalize meetQ (u, v) (x, y) (s, t) (f, h) = r at *
            have HOV2 := Lib.hid hov
            unfold pt at HM2
            have i3 : (k : Int) < (m : Int) := by omega
            clear hc2 hc6 hz hv hov p1 p2 q1 q2
            go_upto_region 11 with fail
            refine region_quiet_all (C := Cls ((X.plus J2 d2).alloc (.cells #[.int .i64 s, .int .i64 t] 42))) (by kernel_rfl) (by kernel_rfl) (cls_drawn _) ?_
            repeat (first | (refine qw_skip (by rfl) ?_; simp only [Act.put, List.setIfInBounds_toArray, List.set_cons_succ, List.set_cons_zero]) | (refine qw_want (by rfl) (fun K hK => ?_); go_simp; first | (refine hK _ ?_; clear hK K) | (apply Exists.intro; refine ⟨?_, hK _ ?_⟩; (rintro w3_ ⟨J3_, d3_, rfl⟩; first | (with_reducible exact rfl) | (go_simp; with_reducible exact rfl) | (go_simp; (first | (with_reducible refine (HM2.out _).mono ?_)); rintro e_ w_ ⟨rfl, J4_, d4_, rfl⟩; exact ⟨rfl, J3_ ++ J4_, d4_, by simp only [plus_plus, Array.append_assoc]⟩)); clear hK K)))
            refine qw_nil ?_
            rintro w7 ⟨J3, d3, rfl⟩
            by_cases h2 : 2 ≤ r
            · have HN := Lib.hid (show R = true by rw [← HR.out]; exact rmeet_hit (show i < K.length by rw [L1.out]; exact hlt) (show k < M.length by rw [L2.out]; exact hlt2) (by rw [HOV2.out, decide_eq_true h2]))
              rcases (show r = 2 ∨ r = 3 by omega) with rfl | rfl
              all_goals
                clear h2 hrg
                go_wp2_with fail
                go_ret
                exact ⟨congrArg (fun z => Ending.returned (.bool z)) HN.out.symm, junk_of_below (HJ.out.trans ((HX.out.trans ((show Below X.heap.size X _ by ((try simp only [← Array.append_assoc]); repeat' first | with_reducible (first | apply Below.refl | assumption | apply bw_a | apply bw_d | apply bw_n | apply bw_e | apply bw_s | apply bw_p | apply bw_c | apply bw_r) | go_size)).mono HX.out.size)).mono hjs))⟩
            · have HN := Lib.hid (show ∀ j, j < k + 1 → overAt K M i j = false from fun j hj => by
                by_cases hjk : j = k
                · subst hjk; rw [HOV2.out, decide_eq_false h2]
                · exact HKk.out j (by omega))
              rcases (show r = 0 ∨ r = 1 by omega) with rfl | rfl
              all_goals
                clear h2 hrg
                go_wp2_with fail
                go_roundw
                case rel => exact ⟨k + 1, by go_num, by rw [L2.out]; omega, HN.out, cls_of (junk_of_below (by (repeat' first | with_reducible (first | apply Below.refl | assumption | apply bw_a | apply bw_d | apply bw_n | apply bw_p | apply bw_c | apply bw_r) | go_size)))⟩
                case measure => simp [intOf]; omega
          · have hkm : k = m := by omega
            have HN := Lib.hid (show ∀ j, j < i + 1 → ∀ k, k < M.length → overAt K M j k = false from fun j hj l hl => by
              by_cases hji : j = i
              · subst hji; exact HKk.out l (by rw [L2.out] at hl; omega)
              · exact HI.out j (by omega) l hl)
            have i3 : ¬ (k : Int) < (m : Int) := by omega
            go_wp2_with fail
            go_roundw
            case rel => exact ⟨i + 1, by go_num, by rw [L1.out]; omega, HN.out, cls_of (junk_of_below (HX.out.trans ((Junk.below ⟨_, _, rfl⟩).mono HX.out.size)))⟩
            case measure => simp [intOf]; omega
    · have HE := Lib.hid (show R = false by rw [← HR.out]; exact rmeet_not fun j hj => HI.out j (by rw [L1.out] at hj; omega))
      have i1 : ¬ (i : Int) < (n : Int) := by omega
      go_wp2_with fail
      go_ret
      exact ⟨congrArg (fun z => Ending.returned (.bool z)) HE.out.symm, junk_of_below (HJ.out.trans ((Junk.below ⟨_, _, rfl⟩).mono hjs))⟩
end

section
set_option linter.unusedVariables false
set_option linter.unusedSimpArgs false
open Go.RowKit
theorem filt_one {R : List (List Pt)} {k : Nat} (hk : k < R.length) (p : Pt) : regQ p (R.take (k + 1)) = !(regQ p (R.take k) == inQ p (R.getD k [])) := by
  have h := filt_step hk (inQ p)
  unfold regQ
  rw [h]
  generalize ((R.take k).filter (inQ p)).length = q
  cases inQ p (R.getD k []) with
  | true =>
    show decide ((q + 1) % 2 = 1) = !(decide (q % 2 = 1) == true)
    by_cases h2 : q % 2 = 1
    · rw [decide_eq_true h2, decide_eq_false (by omega)]; rfl
    · rw [decide_eq_false h2, decide_eq_true (by omega)]; rfl
  | false =>
    show decide ((q + 0) % 2 = 1) = !(decide (q % 2 = 1) == false)
    by_cases h2 : q % 2 = 1
    · rw [decide_eq_true h2, decide_eq_true (by omega)]; rfl
    · rw [decide_eq_false h2, decide_eq_false (by omega)]; rfl
def RoAt (W : World) (p : Pt) (R : List (List Pt)) (x y : Value) (wr : World) : Prop := ∃ k : Nat, y = .int .i64 (k : Int) ∧ x = .bool (regQ p (R.take k)) ∧ k ≤ R.length ∧ Cls W wr
set_option maxRecDepth 100000 in
set_option maxHeartbeats 2000000 in
theorem c_reIn (px py : Int) (w : World) (a : Option Addr) (n ca : Nat) (R : List (List Pt)) (hR : GRC w a n ca R) (hs : n ≤ 1000) (hl : ∀ K ∈ R, K.length ≤ 100000) :
    Calls Tryz.prog 25 #[pt px py, .agg #[.slice a n ca]] w fun e w' => e = .returned (.bool (regQ (px, py) R)) ∧ Junk w w' := by
  have L1 := Lib.hid hR.len
  have HK := Lib.hid hR.cells
  have HL := Lib.hid hl
  unfold pt
  obtain ⟨B, hB⟩ : ∃ B, regQ (px, py) R = B := ⟨_, rfl⟩
  rw [hB]
  have HB := Lib.hid hB
  clear hR hl hB
  go_enter Tryz.func25, Tryz.ntmps25
  go_wp2_with fail
  obtain ⟨W, hW⟩ : ∃ W, (w.alloc (.cells #[.int .i64 px, .int .i64 py] 42)).alloc (.cells #[.slice a n ca] 28) = W := ⟨_, rfl⟩
  have c0 : W.cell? ⟨w.heap.size, 0, none⟩ = some (.int .i64 px) := by rw [← hW]; simp [go_sem]
  have c1 : W.cell? ⟨w.heap.size, 1, none⟩ = some (.int .i64 py) := by rw [← hW]; simp [go_sem]
  have c2 : W.cell? ⟨w.heap.size + 1, 0, none⟩ = some (.slice a n ca) := by rw [← hW]; simp [go_sem]
  have hj : Below w.heap.size w W := by rw [← hW]; (repeat' first | with_reducible (first | apply Below.refl | assumption | apply bw_a | apply bw_d | apply bw_n | apply bw_p | apply bw_c | apply bw_r) | go_size)
  have l0 : w.heap.size < W.heap.size := World.block_lt_of_cell? _ _ c0
  have l2 : w.heap.size + 1 < W.heap.size := World.block_lt_of_cell? _ _ c2
  rw [hW]
  clear hW
  go_loopw [5, 11] (fun x y wr => RoAt W (px, py) R x y wr) (fun _ y _ => n - (intOf y).toNat)
  case atStart => exact ⟨0, rfl, rfl, by omega, #[], _, (plus_nil _).symm⟩
  case round =>
    obtain ⟨k, rfl, rfl, k1, J, d, rfl⟩ := hrel
    rw [L1.out] at k1
    by_cases hlt : k < n
    · rcases HK.out with h | ⟨b, o, rfl, hc⟩
      · omega
      obtain ⟨x, m, c, p1, hp⟩ := hc k hlt
      have hkR : k < R.length := by rw [L1.out]; exact hlt
      have hm : m ≤ 100000 := by rw [← hp.rd.1]; exact HL.out _ (by rw [List.getD_eq_getElem?_getD, List.getElem?_eq_getElem hkR]; exact List.getElem_mem hkR)
      have hN := filt_one hkR (px, py)
      have hb : b < w.heap.size := World.block_lt_of_cell? _ _ p1
      have s1 := (World.cell?_of_block (hj.block _ hb)).trans p1
      have hbW : b < W.heap.size := World.block_lt_of_cell? _ _ s1
      have hpW := hp.below hj
      have HC := Lib.hid (fun (J : Array Obj) (d : Nat) => c_inInL px py (W.plus J d) x m c (R.getD k []) (hpW.below (Junk.below ⟨J, d, rfl⟩)) hm)
      unfold pt at HC
      generalize inQ (px, py) (R.getD k []) = g at *
      have i1 : (k : Int) < (n : Int) := by omega
      have HNN := Lib.hid hN
      clear hc hN p1 hp hpW hm
      generalize regQ (px, py) (R.take k) = q at *
      go_wp2_with (go_at_call 42; refine (HC.out _ _).mono ?_; rintro e w1 ⟨rfl, J3, d3, rfl⟩)
      go_roundw
      case rel => exact ⟨k + 1, by go_num, by rw [HNN.out], by rw [L1.out]; omega, _, _, rfl⟩
      case measure => simp [intOf]; omega
    · obtain rfl : k = n := by omega
      rw [List.take_of_length_le (by rw [L1.out]; omega)]
      have i1 : ¬ (k : Int) < (k : Int) := by omega
      rw [HB.out]
      go_wp2_with fail
      go_ret
      exact ⟨rfl, junk_of_below (hj.trans ((Junk.below ⟨_, _, rfl⟩).mono hj.size))⟩
def ClAt (w : World) (R : List (List Pt)) (s i : Value) (wr : World) : Prop := ∃ k : Nat, i = .int .i64 (k : Int) ∧ s = .int .i64 ((R.take k).flatten.length : Nat) ∧ k ≤ R.length ∧ wr = w
set_option maxRecDepth 100000 in
set_option maxHeartbeats 4000000 in
theorem c_slConcatG (w : World) (a : Option Addr) (n ca : Nat) (R : List (List Pt)) (hR : GRC w a n ca R) (hs : n ≤ 1000) (hl : R.flatten.length ≤ 100000) :
    Calls Tryz.prog 45 #[.slice a n ca] w fun e w' => (∃ v, e = .returned v ∧ w'.ownsRow w.heap.size 42 2 v R.flatten.length (pcells R.flatten)) ∧ Below w.heap.size w w' := by
  have L1 := Lib.hid hR.len
  have HR := Lib.hid hR
  have HGr := Lib.hid (fun w' m hm => n_slGrow w' m hm)
  obtain ⟨fn, hfn⟩ : ∃ fn, R.flatten.length = fn := ⟨_, rfl⟩
  have HFN := Lib.hid hfn
  rw [hfn] at hl ⊢
  clear hR hfn
  go_enter Tryz.func45, Tryz.ntmps45
  go_wp2_with fail
  go_loopw [3, 11] (fun s i wr => ClAt w R s i wr) (fun _ i _ => n - (intOf i).toNat)
  case atStart => exact ⟨0, rfl, rfl, by omega, rfl⟩
  case round =>
    obtain ⟨k, rfl, rfl, k1, rfl⟩ := hrel
    rw [L1.out] at k1
    by_cases hlt : k < n
    · rcases HR.out.cells with h | ⟨b, o, rfl, hc⟩
      · omega
      obtain ⟨x, m, c, p1, hp⟩ := hc k hlt
      have hkR : k < R.length := by rw [L1.out]; exact hlt
      have hF := flat_step hkR
      have hle := flat_le (R := R) (k + 1)
      rw [hF, List.length_append, hp.rd.1, HFN.out] at hle
      have HS := Lib.hid (show (R.take (k + 1)).flatten.length = (R.take k).flatten.length + m by rw [hF, List.length_append, hp.rd.1])
      generalize (R.take k).flatten.length = q at *
      have e2 : ¬ ((q : Int) + (m : Int) < 0) := by omega
      have w1 : IntKind.i64.wrap ((q : Int) + (m : Int)) = (q : Int) + (m : Int) := by simp [IntKind.wrap, IntKind.signed, IntKind.bits]; omega
      have i1 : (k : Int) < (n : Int) := by omega
      clear hc hp hF hle
      go_wp2_with fail
      go_roundw
      case rel => exact ⟨k + 1, by go_num, by rw [HS.out]; push_cast; rfl, by rw [L1.out]; omega, rfl⟩
      case measure => simp [intOf]; omega
    · obtain rfl : k = n := by omega
      rw [List.take_of_length_le (by rw [L1.out]; omega), HFN.out]
      have i1 : ¬ (k : Int) < (k : Int) := by omega
      obtain ⟨W, rfl⟩ : ∃ W : World, W = wr := ⟨_, rfl⟩
      go_wp2_with (go_at_call 73; (refine (HGr.out _ fn (by omega)).mono ?_); rintro e w1 ⟨⟨v, rfl, hv⟩, hB⟩; have HV := Lib.hid hv; have HB := Lib.hid hB; clear hv hB)
      go_loopw [6, 27] (fun v i wr => BxAt W R v i wr) (fun _ i _ => k - (intOf i).toNat)
      case atStart => exact ⟨0, rfl, by omega, HV.out, HB.out⟩
      case round =>
        obtain ⟨j, rfl, k1, hown, hB⟩ := hrel
        rw [L1.out] at k1
        have hsz := hB.size
        by_cases hlt : j < k
        · rcases HR.out.cells with h | ⟨b, o, rfl, hc⟩
          · omega
          obtain ⟨x, m, c, p1, hp⟩ := hc j hlt
          have hkR : j < R.length := by rw [L1.out]; exact hlt
          have hbW : b < W.heap.size := World.block_lt_of_cell? _ _ p1
          have s1 := (World.cell?_of_block (hB.block _ hbW)).trans p1
          have hle := flat_le (R := R) (j + 1)
          rw [flat_step hkR, List.length_append, hp.rd.1, HFN.out] at hle
          have hF := flat_step hkR
          obtain ⟨Kk, hKk⟩ : ∃ Kk, R.getD j [] = Kk := ⟨_, rfl⟩
          obtain ⟨Fk, hFk⟩ : ∃ Fk, (R.take j).flatten = Fk := ⟨_, rfl⟩
          rw [hKk] at hp hF
          rw [hFk] at hF hle hown
          have HPR := Lib.hid (hp.below hB)
          have HF := Lib.hid hF
          have HM := Lib.hid hp.rd.1
          have HOW := Lib.hid hown
          obtain ⟨fl, hfl⟩ : ∃ fl, Fk.length = fl := ⟨_, rfl⟩
          have hle2 : fl + m ≤ 100000 := by omega
          have HFL := Lib.hid hfl
          rw [hfl] at HOW
          have HB2 := Lib.hid hB
          obtain ⟨wo, rfl⟩ : ∃ wo : World, wo = wr := ⟨_, rfl⟩
          have lb : b < wo.heap.size := Nat.lt_of_lt_of_le hbW hsz
          have i2 : (j : Int) < (k : Int) := by omega
          clear hc p1 hp hown hB hle hF hKk hFk hfl i1
          go_wp2_with (at_builtin; refine wpList_pall rfl _ _ rfl W.heap.size _ _ Fk rfl HOW.out x m c Kk rfl HPR.out.ok HPR.out.rd (by omega) (by omega) ?_; intro v' w' hown' hg')
          go_roundw
          case rel => exact ⟨j + 1, by go_num, by rw [L1.out]; omega, by rw [HF.out, List.length_append, HM.out, HFL.out]; exact hown', grown_below (B := W.heap.size) (a := W) HB2.out hg' (by omega) (powns_block HOW.out)⟩
          case measure => simp [intOf]; omega
        · obtain rfl : j = k := by omega
          rw [List.take_of_length_le (by rw [L1.out]; omega), HFN.out] at hown
          have HOW := Lib.hid hown
          have HB2 := Lib.hid hB
          clear hown hB
          go_wp2_with fail
          go_ret
          exact ⟨⟨_, rfl, HOW.out⟩, HB2.out⟩
set_option maxRecDepth 100000 in
set_option maxHeartbeats 2000000 in
theorem c_reBox (w : World) (a : Option Addr) (n ca : Nat) (R : List (List Pt)) (hR : GRC w a n ca R) (hs : n ≤ 1000) (hl : R.flatten.length ≤ 100000) :
    Calls Tryz.prog 30 #[.agg #[.slice a n ca]] w fun e w' => e = .returned (.tuple #[boxV R.flatten, .bool (bndOk R.flatten)]) ∧ Junk w w' := by
  have HR := Lib.hid hR
  obtain ⟨fl, hfl⟩ : ∃ fl, R.flatten.length = fl := ⟨_, rfl⟩
  have HCc := Lib.hid (fun (w' : World) h => show Calls Tryz.prog 45 #[.slice a n ca] w' fun e w'' => (∃ v, e = .returned v ∧ w''.ownsRow w'.heap.size 42 2 v fl (pcells R.flatten)) ∧ Below w'.heap.size w' w'' by rw [← hfl]; exact c_slConcatG w' a n ca R h hs hl)
  obtain ⟨x1, x2, x3, x4, hx⟩ : ∃ x1 x2 x3 x4, boxV R.flatten = bxV x1 x2 x3 x4 := ⟨_, _, _, _, rfl⟩
  obtain ⟨B0, hb0⟩ : ∃ B0, bndOk R.flatten = B0 := ⟨_, rfl⟩
  rw [hx, hb0]
  have HBd := Lib.hid (fun w' am cm h => show Calls Tryz.prog 44 #[.slice am fl cm] w' fun e w'' => e = .returned (.tuple #[bxV x1 x2 x3 x4, .bool B0]) ∧ Junk w' w'' by
    have := n_ptBounds w' am fl cm R.flatten h (by omega)
    rw [hx, hb0] at this
    exact this)
  unfold bxV at *
  clear hR hx hb0 hfl hl
  go_enter Tryz.func30, Tryz.ntmps30
  go_upto_region 1 with fail
  obtain ⟨W, hW⟩ : ∃ W, (w.alloc (.cells #[.slice a n ca] 28)).alloc (.cells #[.int .i64 0, .int .i64 0, .int .i64 0, .int .i64 0] 67) = W := ⟨_, rfl⟩
  have c0 : W.cell? ⟨w.heap.size, 0, none⟩ = some (.slice a n ca) := by rw [← hW]; simp [go_sem]
  have bB : Blk W (w.heap.size + 1) #[.int .i64 0, .int .i64 0, .int .i64 0, .int .i64 0] 67 := by
    rw [← hW]
    have := Blk.new (w.alloc (.cells #[.slice a n ca] 28)) #[.int .i64 0, .int .i64 0, .int .i64 0, .int .i64 0] 67
    rwa [World.size_alloc] at this
  have hj : Below w.heap.size w W := by rw [← hW]; (repeat' first | with_reducible (first | apply Below.refl | assumption | apply bw_a | apply bw_d | apply bw_n | apply bw_p | apply bw_c | apply bw_r) | go_size)
  have HRW := Lib.hid (HR.out.below hj)
  have HBW := Lib.hid bB
  have m0 := hj.size
  rw [hW]
  clear hW HR bB
  go_wp2_with (first
    | (go_at_call 45; (refine (HCc.out _ HRW.out).mono ?_); rintro e w1 ⟨⟨v, rfl, hv⟩, hB⟩; obtain ⟨am, cm, rfl, hm⟩ := prc_owns hv; have HPM := Lib.hid hm; have HBB := Lib.hid (HBW.out.below hB); have HB := Lib.hid hB; have f0 := HBB.out.cell 0; have f1 := HBB.out.cell 1; have f2 := HBB.out.cell 2; have f3 := HBB.out.cell 3; have g0 := HBB.out.frozen 0; have g1 := HBB.out.frozen 1; have g2 := HBB.out.frozen 2; have g3 := HBB.out.frozen 3; have lB := HBB.out.lt; have m1 := hB.size; clear hv hm hB)
    | (go_at_call 44; (refine (HBd.out _ _ _ HPM.out.rd).mono ?_); rintro e w2 ⟨rfl, J6, d6, rfl⟩))
  refine bodyPost_ret (results_box2 rfl _ _ (w.heap.size + 1) _ rfl ((HBB.out.set4 _ _ _ _ _ _).row) rfl) rfl ⟨rfl, junk_of_below ((hj.trans (HB.out.mono hj.size)).trans (set4_below (by omega) (by omega) _ _ _ _ _ _))⟩
def CnAt (w : World) (R : List (List Pt)) (x y : Value) (wr : World) : Prop := ∃ k : Nat, y = .int .i64 (k : Int) ∧ x = .int .i64 (allN (R.take k) : Nat) ∧ k ≤ R.length ∧ wr = w
set_option maxRecDepth 100000 in
set_option maxHeartbeats 2000000 in
theorem n_reCount (w : World) (a : Option Addr) (n ca : Nat) (R : List (List Pt)) (hR : GRC w a n ca R) (hs : n ≤ 1000) (hl : ∀ K ∈ R, K.length ≤ 100000) :
    Calls Tryz.prog 64 #[.slice a n ca] w fun e w' => e = .returned (.int .i64 (allN R : Nat)) ∧ w' = w := by
  have L1 := Lib.hid hR.len
  have HK := Lib.hid hR.cells
  have HL := Lib.hid hl
  clear hR hl
  go_enter Tryz.func64, Tryz.ntmps64
  go_wp2_with fail
  go_loopw [3, 8] (fun x y wr => CnAt w R x y wr) (fun _ y _ => n - (intOf y).toNat)
  case atStart => exact ⟨0, rfl, rfl, by omega, rfl⟩
  case round =>
    obtain ⟨k, rfl, rfl, k1, rfl⟩ := hrel
    rw [L1.out] at k1
    have hle : allN (R.take k) ≤ k * 100000 := by
      have := alln_le (R := R.take k) (B := 100000) fun K hK => HL.out K (List.mem_of_mem_take hK)
      rw [List.length_take] at this
      exact Nat.le_trans this (Nat.mul_le_mul_right _ (by omega))
    have hle2 : k * 100000 ≤ 1000 * 100000 := Nat.mul_le_mul_right _ (by omega)
    by_cases hlt : k < n
    · rcases HK.out with h | ⟨b, o, rfl, hc⟩
      · omega
      obtain ⟨x, m, c, p1, hp⟩ := hc k hlt
      have hkR : k < R.length := by rw [L1.out]; exact hlt
      have hm : m ≤ 100000 := by rw [← hp.rd.1]; exact HL.out _ (by rw [List.getD_eq_getElem?_getD, List.getElem?_eq_getElem hkR]; exact List.getElem_mem hkR)
      have HS := Lib.hid (show allN (R.take (k + 1)) = allN (R.take k) + m by rw [alln_step hkR, hp.rd.1])
      generalize allN (R.take k) = q at *
      have i3 : (k : Int) < (n : Int) := by omega
      have w1 : IntKind.i64.wrap ((q : Int) + (m : Int)) = (q : Int) + (m : Int) := by simp [IntKind.wrap, IntKind.signed, IntKind.bits]; omega
      clear hc hp hm hle hle2
      go_wp2_with fail
      go_roundw
      case rel => exact ⟨k + 1, by go_num, by rw [HS.out]; push_cast; rfl, by rw [L1.out]; omega, rfl⟩
      case measure => simp [intOf]; omega
    · obtain rfl : k = n := by omega
      rw [List.take_of_length_le (by rw [L1.out]; omega)]
      have i3 : ¬ (k : Int) < (k : Int) := by omega
      clear hle hle2
      go_wp2_with fail
      go_ret
      exact ⟨rfl, rfl⟩
end

section
set_option linter.unusedVariables false
set_option linter.unusedSimpArgs false
open Go.RowKit
def eachR (R : List (List Pt)) : Int × Nat := match firstQ (badAt R) R.length with | some i => ((checkF (R.getD i [])).1, i) | none => (0, 0)
theorem ring_in {R : List (List Pt)} {k : Nat} (hk : k < R.length) : R.getD k [] ∈ R := by
  rw [List.getD_eq_getElem?_getD, List.getElem?_eq_getElem hk]; exact List.getElem_mem hk
theorem ring_le {R : List (List Pt)} {K : List Pt} (hK : K ∈ R) : K.length ≤ allN R := by
  unfold allN
  induction R with
  | nil => cases hK
  | cons M R ih =>
    rw [List.map_cons, List.sum_cons]
    rcases List.mem_cons.1 hK with rfl | h
    · omega
    · have := ih h; omega
theorem each_fine {R : List (List Pt)} (h : (eachR R).1 = 0) : ∀ K ∈ R, fineQ K := by
  unfold eachR at h
  cases hb : firstQ (badAt R) R.length with
  | some i =>
    rw [hb] at h
    unfold firstQ at hb
    rw [List.find?_range_eq_some] at hb
    have b1 := hb.1
    unfold badAt at b1
    exact absurd h (by simpa using b1)
  | none =>
    rw [first_none] at hb
    intro K hK
    obtain ⟨i, hi, e⟩ := List.mem_iff_getElem.1 hK
    have := hb i hi
    unfold badAt at this
    rw [List.getD_eq_getElem?_getD, List.getElem?_eq_getElem hi] at this
    rw [← e]
    exact check_fine.1 (by simpa using this)
theorem check_tail {R : List (List Pt)} (h1 : ¬ 20 < R.length) (h2 : ¬ R.length = 0) (h3 : ¬ 400 < allN R) : checkR R = if (eachR R).1 = 0 then orFault (firstQ (ringsAt R) R.length) 210 (0, 0) else eachR R := by
  unfold checkR eachR
  rw [if_neg h1, if_neg h2, if_neg h3]
  cases hb : firstQ (badAt R) R.length with
  | some i =>
    unfold firstQ at hb
    rw [List.find?_range_eq_some] at hb
    have b1 := hb.1
    unfold badAt at b1
    rw [if_neg (by simpa using b1)]
  | none => rw [if_pos rfl]
theorem each_hit {R : List (List Pt)} {i : Nat} (hi : i < R.length) (h : badAt R i = true) (hn : ∀ j, j < i → badAt R j = false) : eachR R = ((checkF (R.getD i [])).1, i) := by
  unfold eachR; rw [first_some hi h hn]
theorem each_none {R : List (List Pt)} (h : ∀ j, j < R.length → badAt R j = false) : eachR R = (0, 0) := by
  unfold eachR; rw [first_none.2 h]
set_option maxRecDepth 100000 in
set_option maxHeartbeats 4000000 in
theorem n_reEach (w : World) (a : Option Addr) (n ca : Nat) (R : List (List Pt)) (hR : GRC w a n ca R) (hs : n ≤ 1000) (hl : ∀ K ∈ R, K.length ≤ 400) :
    Calls Tryz.prog 65 #[.slice a n ca] w fun e w' => e = .returned (fltV (eachR R)) ∧ Junk w w' := by
  have L1 := Lib.hid hR.len
  obtain ⟨V, hV⟩ : ∃ V, eachR R = V := ⟨_, rfl⟩
  rw [hV]
  have HV := Lib.hid hV
  have HC := Lib.hid hR.cells
  have HL := Lib.hid hl
  clear hR hl hV
  go_enter Tryz.func65, Tryz.ntmps65
  go_wp2_with fail
  go_loopw [8] (fun x wr => GsAt (w.alloc (.cells #[.int .i64 0, .int .i64 0] 33)) (badAt R) n x wr) (fun x _ => n - (intOf x).toNat)
  case atStart => exact ⟨0, rfl, by omega, fun j hj => by omega, #[], _, (plus_nil _).symm⟩
  case round =>
    obtain ⟨i, rfl, k2, hk, J1, d1, rfl⟩ := hrel
    have HB1 := Lib.hid hk
    clear hk
    by_cases hlt : i < n
    · rcases HC.out with h | ⟨b, o, rfl, hc⟩
      · omega
      obtain ⟨x, m, c, p1, hp⟩ := hc i hlt
      have hkR : i < R.length := by rw [L1.out]; exact hlt
      have hm : m ≤ 400 := by rw [← hp.rd.1]; exact HL.out _ (ring_in hkR)
      have hbw : b < w.heap.size := World.block_lt_of_cell? _ _ p1
      have HCk := Lib.hid (fun w' h => c_rgCheck w' x m c (R.getD i []) h hm)
      have HP := Lib.hid hp
      have HBd := Lib.hid (show badAt R i = !decide ((checkF (R.getD i [])).1 = 0) from rfl)
      obtain ⟨⟨e, t⟩, he⟩ : ∃ r, checkF (R.getD i []) = r := ⟨_, rfl⟩
      rw [he] at HCk HBd
      have HE := Lib.hid he
      unfold fltV at HCk
      simp only at HCk HBd
      have i5 : (i : Int) < (n : Int) := by omega
      clear hc hp hm he
      by_cases h0 : e = 0
      · subst h0
        have HN := Lib.hid (show ∀ j, j < i + 1 → badAt R j = false from fun j hj => by
          by_cases hjk : j = i
          · subst hjk; rw [HBd.out]; rfl
          · exact HB1.out j (by omega))
        go_wp2_with (go_at_call 98; refine (HCk.out _ (HP.out.below (by (repeat' first | with_reducible (first | apply Below.refl | assumption | apply bw_a | apply bw_d | apply bw_n | apply bw_p | apply bw_c | apply bw_r) | go_size)))).mono ?_; rintro e w1 ⟨rfl, J9, d9, rfl⟩)
        go_roundw
        case rel => exact ⟨i + 1, by go_num, by omega, HN.out, cls_of (junk_of_below (by (repeat' first | with_reducible (first | apply Below.refl | assumption | apply bw_a | apply bw_d | apply bw_n | apply bw_p | apply bw_c | apply bw_r) | go_size)))⟩
        case measure => simp [intOf]; omega
      · have HE2 := Lib.hid (show V = (e, i) by
          rw [← HV.out, each_hit (show i < R.length by rw [L1.out]; exact hlt) (by rw [HBd.out, decide_eq_false h0]; rfl) HB1.out, HE.out])
        have e5 : (e != 0) = true := by simpa using h0
        clear h0
        go_wp2_with (go_at_call 98; refine (HCk.out _ (HP.out.below (by (repeat' first | with_reducible (first | apply Below.refl | assumption | apply bw_a | apply bw_d | apply bw_n | apply bw_p | apply bw_c | apply bw_r) | go_size)))).mono ?_; rintro e w1 ⟨rfl, J9, d9, rfl⟩)
        refine bodyPost_ret (results_flt rfl _ _ w.heap.size #[.int .i64 e, .int .i64 (i : Int)] rfl (by simp [go_sem]) rfl) rfl ⟨congrArg Ending.returned (show _ = fltV V by rw [HE2.out]; rfl), junk_of_below (by (repeat' first | with_reducible (first | apply Below.refl | assumption | apply bw_a | apply bw_d | apply bw_n | apply bw_p | apply bw_c | apply bw_r) | go_size))⟩
    · have H0 := Lib.hid (show V = (0, 0) by rw [← HV.out]; exact each_none fun j hj => HB1.out j (by rw [L1.out] at hj; omega))
      have i5 : ¬ (i : Int) < (n : Int) := by omega
      go_wp2_with fail
      refine bodyPost_ret (results_flt rfl _ _ w.heap.size #[.int .i64 0, .int .i64 0] rfl (by simp [go_sem]) rfl) rfl ⟨congrArg Ending.returned (show _ = fltV V by rw [H0.out]; rfl), junk_of_below (by (repeat' first | with_reducible (first | apply Below.refl | assumption | apply bw_a | apply bw_d | apply bw_n | apply bw_p | apply bw_c | apply bw_r) | go_size))⟩
def FstR (R : List (List Pt)) (k : Nat) (r : Int × Nat) : Prop := (r = (0, 0) ∧ ∀ j, k ≤ j → j < R.length → ringsAt R j = false) ∨ (r.1 = 210 ∧ k ≤ r.2 ∧ r.2 < R.length ∧ ringsAt R r.2 = true ∧ ∀ j, k ≤ j → j < r.2 → ringsAt R j = false)
theorem fst_start (R : List (List Pt)) : FstR R R.length (0, 0) := .inl ⟨rfl, fun j h1 h2 => by omega⟩
theorem fst_hit {R : List (List Pt)} {k : Nat} (hk : k < R.length) (h : ringsAt R k = true) : FstR R k (210, k) := .inr ⟨rfl, Nat.le_refl _, hk, h, fun j h1 h2 => absurd h2 (by simp only; omega)⟩
theorem fst_not {R : List (List Pt)} {k : Nat} {r : Int × Nat} (h : ringsAt R k = false) (hr : FstR R (k + 1) r) : FstR R k r := by
  rcases hr with ⟨h1, h2⟩ | ⟨h1, h2, h3, h4, h5⟩
  · refine .inl ⟨h1, fun j a b => ?_⟩
    by_cases e : j = k
    · subst e; exact h
    · exact h2 j (by omega) b
  · refine .inr ⟨h1, by omega, h3, h4, fun j a b => ?_⟩
    by_cases e : j = k
    · subst e; exact h
    · exact h5 j (by omega) b
theorem fst_end {R : List (List Pt)} {r : Int × Nat} (hr : FstR R 0 r) : orFault (firstQ (ringsAt R) R.length) 210 (0, 0) = r := by
  rcases hr with ⟨h1, h2⟩ | ⟨h1, h2, h3, h4, h5⟩
  · rw [first_none.2 fun j hj => h2 j (Nat.zero_le _) hj, h1]; rfl
  · rw [first_some h3 h4 fun j hj => h5 j (Nat.zero_le _) hj]
    obtain ⟨e, t⟩ := r
    simp only at h1
    subst h1
    rfl
theorem fine_ok {K : List Pt} (h : fineQ K) : ∀ p ∈ K, okC p = true := fun p hp => by
  obtain ⟨i, hi, e⟩ := List.mem_iff_getElem.1 hp
  have := h.ok i hi
  rwa [List.getD_eq_getElem?_getD, List.getElem?_eq_getElem hi, Option.getD_some, e] at this
def ApO (w : World) (R : List (List Pt)) (x : Value) (wr : World) : Prop := ∃ (k : Nat) (r : Int × Nat), x = .int .i64 ((k : Int) - 1) ∧ k ≤ R.length ∧ FstR R k r ∧ Blk wr w.heap.size #[.int .i64 0, .int .i64 0] 33 ∧ Blk wr (w.heap.size + 1) #[.int .i64 r.1, .int .i64 (r.2 : Int)] 33 ∧ Below w.heap.size w wr
def ApI (W : World) (R : List (List Pt)) (i : Nat) (x : Value) (wr : World) : Prop := ∃ j : Nat, x = .int .i64 (j : Int) ∧ i + 1 + j ≤ R.length ∧ (∀ l, i + 1 ≤ l → l < i + 1 + j → rMeet (R.getD i []) (R.getD l []) = false) ∧ Cls W wr
set_option maxRecDepth 100000 in
set_option maxHeartbeats 4000000 in
theorem n_reApart (w : World) (a : Option Addr) (n ca : Nat) (R : List (List Pt)) (hR : GRC w a n ca R) (hs : n ≤ 1000) (h0 : 0 < n) (hf : ∀ K ∈ R, fineQ K) :
    Calls Tryz.prog 66 #[.slice a n ca] w fun e w' => e = .returned (fltV (orFault (firstQ (ringsAt R) R.length) 210 (0, 0))) ∧ Junk w w' := by
  have L1 := Lib.hid hR.len
  have HF := Lib.hid hf
  have hle := hR.ok.le
  rcases hR.cells with h | ⟨b, o, rfl, hc⟩
  · omega
  have HC := Lib.hid hc
  have hbw : b < w.heap.size := by obtain ⟨x, m, c, p1, _⟩ := hc 0 h0; exact World.block_lt_of_cell? _ _ p1
  have HE := Lib.hid (fun r (h : FstR R 0 r) => fst_end h)
  generalize orFault (firstQ (ringsAt R) R.length) 210 (0, 0) = V at *
  have s0 := fst_start R
  rw [L1.out] at s0
  have HS0 := Lib.hid s0
  clear hR hf hc s0
  have w1 : IntKind.i64.wrap ((n : Int) - 1) = (n : Int) - 1 := by simp [IntKind.wrap, IntKind.signed, IntKind.bits]; omega
  go_enter Tryz.func66, Tryz.ntmps66
  go_wp2_with fail
  go_step3
  go_wp2_with fail
  go_step3
  go_wp2_with fail
  go_loopw [4] (fun x wr => ApO w R x wr) (fun x _ => (intOf x + 1).toNat)
  case atStart => exact ⟨n, (0, 0), rfl, by rw [L1.out]; omega, HS0.out, (Blk.new w _ _).alloc _, blk_new2 (by simp) _ _, by (repeat' first | with_reducible (first | apply Below.refl | assumption | apply bw_a | apply bw_d | apply bw_n | apply bw_p | apply bw_c | apply bw_r) | go_size)⟩
  case round =>
    obtain ⟨k, r, rfl, k1, hr, bR, bF, hB⟩ := hrel
    rw [L1.out] at k1
    have hsz := hB.size
    have hlF := bF.lt
    by_cases hk0 : k = 0
    · subst hk0
      have HV := Lib.hid (HE.out r hr)
      obtain ⟨e, t⟩ := r
      simp only at bF
      have g0 := bF.cell 0
      have g1 := bF.cell 1
      have f0 := bR.frozen 0
      have f1 := bR.frozen 1
      have r0 := bR.cell 0
      have r1 := bR.cell 1
      have lR := bR.lt
      have HBR := Lib.hid bR
      have HB := Lib.hid hB
      clear hr bF bR hB
      go_wp2_with fail
      rw [Exit.noGoto_ret]
      have hB := HB.out
      refine bodyPost_ret (results_flt rfl _ _ w.heap.size #[.int .i64 e, .int .i64 (t : Int)] rfl (((HBR.out.set 0 _).set 1 _).row) rfl) rfl ⟨congrArg Ending.returned (show _ = fltV V by rw [HV.out]; rfl), junk_of_below (by (repeat' first | with_reducible (first | apply Below.refl | assumption | apply bw_a | apply bw_d | apply bw_n | apply bw_p | apply bw_c | apply bw_r) | go_size))⟩
    · obtain ⟨i, rfl⟩ : ∃ i, k = i + 1 := ⟨k - 1, by omega⟩
      obtain ⟨x, mm, c, p1, hp⟩ := HC.out i (by omega)
      have hiR : i < R.length := by rw [L1.out]; omega
      have fi := HF.out _ (ring_in hiR)
      have e1 : ((i + 1 : Nat) : Int) - 1 = (i : Int) := by omega
      rw [e1]
      have HFi := Lib.hid fi
      have HP := Lib.hid (hp.below hB)
      have s1 := (World.cell?_of_block (hB.block _ hbw)).trans p1
      have w2 : IntKind.i64.wrap ((i : Int) + 1) = ((i + 1 : Nat) : Int) := by simp [IntKind.wrap, IntKind.signed, IntKind.bits]; omega
      have w3 : IntKind.i64.wrap ((i : Int) - 1) = (i : Int) - 1 := by simp [IntKind.wrap, IntKind.signed, IntKind.bits]; omega
      have j1 : (0 : Int) ≤ (i : Int) := by omega
      have j2 : (i : Int) ≥ 0 := by omega
      have j3 : (i : Int) < (n : Int) := by omega
      have HI := Lib.hid (And.intro hr (And.intro bR (And.intro bF hB)))
      have lb : b < wr.heap.size := World.block_lt_of_cell? _ _ s1
      clear p1 hp fi e1 hr bR bF hB
      by_cases hcap : i + 1 = ca
      · have hnn : n = i + 1 := by omega
        have HNo := Lib.hid (show ringsAt R i = false from rings_not fun j h1 h2 => by rw [L1.out] at h2; omega)
        subst hnn
        subst hcap
        go_wp2_with fail
        go_loopw [20] (fun x wr' => x = .int .i64 0 ∧ wr' = wr) (fun x _ => 0)
        case atStart => exact ⟨rfl, rfl⟩
        case round =>
          obtain ⟨rfl, rfl⟩ := hrel
          go_wp2_with fail
          go_roundw
          case rel => exact ⟨i, r, rfl, by omega, fst_not HNo.out HI.out.1, HI.out.2.1, HI.out.2.2.1, HI.out.2.2.2⟩
          case measure => simp [intOf]
      · go_wp2_with fail
        obtain ⟨W, rfl⟩ : ∃ W : World, W = wr := ⟨_, rfl⟩
        go_loopw [20] (fun x wr' => ApI W R i x wr') (fun x _ => n - (i + 1) - (intOf x).toNat)
        case atStart => exact ⟨0, rfl, by omega, fun l h1 h2 => by omega, #[], _, (plus_nil _).symm⟩
        case round =>
          obtain ⟨j, rfl, j4, hno, J, d, rfl⟩ := hrel
          rw [L1.out] at j4
          have HNO := Lib.hid hno
          clear hno
          by_cases hlt : j < n - (i + 1)
          · obtain ⟨y, l, f, p2, hq⟩ := HC.out (i + 1 + j) (by omega)
            have hjR : i + 1 + j < R.length := by rw [L1.out]; omega
            have fj := HF.out _ (ring_in hjR)
            have hB := HI.out.2.2.2
            have s2 := (World.cell?_of_block (hB.block _ hbw)).trans p2
            rw [← Nat.add_assoc] at s2
            have hq2 := hq.below hB
            obtain ⟨g, hg⟩ : ∃ g, rMeet (R.getD i []) (R.getD (i + 1 + j) []) = g := ⟨_, rfl⟩
            have HG := Lib.hid hg
            have HM := Lib.hid (fun (J : Array Obj) (d : Nat) => show Calls Tryz.prog 99 #[.slice x mm c, .slice y l f] (W.plus J d) fun e w'' => e = .returned (.bool g) ∧ Junk (W.plus J d) w'' by
              rw [← hg]
              have l1 := HFi.out.long
              have l2 := fj.long
              have l3 := fj.few
              rw [HP.out.rd.1] at l1
              rw [hq.rd.1] at l2 l3
              exact n_reMeet (W.plus J d) x y mm l c f _ _ (HP.out.below (Junk.below ⟨J, d, rfl⟩)) (hq2.below (Junk.below ⟨J, d, rfl⟩)) (by omega) (by omega) (by omega) (fine_ok HFi.out) (fine_ok fj))
            have i5 : (j : Int) < ((n - (i + 1) : Nat) : Int) := by omega
            clear p2 hq hq2 hg fj hB
            cases g with
            | true =>
              have bF := HI.out.2.2.1
              have c0 := bF.cell 0
              have c1 := bF.cell 1
              have g0 := bF.frozen 0
              have g1 := bF.frozen 1
              clear bF
              go_wp2_with (go_at_call 99; refine (HM.out _ _).mono ?_; rintro e w1 ⟨rfl, J9, d9, rfl⟩)
              go_roundw
              case rel =>
                obtain ⟨hr, bR, bF, hB⟩ := HI.out
                exact ⟨i, (210, i), rfl, by omega, fst_hit hiR (rings_hit (by omega) hjR HG.out), set2_other bR _ _ _ _ _ (by omega), bF.set2 _ _ _ _, hB.trans (set2_below (by omega) (by omega) _ _ _ _)⟩
              case measure => simp [intOf]
            | false =>
              have HN := Lib.hid (show ∀ q, i + 1 ≤ q → q < i + 1 + (j + 1) → rMeet (R.getD i []) (R.getD q []) = false from fun q h1 h2 => by
                by_cases e : q = i + 1 + j
                · subst e; exact HG.out
                · exact HNO.out q h1 (by omega))
              go_wp2_with (go_at_call 99; refine (HM.out _ _).mono ?_; rintro e w1 ⟨rfl, J9, d9, rfl⟩)
              go_roundw
              case rel => exact ⟨j + 1, by go_num, by rw [L1.out]; omega, HN.out, cls_of (junk_of_below (by (repeat' first | with_reducible (first | apply Below.refl | assumption | apply bw_a | apply bw_d | apply bw_n | apply bw_p | apply bw_c | apply bw_r) | go_size)))⟩
              case measure => simp [intOf]; omega
          · have HNo := Lib.hid (show ringsAt R i = false from rings_not fun q h1 h2 => HNO.out q h1 (by rw [L1.out] at h2; omega))
            have i5 : ¬ (j : Int) < ((n - (i + 1) : Nat) : Int) := by omega
            go_wp2_with fail
            go_roundw
            case rel =>
              obtain ⟨hr, bR, bF, hB⟩ := HI.out
              have hb9 : Below W.heap.size W (W.plus J d) := Junk.below ⟨_, _, rfl⟩
              exact ⟨i, r, rfl, by omega, fst_not HNo.out hr, bR.below hb9, bF.below hb9, hB.trans (hb9.mono hB.size)⟩
            case measure => simp [intOf]
set_option maxRecDepth 100000 in
set_option maxHeartbeats 4000000 in
theorem c_reCheck (w : World) (a : Option Addr) (n ca : Nat) (R : List (List Pt)) (hR : GRC w a n ca R) (hs : n ≤ 1000) (hl : ∀ K ∈ R, K.length ≤ 100000) :
    Calls Tryz.prog 43 #[.agg #[.slice a n ca]] w fun e w' => e = .returned (fltV (checkR R)) ∧ Junk w w' := by
  obtain ⟨V, hV⟩ : ∃ V, checkR R = V := ⟨_, rfl⟩
  rw [hV]
  have hln := hR.len
  have HR := Lib.hid hR
  by_cases h1 : 20 < n
  · have HE := Lib.hid (show V = (3, 0) by rw [← hV]; unfold checkR; rw [if_pos (by rw [hln]; exact h1)])
    have i1 : (20 : Int) < (n : Int) := by omega
    clear hR hl hV h1 hln
    go_enter Tryz.func43, Tryz.ntmps43
    go_wp2_with fail
    refine bodyPost_ret (results_flt rfl _ _ (w.heap.size + 1) #[.int .i64 3, .int .i64 0] rfl (by simp [go_sem]) rfl) rfl ⟨congrArg Ending.returned (show _ = fltV V by rw [HE.out]; rfl), junk_of_below (by (repeat' first | with_reducible (first | apply Below.refl | assumption | apply bw_a | apply bw_d | apply bw_n | apply bw_p | apply bw_c | apply bw_r) | go_size))⟩
  by_cases h2 : n = 0
  · have HE := Lib.hid (show V = (2, 0) by rw [← hV]; unfold checkR; rw [if_neg (by rw [hln]; exact h1), if_pos (by rw [hln]; exact h2)])
    have i1 : ¬ (20 : Int) < (n : Int) := by omega
    have i2 : ((n : Int) == 0) = true := by rw [beq_iff_eq]; omega
    clear hR hl hV h1 h2 hln
    go_enter Tryz.func43, Tryz.ntmps43
    go_wp2_with fail
    refine bodyPost_ret (results_flt rfl _ _ (w.heap.size + 1) #[.int .i64 2, .int .i64 0] rfl (by simp [go_sem]) rfl) rfl ⟨congrArg Ending.returned (show _ = fltV V by rw [HE.out]; rfl), junk_of_below (by (repeat' first | with_reducible (first | apply Below.refl | assumption | apply bw_a | apply bw_d | apply bw_n | apply bw_p | apply bw_c | apply bw_r) | go_size))⟩
  have HCn := Lib.hid (fun w' h => n_reCount w' a n ca R h hs hl)
  have i1 : ¬ (20 : Int) < (n : Int) := by omega
  have i2 : ((n : Int) == 0) = false := by rw [beq_eq_false_iff_ne]; omega
  by_cases h3 : 400 < allN R
  · have HE := Lib.hid (show V = (211, 0) by rw [← hV]; unfold checkR; rw [if_neg (by rw [hln]; exact h1), if_neg (by rw [hln]; exact h2), if_pos h3])
    have i3 : (400 : Int) < ((allN R : Nat) : Int) := by omega
    generalize allN R = q at *
    clear hR hl hV h1 h2 hln h3
    go_enter Tryz.func43, Tryz.ntmps43
    go_wp2_with (go_at_call 64; refine (HCn.out _ (HR.out.below (by (repeat' first | with_reducible (first | apply Below.refl | assumption | apply bw_a | apply bw_d | apply bw_n | apply bw_p | apply bw_c | apply bw_r) | go_size)))).mono ?_; rintro e w1 ⟨rfl, rfl⟩)
    refine bodyPost_ret (results_flt rfl _ _ (w.heap.size + 1) #[.int .i64 211, .int .i64 0] rfl (by simp [go_sem]) rfl) rfl ⟨congrArg Ending.returned (show _ = fltV V by rw [HE.out]; rfl), junk_of_below (by (repeat' first | with_reducible (first | apply Below.refl | assumption | apply bw_a | apply bw_d | apply bw_n | apply bw_p | apply bw_c | apply bw_r) | go_size))⟩
  have hct := check_tail (R := R) (by omega) (by omega) h3
  rw [hV] at hct
  have HEa := Lib.hid (fun w' h => n_reEach w' a n ca R h hs (fun K hK => by have := ring_le hK; omega))
  have hef := each_fine (R := R)
  have i3 : ¬ (400 : Int) < ((allN R : Nat) : Int) := by omega
  generalize allN R = q at *
  obtain ⟨⟨e, t⟩, he⟩ : ∃ r, eachR R = r := ⟨_, rfl⟩
  rw [he] at HEa hct hef
  unfold fltV at HEa
  simp only at HEa hct hef
  by_cases h4 : e = 0
  · have HAp := Lib.hid (fun w' h => n_reApart w' a n ca R h hs (by omega) (hef h4))
    rw [if_pos h4] at hct
    rw [← hct] at HAp
    subst h4
    obtain ⟨v1, v2⟩ := V
    unfold fltV at HAp ⊢
    simp only at HAp ⊢
    clear hR hl hV h1 h2 h3 hln hct hef he
    go_enter Tryz.func43, Tryz.ntmps43
    go_wp2_with (first
      | (go_at_call 64; refine (HCn.out _ (HR.out.below (by (repeat' first | with_reducible (first | apply Below.refl | assumption | apply bw_a | apply bw_d | apply bw_n | apply bw_p | apply bw_c | apply bw_r) | go_size)))).mono ?_; rintro e w1 ⟨rfl, rfl⟩)
      | (go_at_call 65; refine (HEa.out _ (HR.out.below (by (repeat' first | with_reducible (first | apply Below.refl | assumption | apply bw_a | apply bw_d | apply bw_n | apply bw_p | apply bw_c | apply bw_r) | go_size)))).mono ?_; rintro e w1 ⟨rfl, J1, d1, rfl⟩)
      | (go_at_call 66; refine (HAp.out _ (HR.out.below (by (repeat' first | with_reducible (first | apply Below.refl | assumption | apply bw_a | apply bw_d | apply bw_n | apply bw_p | apply bw_c | apply bw_r) | go_size)))).mono ?_; rintro e w1 ⟨rfl, J2, d2, rfl⟩))
    refine bodyPost_ret (results_flt rfl _ _ (w.heap.size + 1) #[.int .i64 v1, .int .i64 (v2 : Int)] rfl (by simp [go_sem]) rfl) rfl ⟨rfl, junk_of_below (by (repeat' first | with_reducible (first | apply Below.refl | assumption | apply bw_a | apply bw_d | apply bw_n | apply bw_p | apply bw_c | apply bw_r) | go_size))⟩
  · rw [if_neg h4] at hct
    have HE := Lib.hid hct
    have e5 : (e != 0) = true := by simpa using h4
    clear hR hl hV h1 h2 h3 h4 hln hct hef he
    go_enter Tryz.func43, Tryz.ntmps43
    go_wp2_with (first
      | (go_at_call 64; refine (HCn.out _ (HR.out.below (by (repeat' first | with_reducible (first | apply Below.refl | assumption | apply bw_a | apply bw_d | apply bw_n | apply bw_p | apply bw_c | apply bw_r) | go_size)))).mono ?_; rintro e w1 ⟨rfl, rfl⟩)
      | (go_at_call 65; refine (HEa.out _ (HR.out.below (by (repeat' first | with_reducible (first | apply Below.refl | assumption | apply bw_a | apply bw_d | apply bw_n | apply bw_p | apply bw_c | apply bw_r) | go_size)))).mono ?_; rintro e w1 ⟨rfl, J1, d1, rfl⟩))
    refine bodyPost_ret (results_flt rfl _ _ (w.heap.size + 1) #[.int .i64 e, .int .i64 (t : Int)] rfl (by simp [go_sem]) rfl) rfl ⟨congrArg Ending.returned (show _ = fltV V by rw [HE.out]; rfl), junk_of_below (by (repeat' first | with_reducible (first | apply Below.refl | assumption | apply bw_a | apply bw_d | apply bw_n | apply bw_p | apply bw_c | apply bw_r) | go_size))⟩
end

section
set_option linter.unusedVariables false
set_option linter.unusedSimpArgs false
open Go.RowKit Go.ChangeShapes Go.WideShapes Go.ChangeAt Go.Joins
theorem rg_cells : Tryz.prog.cellsOf 28 = 1 := by kernel_rfl
theorem rs_cells : Tryz.prog.cellsOf 26 = 1 := by kernel_rfl
theorem ri_cells : Tryz.prog.cellsOf 23 = 1 := by kernel_rfl
theorem pt_bytes : Tryz.prog.bytesOf 42 = 16 := by kernel_rfl
section
variable {H : Type} {enc : TypeId × Value → H} {w : World} {base : Nat} {spare : Nat → Bool} {held : Bool}
theorem weightsAll_mem {P : Program} {e : TypeId} : ∀ {ds : List (DataW H)} {d : DataW H}, d ∈ ds → ∀ n ∈ d.weights P e, n ∈ DataW.weightsAll P e ds
  | d0 :: ds, d, hd, n, hn => by
    rw [DataW.weightsAll, List.mem_append]
    rcases List.mem_cons.1 hd with rfl | h
    · exact .inl hn
    · exact .inr (weightsAll_mem h n hn)
theorem ring_open {fuel : Nat} {cs : List Value} {x : DataW H × List MemPlace} (h : DataW.trod enc Tryz.prog w base spare held fuel 23 cs = some x) (hz : ∀ n ∈ x.1.weights Tryz.prog 23, n ≤ reachBytes) :
    ∃ a n c K, cs = [.slice a n c] ∧ PRC w a n c K ∧ K.length ≤ 8796093022208 := by
  rcases points_open h with rfl | ⟨a, len, cap, K, rfl, hl, hm, hK⟩
  · exact ⟨none, 0, 0, [], rfl, ⟨points_none w, ⟨Nat.le_refl _, fun _ => rfl⟩⟩, by simp⟩
  · refine ⟨some a, len, cap, _, rfl, ⟨points_at hK, ⟨hl, fun e => by cases e⟩⟩, ?_⟩
    rcases Deep.open_slice Tryz.underlying23 h with ⟨h0, _⟩ | ⟨a', len', cap', m, n, D, Pl, e, hb, hl', hm', hmm, rfl, hx⟩
    · cases h0
    · cases e
      have := hz ((((List.range len).map D).length + ((List.range (m - len)).map fun j => D (len + j)).length) * Tryz.prog.bytesOf 42) (by simp [DataW.weights, Tryz.underlying23])
      rw [pt_bytes] at this
      simp only [List.length_map, List.length_range] at this ⊢
      unfold reachBytes at this
      omega
theorem rings_open {fuel : Nat} {cs : List Value} {x : DataW H × List MemPlace} (h : DataW.trod enc Tryz.prog w base spare held fuel 26 cs = some x) (hz : ∀ n ∈ x.1.weights Tryz.prog 26, n ≤ reachBytes) :
    ∃ a n c R, cs = [.slice a n c] ∧ GRC w a n c R ∧ n ≤ 4611686018427387903 ∧ ∀ K ∈ R, K.length ≤ 8796093022208 := by
  rcases Deep.open_slice1 Tryz.underlying26 ri_cells h with ⟨rfl, _⟩ | ⟨a, len, cap, m, n, V, D, Pl, rfl, hb, hl, hm, hmm, rfl, hx⟩
  · exact ⟨none, 0, 0, [], rfl, grc_none w, by decide, by simp⟩
  · have hlm : len ≤ m := by rw [hmm]; split <;> omega
    have each : ∀ i, i < len → ∃ q : Option Addr × Nat × Nat × List Pt, w.cell? (a.add i) = some (.slice q.1 q.2.1 q.2.2.1) ∧ PRC w q.1 q.2.1 q.2.2.1 q.2.2.2 ∧ q.2.2.2.length ≤ 8796093022208 := by
      intro i hi
      obtain ⟨h1, h2⟩ := hx i (by omega)
      obtain ⟨a', n', c', K, e, hp, hk⟩ := ring_open h2 (fun k hk => hz k (by
        simp only [DataW.weights, Tryz.underlying26, List.mem_cons, List.mem_append]
        exact .inr (.inl (weightsAll_mem (List.mem_map_of_mem (List.mem_range.2 hi)) k hk))))
      simp at e
      exact ⟨(a', n', c', K), by rw [h1, e], hp, hk⟩
    obtain ⟨Q, hQ⟩ := Deep.choose_lt each
    have hln : len ≤ 4611686018427387903 := by
      have := hz ((((List.range len).map D).length + ((List.range (m - len)).map fun j => D (len + j)).length) * Tryz.prog.bytesOf 23) (by simp [DataW.weights, Tryz.underlying26])
      rw [show Tryz.prog.bytesOf 23 = 24 by kernel_rfl] at this
      simp only [List.length_map, List.length_range] at this
      unfold reachBytes at this
      omega
    refine ⟨some a, len, cap, (List.range len).map fun i => (Q i).2.2.2, rfl, ⟨by simp, ⟨hl, fun e => by cases e⟩, ?_⟩, hln, ?_⟩
    · by_cases hz0 : len = 0
      · exact .inl hz0
      · obtain ⟨b, off, sp⟩ := a
        have h1 := (hQ 0 (by omega)).1
        have hsp : sp = none := by
          cases sp with
          | none => rfl
          | some s => unfold Addr.add World.cell? at h1; simp at h1; split at h1 <;> simp_all
        subst hsp
        have ha : ∀ j, (⟨b, off, none⟩ : Addr).add j = ⟨b, off + j, none⟩ := fun j => by unfold Addr.add; split <;> simp_all
        refine .inr ⟨b, off, rfl, fun i hi => ?_⟩
        have := hQ i hi
        rw [ha] at this
        refine ⟨_, _, _, this.1, ?_⟩
        rw [List.getD_eq_getElem?_getD, List.getElem?_map, List.getElem?_range hi]
        exact this.2.1
    · intro K hK
      rw [List.mem_map] at hK
      obtain ⟨i, hi, rfl⟩ := hK
      exact (hQ i (List.mem_range.1 hi)).2.2
end
end
end Go.Proofs.YthphdiigjimchaaGreat

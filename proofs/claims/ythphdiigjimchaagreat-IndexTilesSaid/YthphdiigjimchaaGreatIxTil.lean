/- Indexes: mathematics of the tiles: rows of boxes side by side. The law IndexTiles: the walk (over the package's predicate). The law IndexTiles: any numbers of widths and heights. -/
import Derived.Test.YthphdiigjimchaaGreatIxMath
import Derived.Test.YthphdiigjimchaaGreatIxLaw
import Derived.Test.YthphdiigjimchaaGreatSbTwo
import Derived.Test.YthphdiigjimchaaGreatBnLaw
namespace Go.Proofs.YthphdiigjimchaaGreat
section
set_option linter.unusedVariables false
set_option linter.unusedSimpArgs false
open Go.RowKit
theorem okC_small {x y : Int} (h1 : 0 ≤ x) (h2 : x ≤ 10000) (h3 : 0 ≤ y) (h4 : y ≤ 10000) : okC (x, y) = true := by
  unfold okC
  rw [okP_iff]
  simp only
  omega
theorem box_reg {lx ly hx hy : Int} (h1 : 0 ≤ lx) (h2 : lx < hx) (h3 : hx ≤ 10000) (h4 : 0 ≤ ly) (h5 : ly < hy) (h6 : hy ≤ 10000) : regFine [boxR lx ly hx hy] := by
  rw [← quad_box]
  refine reg_quad (quad_fine h2 (by omega) ?_ ?_ ?_ ?_) (by show 4 ≤ 400; omega) <;> exact okC_small (by omega) (by omega) (by omega) (by omega)
theorem regQ_one (p : Pt) (K : List Pt) : regQ p [K] = inQ p K := by
  unfold regQ
  cases h : inQ p K <;> simp [List.filter, h]
theorem box_has {px py lx ly hx hy : Int} (h1 : 0 ≤ lx) (h2 : lx < hx) (h3 : hx ≤ 10000) (h4 : 0 ≤ ly) (h5 : ly < hy) (h6 : hy ≤ 10000) : regQ (px, py) [boxR lx ly hx hy] = inF px py lx ly hx hy := by
  rw [regQ_one]
  exact in_box_all (okC_small (by omega) (by omega) (by omega) (by omega)) (okC_small (by omega) (by omega) (by omega) (by omega)) h2 h5
theorem row_step {px py y h x w : Int} (hx : 0 ≤ x) (hw : 0 < w) : oneN (inF px py 0 y x (y + h)) + oneN (inF px py x y (x + w) (y + h)) = oneN (inF px py 0 y (x + w) (y + h)) := by
  unfold inF oneN
  simp only [decide_eq_true_eq]
  repeat' split
  all_goals omega
theorem grid_step {px py X y h : Int} (hy : 0 ≤ y) (hh : 0 < h) : oneN (inF px py 0 0 X y) + oneN (inF px py 0 y X (y + h)) = oneN (inF px py 0 0 X (y + h)) := by
  unfold inF oneN
  simp only [decide_eq_true_eq]
  repeat' split
  all_goals omega
theorem none_low (px py X : Int) : oneN (inF px py 0 0 X 0) = 0 := by
  unfold inF oneN
  rw [if_neg]
  rw [decide_eq_true_eq]
  omega
theorem none_thin (px py y h : Int) : oneN (inF px py 0 y 0 (y + h)) = 0 := by
  unfold inF oneN
  rw [if_neg]
  rw [decide_eq_true_eq]
  omega
def upK (W : Nat → Int) : Nat → Int
  | 0 => 0
  | k + 1 => upK W k + W k
theorem upK_le {W : Nat → Int} {B : Int} (h : ∀ k, 1 ≤ W k ∧ W k ≤ B) : ∀ k : Nat, (k : Int) ≤ upK W k ∧ upK W k ≤ k * B
  | 0 => by simp [upK]
  | k + 1 => by
    have h1 := upK_le h k
    have h2 := h k
    have e : ((k + 1 : Nat) : Int) * B = k * B + B := by push_cast; rw [Int.add_mul, Int.one_mul]
    unfold upK
    rw [e]
    push_cast
    omega
end

section
set_option linter.unusedVariables false
set_option linter.unusedSimpArgs false
open Go.RowKit Go.Joins
def wdK (zs : List Int) (k : Nat) : Int := 1 + zs.getD k 0 % 1000
theorem wdK_in (zs : List Int) (k : Nat) : 1 ≤ wdK zs k ∧ wdK zs k ≤ 1000 := by unfold wdK; omega
def fineL (L : List (List (List Pt))) : Prop := ∀ R ∈ L, regFine R
def TiA (W : World) (Ws Hs : List Int) (n m : Nat) (p : Pt) (v x y i : Value) (wr : World) : Prop := ∃ (k : Nat) (qs : List (Value × List (Value × List Pt))), i = .int .i64 (k : Int) ∧ k ≤ m ∧ LOwn wr W.heap.size v qs ∧
  y = .int .i64 (upK (wdK Hs) k) ∧ x = .int .i64 (if k = 0 then 0 else upK (wdK Ws) n) ∧ qs.length = k * n ∧ fineL (regsOf qs) ∧ (hasR p (regsOf qs)).length = oneN (inF p.1 p.2 0 0 (upK (wdK Ws) n) (upK (wdK Hs) k)) ∧ Below W.heap.size W wr
def TiB (W : World) (Ws : List Int) (n q0 c0 : Nat) (y h : Int) (p : Pt) (v x i : Value) (wr : World) : Prop := ∃ (k : Nat) (qs : List (Value × List (Value × List Pt))), i = .int .i64 (k : Int) ∧ k ≤ n ∧ LOwn wr W.heap.size v qs ∧
  x = .int .i64 (upK (wdK Ws) k) ∧ qs.length = q0 + k ∧ fineL (regsOf qs) ∧ (hasR p (regsOf qs)).length = c0 + oneN (inF p.1 p.2 0 y (upK (wdK Ws) k) (y + h)) ∧ Below W.heap.size W wr
theorem regs_snoc2 (qs : List (Value × List (Value × List Pt))) (u : Value) (ps : List (Value × List Pt)) : regsOf (qs ++ [(u, ps)]) = regsOf qs ++ [ps.map (·.2)] := by simp [regsOf]
theorem fine_snoc {L : List (List (List Pt))} {R : List (List Pt)} (h : fineL L) (hR : regFine R) : fineL (L ++ [R]) := fun M hM => by
  rcases List.mem_append.1 hM with hM | hM
  · exact h M hM
  · rw [List.mem_singleton.1 hM]; exact hR
theorem pick_k (w : World) (z : Int) (hz : -9223372036854775808 ≤ z ∧ z ≤ 9223372036854775807) : Calls Tryz.prog 24 #[.int .i64 z, .int .i64 1000] w fun e w' => e = .returned (.int .i64 (z % 1000)) ∧ Junk w w' := by
  have := k_PickS w z 1000 hz (by decide)
  rw [if_neg (by decide)] at this
  exact this
set_option maxRecDepth 100000 in
set_option maxHeartbeats 8000000 in
theorem tiles_fine (w : World) (wa ha : Option Addr) (n m wc hc : Nat) (Ws Hs : List Int) (hW : Reads w wa n Ws) (hH : Reads w ha m Hs) (n1 : 1 ≤ n) (n5 : n ≤ 5) (m1 : 1 ≤ m) (m5 : m ≤ 5) (px py f t : Int) (hf : -9223372036854775808 ≤ f ∧ f ≤ 9223372036854775807) (ht : -9223372036854775808 ≤ t ∧ t ≤ 9223372036854775807) :
    Calls Tryz.prog 7 #[.slice wa n wc, .slice ha m hc, pt px py, .int .i64 f, .int .i64 t] w fun e w' => e = .returned (.bool true) ∧ Junk w w' := by
  have HAw := Lib.hid l_ixAwake
  have HPk := Lib.hid pick_k
  have HBo := Lib.hid l_ixBoxO
  have HRW := Lib.hid hW
  have HRH := Lib.hid hH
  have i1 : ¬ (n : Int) < 1 := by omega
  have i2 : ¬ (n : Int) > 5 := by omega
  have i3 : ¬ (m : Int) < 1 := by omega
  have i4 : ¬ (m : Int) > 5 := by omega
  unfold pt
  clear hW hH
  go_enter Tryz.func7, Tryz.ntmps7
  go_upto_region 7 with (go_at_call 9; refine (HAw.out _).mono ?_; rintro e w1 ⟨rfl, J1, d1, rfl⟩)
  obtain ⟨W, hWe⟩ : ∃ W, (w.alloc (.cells #[.int .i64 px, .int .i64 py] 42)).plus J1 d1 = W := ⟨_, rfl⟩
  have c0 : W.cell? ⟨w.heap.size, 0, none⟩ = some (.int .i64 px) := by rw [← hWe]; simp [go_sem]
  have c1 : W.cell? ⟨w.heap.size, 1, none⟩ = some (.int .i64 py) := by rw [← hWe]; simp [go_sem]
  have hj : Below w.heap.size w W := by rw [← hWe]; ((try simp only [← Array.append_assoc]); repeat' first | with_reducible (first | apply Below.refl | assumption | apply bw_a | apply bw_d | apply bw_n | apply bw_e | apply bw_s | apply bw_p | apply bw_c | apply bw_r) | go_size)
  have l0 : w.heap.size < W.heap.size := World.block_lt_of_cell? _ _ c0
  have HJ := Lib.hid hj
  have HWW := Lib.hid (HRW.out.below hj)
  have HHW := Lib.hid (HRH.out.below hj)
  rw [hWe]
  clear hWe hj HRW HRH
  go_loopw [12, 13, 14, 15] (fun v x y i wr => TiA W Ws Hs n m (px, py) v x y i wr) (fun _ _ _ i _ => m - (intOf i).toNat)
  case atStart => exact ⟨0, [], rfl, by omega, lown_nil _ _, rfl, rfl, by simp, (fun R hR => by cases hR), by rw [show upK (wdK Hs) 0 = 0 from rfl, none_low]; rfl, Below.refl _ _⟩
  case round =>
    obtain ⟨k, qs, rfl, k1, hown, rfl, rfl, hql, hfine, hcnt, hB⟩ := hrel
    have hsz := hB.size
    by_cases hlt : k < m
    · rcases HHW.out.2.2 with h | ⟨hb, ho, rfl, hcl⟩
      · omega
      have p1 := hcl k hlt
      have hbd := HHW.out.2.1 k hlt
      have hbW : hb < W.heap.size := World.block_lt_of_cell? _ _ p1
      have q1 := (World.cell?_of_block (hB.block _ hbW)).trans p1
      have n2 := World.block_lt_of_cell? _ _ q1
      have hhk := wdK_in Hs k
      have hyk := upK_le (wdK_in Hs) k
      have hyb : (k : Int) * 1000 ≤ 5000 := by omega
      have HWd := Lib.hid (show 1 + Hs.getD k 0 % 1000 = wdK Hs k from rfl)
      have HPz := Lib.hid (fun w' => HPk.out w' (Hs.getD k 0) hbd)
      have i5 : (k : Int) < (m : Int) := by omega
      have HOW := Lib.hid hown
      have HB := Lib.hid hB
      have HFi := Lib.hid hfine
      have HCn := Lib.hid hcnt
      have HUs := Lib.hid (show upK (wdK Hs) (k + 1) = upK (wdK Hs) k + wdK Hs k from rfl)
      clear hcl hown hB hfine hcnt p1
      generalize hzz : Hs.getD k 0 = z at *
      go_upto_region 12 with (go_at_call 24; refine (HPz.out _).mono ?_; rintro e w1 ⟨rfl, J2, d2, rfl⟩)
      rw [HWd.out]
      have hhb := hhk
      generalize wdK Hs k = h at *
      generalize upK (wdK Hs) k = y at *
      have hXT := upK_le (wdK_in Ws) n
      obtain ⟨XT, hXTe⟩ : ∃ X, upK (wdK Ws) n = X := ⟨_, rfl⟩
      have HXT := Lib.hid hXTe
      rw [hXTe] at HCn hXT
      have y0 : 0 ≤ y := by omega
      have y5 : y ≤ 5000 := by omega
      have HBk := Lib.hid (show Below W.heap.size W (wr.plus J2 d2) from HB.out.trans ((show Below wr.heap.size wr _ by ((try simp only [← Array.append_assoc]); repeat' first | with_reducible (first | apply Below.refl | assumption | apply bw_a | apply bw_d | apply bw_n | apply bw_e | apply bw_s | apply bw_p | apply bw_c | apply bw_r) | go_size)).mono hsz))
      go_loopw [12, 13, 17] (fun v x i wr => TiB W Ws n qs.length (oneN (inF px py 0 0 XT y)) y h (px, py) v x i wr) (fun _ _ i _ => n - (intOf i).toNat)
      case atStart => exact ⟨0, qs, rfl, by omega, HOW.out.below (by ((try simp only [← Array.append_assoc]); repeat' first | with_reducible (first | apply Below.refl | assumption | apply bw_a | apply bw_d | apply bw_n | apply bw_e | apply bw_s | apply bw_p | apply bw_c | apply bw_r) | go_size)), rfl, rfl, HFi.out, by rw [HCn.out, show upK (wdK Ws) 0 = 0 from rfl, none_thin]; rfl, HBk.out⟩
      case round =>
        obtain ⟨j, qs2, rfl, j1, hown, rfl, hql2, hfine, hcnt, hB2⟩ := hrel
        have hsz2 := hB2.size
        have HOW2 := Lib.hid hown
        have HB2 := Lib.hid hB2
        by_cases hlt2 : j < n
        · rcases HWW.out.2.2 with h0 | ⟨wb, wo, rfl, hcl⟩
          · omega
          have p2 := hcl j hlt2
          have hbd2 := HWW.out.2.1 j hlt2
          have hbW2 : wb < W.heap.size := World.block_lt_of_cell? _ _ p2
          have q2 := (World.cell?_of_block (hB2.block _ hbW2)).trans p2
          have n3 := World.block_lt_of_cell? _ _ q2
          have hxj := upK_le (wdK_in Ws) j
          have hxb : (j : Int) * 1000 ≤ 5000 := by omega
          have HXs := Lib.hid (show upK (wdK Ws) (j + 1) = upK (wdK Ws) j + (1 + Ws.getD j 0 % 1000) from rfl)
          have HPz2 := Lib.hid (fun w' => HPk.out w' (Ws.getD j 0) hbd2)
          have j5 : (j : Int) < (n : Int) := by omega
          have hq25 : qs2.length ≤ 100000 := by
            have : k * n ≤ 5 * 5 := Nat.mul_le_mul (by omega) (by omega)
            omega
          have HF2 := Lib.hid hfine
          have HC2 := Lib.hid hcnt
          clear hcl hown hB2 hfine hcnt p2 HPz
          generalize Ws.getD j 0 = z2 at *
          generalize upK (wdK Ws) j = xj at *
          have zz : 0 ≤ z2 % 1000 ∧ z2 % 1000 < 1000 := by omega
          have HFi2 := Lib.hid (show ∀ ps : List (Value × List Pt), ps.map (·.2) = [boxR xj y (xj + (1 + z2 % 1000)) (y + h)] → regFine (ps.map (·.2)) from fun ps hps => by rw [hps]; exact box_reg (by omega) (by omega) (by omega) (by omega) (by omega) (by omega))
          have HHas := Lib.hid (show ∀ ps : List (Value × List Pt), ps.map (·.2) = [boxR xj y (xj + (1 + z2 % 1000)) (y + h)] → oneN (inF px py 0 0 XT y) + oneN (inF px py 0 y xj (y + h)) + oneN (regQ (px, py) (ps.map (·.2))) = oneN (inF px py 0 0 XT y) + oneN (inF px py 0 y (xj + (1 + z2 % 1000)) (y + h)) from fun ps hps => by
            rw [hps, box_has (by omega) (by omega) (by omega) (by omega) (by omega) (by omega), ← row_step (y := y) (h := h) (x := xj) (w := 1 + z2 % 1000) (by omega) (by omega)]
            omega)
          have HBx := Lib.hid (fun w' => HBo.out xj y (xj + (1 + z2 % 1000)) (y + h) w')
          go_wp2_with (first
            | (go_at_call 24; refine (HPz2.out _).mono ?_; rintro e w1 ⟨rfl, J3, d3, rfl⟩)
            | (go_at_call 23; refine (HBx.out _).mono ?_; rintro e w1 ⟨⟨x1, ps, rfl, hg, hps⟩, J4, d4, rfl⟩; (try simp only [plus_plus, Array.append_assoc] at hg); have HG := Lib.hid hg; have HPs := Lib.hid hps; clear hg hps)
            | (at_builtin; refine wpList_rapp rfl (.tmp 73) (.tmp 83) rfl W.heap.size _ qs2 rfl (HOW2.out.below (by ((try simp only [← Array.append_assoc]); repeat' first | with_reducible (first | apply Below.refl | assumption | apply bw_a | apply bw_d | apply bw_n | apply bw_e | apply bw_s | apply bw_p | apply bw_c | apply bw_r) | go_size))) _ (.slice x1 1 1) ps rfl (by simp [go_sem]) ((HG.out.below (by ((try simp only [← Array.append_assoc]); repeat' first | with_reducible (first | apply Below.refl | assumption | apply bw_a | apply bw_d | apply bw_n | apply bw_e | apply bw_s | apply bw_p | apply bw_c | apply bw_r) | go_size))).base (by simp; omega)) hq25 (by simp; omega) ?_; intro v' w' hown' hg'))
          go_roundw
          case rel => exact ⟨j + 1, qs2 ++ [(.slice x1 1 1, ps)], by go_num, by omega, hown', by rw [HXs.out], by rw [List.length_append, hql2]; simp; omega, by rw [regs_snoc2]; exact fine_snoc HF2.out (HFi2.out ps HPs.out), by rw [regs_snoc2, has_snoc, HC2.out, HXs.out]; exact HHas.out ps HPs.out, grown_below (B := W.heap.size) (a := W) (HB2.out.trans (by ((try simp only [← Array.append_assoc]); repeat' first | with_reducible (first | apply Below.refl | assumption | apply bw_a | apply bw_d | apply bw_n | apply bw_e | apply bw_s | apply bw_p | apply bw_c | apply bw_r) | go_size))) hg' (by simp; omega) (fun r e => (gown_block HOW2.out.row r e).1)⟩
          case measure => simp [intOf]; omega
        · obtain rfl : j = n := by omega
          rw [HXT.out] at hcnt
          have j5 : ¬ (j : Int) < (j : Int) := by omega
          have HF2 := Lib.hid hfine
          have HC2 := Lib.hid hcnt
          have hxj := upK_le (wdK_in Ws) j
          clear hown hB2 hfine hcnt HPz
          go_wp2_with fail
          go_roundw
          case rel => exact ⟨k + 1, qs2, by go_num, by omega, HOW2.out, by rw [HUs.out], by rw [if_neg (by omega)], by rw [hql2, hql, Nat.succ_mul], HF2.out, by rw [HC2.out, HXT.out, HUs.out]; exact grid_step y0 (by omega), HB2.out⟩
          case measure => simp [intOf]; omega
    · obtain rfl : k = m := by omega
      have i5 : ¬ (k : Int) < (k : Int) := by omega
      rw [if_neg (by omega)]
      have hX := upK_le (wdK_in Ws) n
      have hY := upK_le (wdK_in Hs) k
      obtain ⟨XT, hXTe⟩ : ∃ X, upK (wdK Ws) n = X := ⟨_, rfl⟩
      obtain ⟨Y, hYe⟩ : ∃ X, upK (wdK Hs) k = X := ⟨_, rfl⟩
      rw [hXTe] at hX hcnt ⊢
      rw [hYe] at hY hcnt ⊢
      have X1 : 1 ≤ XT ∧ XT ≤ 5000 := by omega
      have Y1 : 1 ≤ Y ∧ Y ≤ 5000 := by omega
      have HOW := Lib.hid hown
      have HB := Lib.hid hB
      have HFi := Lib.hid hfine
      have HCn := Lib.hid hcnt
      have s0 := (World.cell?_of_block (hB.block _ l0)).trans c0
      have s1 := (World.cell?_of_block (hB.block _ l0)).trans c1
      have n0 : w.heap.size < wr.heap.size := by omega
      obtain ⟨va, vc, rfl, hlrc⟩ := hown.lrc
      have hq25 : qs.length ≤ 25 := by rw [hql]; exact Nat.mul_le_mul (show k ≤ 5 by omega) n5
      have HCk := Lib.hid (show (checkX (regsOf qs)).1 = 0 from checkX_fine.2 ⟨by unfold regsOf; rw [List.length_map]; omega, fun j hj => hfine _ (mem_getD hj)⟩)
      have HBu := Lib.hid (fun W' (h : LRC W' va qs.length vc (regsOf qs)) => i_build W' va qs.length vc (regsOf qs) h HCk.out)
      have HLr := Lib.hid hlrc
      have HQl := Lib.hid hq25
      have HC0 := Lib.hid c0
      have HC1 := Lib.hid c1
      clear hown hB hfine hcnt hlrc hXTe hYe hX hY c0 c1 hql hq25
      go_upto_region 18 with fail
      go_cut [19] from 91 to 110 (fun x wx => x = .bool (inF px py 0 0 XT Y) ∧ wx = wr)
      case first =>
        go_wp2_with fail
        all_goals go_meet
        all_goals (refine ⟨congrArg Value.bool (Bool.eq_iff_iff.2 ?_), rfl⟩; simp only [inF, decide_eq_true_eq, Bool.false_eq_true, false_iff, true_iff]; omega)
      case rest =>
        obtain ⟨rfl, rfl⟩ := hcut
        have HHR := Lib.hid (fun (W' : World) (B xb : Nat) (U : Nat → Prop) (h : IxS W' B xb (regsOf qs) U) => ixAt_lit px py (regsOf qs) _ rfl (by unfold regsOf; rw [List.length_map]; have := HQl.out; omega) W' B xb U h)
        rw [HCn.out] at HHR
        unfold pt at HHR
        have HCut := Lib.hid (fun (a b : Int) (h1 : 1 ≤ a) (h2 : a ≤ Y) (h3 : 1 ≤ b) (h4 : b ≤ Y) => cut_sum (px := px) (py := py) (lx := 0) (ly := 0) (hx := XT) (hy := Y) (fy := a) (ty := b) (okC_small (by omega) (by omega) (by omega) (by omega)) (okC_small (by omega) (by omega) (by omega) (by omega)) (by omega) (by omega) (by omega) h2 (by omega) h4)
        generalize inF px py 0 0 XT Y = g at *
        obtain ⟨N, hN⟩ : ∃ N, oneN g = N := ⟨_, rfl⟩
        rw [hN] at HHR HCut
        have HN := Lib.hid hN
        cases g with
        | true =>
          obtain rfl : N = 1 := hN.symm
          go_upto_region 25 with (first
            | (go_at_call 11; refine (HBu.out _ (HLr.out.below (by ((try simp only [← Array.append_assoc]); repeat' first | with_reducible (first | apply Below.refl | assumption | apply bw_a | apply bw_d | apply bw_n | apply bw_e | apply bw_s | apply bw_p | apply bw_c | apply bw_r) | go_size)))).mono ?_; rintro e w1 ⟨⟨xb, U, rfl, ht⟩, J5, d5, rfl⟩; have HT := Lib.hid ht; clear ht)
            | (go_at_call 15; refine (HHR.out _ _ xb U (HT.out.below (by ((try simp only [← Array.append_assoc]); repeat' first | with_reducible (first | apply Below.refl | assumption | apply bw_a | apply bw_d | apply bw_n | apply bw_e | apply bw_s | apply bw_p | apply bw_c | apply bw_r) | go_size)))).mono ?_; rintro e w2 ⟨⟨a1, c1, U1, rfl, _, _, _⟩, hk⟩; have hb2 : Below W.heap.size W w2 := (HB.out.trans ((show Below wc.heap.size wc _ by ((try simp only [← Array.append_assoc]); repeat' first | with_reducible (first | apply Below.refl | assumption | apply bw_a | apply bw_d | apply bw_n | apply bw_e | apply bw_s | apply bw_p | apply bw_c | apply bw_r) | go_size)).mono hsz)).trans (hk.low.mono (by first | exact hsz | (simp; omega))); clear hk))
          have hs2 := hb2.size
          by_cases hy2 : Y < 2
          · go_wp2_with fail
            go_ret
            exact ⟨rfl, junk_of_below (HJ.out.trans (hb2.mono HJ.out.size))⟩
          · have HPf := Lib.hid (fun w' => k_PickS w' f (Y - 1) hf (by omega))
            have HPt := Lib.hid (fun w' => k_PickS w' t (Y - 1) ht (by omega))
            rw [if_neg (by omega)] at HPf HPt
            have f0 := Int.emod_nonneg f (show Y - 1 ≠ 0 by omega)
            have f1 := Int.emod_lt_of_pos f (show 0 < Y - 1 by omega)
            have t0 := Int.emod_nonneg t (show Y - 1 ≠ 0 by omega)
            have t1 := Int.emod_lt_of_pos t (show 0 < Y - 1 by omega)
            generalize f % (Y - 1) = fa at *
            generalize t % (Y - 1) = tb at *
            have c0 := HC0.out
            have c1 := HC1.out
            have p0 := (World.cell?_of_block (hb2.block _ l0)).trans c0
            have p1 := (World.cell?_of_block (hb2.block _ l0)).trans c1
            have m0 : w.heap.size < w2.heap.size := by omega
            have HP := Lib.hid l_ixAtP
            have HB2 := Lib.hid hb2
            clear HPk HBo HHW HWW HBu HHR HLr HT HC0 HC1 HFi HOW
            go_upto_region 28 with (first
              | (go_at_call 24; (with_reducible refine (HPf.out _).mono ?_); rintro e w1 ⟨rfl, J6, d6, rfl⟩)
              | (go_at_call 24; (with_reducible refine (HPt.out _).mono ?_); rintro e w1 ⟨rfl, J7, d7, rfl⟩)
              | fail)
            obtain ⟨A, hA⟩ : ∃ A, 1 + fa = A := ⟨_, rfl⟩
            obtain ⟨Bb, hBb⟩ : ∃ B, 1 + tb = B := ⟨_, rfl⟩
            rw [hA, hBb]
            have A1 : 1 ≤ A ∧ A ≤ Y - 1 := by omega
            have B1 : 1 ≤ Bb ∧ Bb ≤ Y - 1 := by omega
            obtain ⟨w3, hw3⟩ : ∃ w3, w2.plus (J6 ++ J7) d7 = w3 := ⟨_, rfl⟩
            have hbw3 : Below W.heap.size W w3 := by rw [← hw3]; exact hb2.trans ((show Below w2.heap.size w2 _ by ((try simp only [← Array.append_assoc]); repeat' first | with_reducible (first | apply Below.refl | assumption | apply bw_a | apply bw_d | apply bw_n | apply bw_e | apply bw_s | apply bw_p | apply bw_c | apply bw_r) | go_size)).mono hs2)
            rw [hw3]
            have hsw3 := hbw3.size
            have u0 := (World.cell?_of_block (hbw3.block _ l0)).trans c0
            have u1 := (World.cell?_of_block (hbw3.block _ l0)).trans c1
            have m3 : w.heap.size < w3.heap.size := by omega
            have P1 := Lib.hid (fun w' => l_ixAtP 0 0 w')
            have P2 := Lib.hid (fun w' => l_ixAtP XT 0 w')
            have P3 := Lib.hid (fun w' => l_ixAtP XT Bb w')
            have P4 := Lib.hid (fun w' => l_ixAtP 0 A w')
            have P5 := Lib.hid (fun w' => l_ixAtP XT Y w')
            have P6 := Lib.hid (fun w' => l_ixAtP 0 Y w')
            clear hw3 hA hBb p0 p1 m0 hb2 HPf HPt HP
            go_upto_region 29 with (first
              | (go_at_call 22; (with_reducible refine (P1.out _).mono ?_); rintro e w1 ⟨rfl, Ja, da, rfl⟩)
              | (go_at_call 22; (with_reducible refine (P2.out _).mono ?_); rintro e w1 ⟨rfl, Jb, db, rfl⟩)
              | (go_at_call 22; (with_reducible refine (P3.out _).mono ?_); rintro e w1 ⟨rfl, Jc, dc, rfl⟩)
              | (go_at_call 22; (with_reducible refine (P4.out _).mono ?_); rintro e w1 ⟨rfl, Jd, dd, rfl⟩))
            obtain ⟨q, hq⟩ : ∃ z_, w3.heap.size + (Ja.size + (Jb.size + (Jc.size + Jd.size))) = z_ := ⟨_, rfl⟩
            generalize hgw4 : (((w3.plus (Ja ++ (Jb ++ (Jc ++ Jd))) dd).alloc (.cells #[.int .i64 0, .int .i64 0, .int .i64 XT, .int .i64 0, .int .i64 XT, .int .i64 Bb, .int .i64 0, .int .i64 A] 42)).alloc (.cells #[.slice (some ⟨w3.heap.size + (Ja.size + (Jb.size + (Jc.size + Jd.size))), 0, none⟩) 4 4] 23)).alloc (.cells #[.slice (some ⟨w3.heap.size + (Ja.size + (Jb.size + (Jc.size + Jd.size))) + 1, 0, none⟩) 1 1] 28) = w4
            have hbw4 : Below W.heap.size W w4 := by rw [← hgw4]; exact hbw3.trans ((show Below w3.heap.size w3 _ by ((try simp only [← Array.append_assoc]); repeat' first | with_reducible (first | apply Below.refl | assumption | apply bw_a | apply bw_d | apply bw_n | apply bw_e | apply bw_s | apply bw_p | apply bw_c | apply bw_r) | go_size)).mono hsw3)
            have hsw4 := hbw4.size
            have ew4 : Below w3.heap.size w3 w4 := by rw [← hgw4]; ((try simp only [← Array.append_assoc]); repeat' first | with_reducible (first | apply Below.refl | assumption | apply bw_a | apply bw_d | apply bw_n | apply bw_e | apply bw_s | apply bw_p | apply bw_c | apply bw_r) | go_size)
            have zw4 : w4.heap.size = q + 3 := by rw [← hgw4, ← hq]; simp
            have rw4 : w4.cell? ⟨q + 2, 0, none⟩ = some (.slice (some ⟨q + 1, 0, none⟩) 1 1) := by rw [← hgw4, ← hq]; simp [go_sem]
            have HGw4 := Lib.hid (show GRC w4 (some ⟨q + 1, 0, none⟩) 1 1 [quadL 0 XT 0 0 A Bb] by
              rw [← hgw4, ← hq]
              refine grc_one (x := some ⟨w3.heap.size + (Ja.size + (Jb.size + (Jc.size + Jd.size))), 0, none⟩) (m := 4) (c := 4) (by simp [go_sem]) ?_
              refine (prc_blt (w := w3.plus (Ja ++ (Jb ++ (Jc ++ Jd))) dd) (L := quadL 0 XT 0 0 A Bb) (n := 4) (g := w3.heap.size + (Ja.size + (Jb.size + (Jc.size + Jd.size)))) rfl ?_ (by decide) (by simp)).below (by (repeat' first | with_reducible (first | apply Below.refl | assumption | apply bw_a | apply bw_d | apply bw_n | apply bw_p | apply bw_c | apply bw_r) | go_size))
              simp [pcells, quadL])
            simp only [hq]
            clear hgw4
            go_upto_region 30 with (first
              | (go_at_call 22; (with_reducible refine (P4.out _).mono ?_); rintro e w1 ⟨rfl, Je, de, rfl⟩)
              | (go_at_call 22; (with_reducible refine (P3.out _).mono ?_); rintro e w1 ⟨rfl, Jf, df, rfl⟩)
              | (go_at_call 22; (with_reducible refine (P5.out _).mono ?_); rintro e w1 ⟨rfl, Jg, dg, rfl⟩)
              | (go_at_call 22; (with_reducible refine (P6.out _).mono ?_); rintro e w1 ⟨rfl, Jh, dh, rfl⟩))
            obtain ⟨r, hr⟩ : ∃ z_, q + 3 + (Je.size + (Jf.size + (Jg.size + Jh.size))) = z_ := ⟨_, rfl⟩
            generalize hgw5 : (((w4.plus (Je ++ (Jf ++ (Jg ++ Jh))) dh).alloc (.cells #[.int .i64 0, .int .i64 A, .int .i64 XT, .int .i64 Bb, .int .i64 XT, .int .i64 Y, .int .i64 0, .int .i64 Y] 42)).alloc (.cells #[.slice (some ⟨q + 3 + (Je.size + (Jf.size + (Jg.size + Jh.size))), 0, none⟩) 4 4] 23)).alloc (.cells #[.slice (some ⟨q + 3 + (Je.size + (Jf.size + (Jg.size + Jh.size))) + 1, 0, none⟩) 1 1] 28) = w5
            have hbw5 : Below W.heap.size W w5 := by rw [← hgw5]; exact hbw4.trans ((show Below w4.heap.size w4 _ by ((try simp only [← Array.append_assoc]); repeat' first | with_reducible (first | apply Below.refl | assumption | apply bw_a | apply bw_d | apply bw_n | apply bw_e | apply bw_s | apply bw_p | apply bw_c | apply bw_r) | go_size)).mono hsw4)
            have hsw5 := hbw5.size
            have ew5 : Below w4.heap.size w4 w5 := by rw [← hgw5]; ((try simp only [← Array.append_assoc]); repeat' first | with_reducible (first | apply Below.refl | assumption | apply bw_a | apply bw_d | apply bw_n | apply bw_e | apply bw_s | apply bw_p | apply bw_c | apply bw_r) | go_size)
            have zw5 : w5.heap.size = r + 3 := by rw [← hgw5, ← hr]; simp [zw4]
            have rw5 : w5.cell? ⟨r + 2, 0, none⟩ = some (.slice (some ⟨r + 1, 0, none⟩) 1 1) := by rw [← hgw5, ← hr]; simp [go_sem, zw4]
            have HGw5 := Lib.hid (show GRC w5 (some ⟨r + 1, 0, none⟩) 1 1 [quadL 0 XT A Bb Y Y] by
              rw [← hgw5, ← hr]
              refine grc_one (x := some ⟨q + 3 + (Je.size + (Jf.size + (Jg.size + Jh.size))), 0, none⟩) (m := 4) (c := 4) (by simp [go_sem, zw4]) ?_
              refine (prc_blt (w := w4.plus (Je ++ (Jf ++ (Jg ++ Jh))) dh) (L := quadL 0 XT A Bb Y Y) (n := 4) (g := q + 3 + (Je.size + (Jf.size + (Jg.size + Jh.size)))) rfl ?_ (by decide) (by simp [zw4])).below (by (repeat' first | with_reducible (first | apply Below.refl | assumption | apply bw_a | apply bw_d | apply bw_n | apply bw_p | apply bw_c | apply bw_r) | go_size))
              simp [pcells, quadL])
            simp only [hr]
            clear hgw5
            have rb : w5.cell? ⟨q + 2, 0, none⟩ = some (.slice (some ⟨q + 1, 0, none⟩) 1 1) := (World.cell?_of_block (a := ⟨q + 2, 0, none⟩) (ew5.block (q + 2) (by omega))).trans rw4
            have HGb := Lib.hid (HGw4.out.below ew5)
            have HQ1 := Lib.hid (show regFine [quadL 0 XT 0 0 A Bb] from reg_quad (quad_fine (by omega) (by omega) (okC_small (by omega) (by omega) (by omega) (by omega)) (okC_small (by omega) (by omega) (by omega) (by omega)) (okC_small (by omega) (by omega) (by omega) (by omega)) (okC_small (by omega) (by omega) (by omega) (by omega))) (by show 4 ≤ 400; omega))
            have HQ2 := Lib.hid (show regFine [quadL 0 XT A Bb Y Y] from reg_quad (quad_fine (by omega) (by omega) (okC_small (by omega) (by omega) (by omega) (by omega)) (okC_small (by omega) (by omega) (by omega) (by omega)) (okC_small (by omega) (by omega) (by omega) (by omega)) (okC_small (by omega) (by omega) (by omega) (by omega))) (by show 4 ≤ 400; omega))
            have hcu := HCut.out A Bb (by omega) (by omega) (by omega) (by omega)
            obtain ⟨L2, hL2⟩ : ∃ L2, [[quadL 0 XT 0 0 A Bb], [quadL 0 XT A Bb Y Y]] = L2 := ⟨_, rfl⟩
            have hh2 : (hasR (px, py) L2).length = 1 := by
              rw [← hL2, show [[quadL 0 XT 0 0 A Bb], [quadL 0 XT A Bb Y Y]] = ([] ++ [[quadL 0 XT 0 0 A Bb]]) ++ [[quadL 0 XT A Bb Y Y]] from rfl, has_snoc, has_snoc, regQ_one, regQ_one, ← hcu]
              show 0 + _ + _ = _
              omega
            have HBu2 := Lib.hid (fun (W' : World) (b : Nat) (hr : W'.rowAt b = some #[.slice (some ⟨q + 1, 0, none⟩) 1 1, .slice (some ⟨r + 1, 0, none⟩) 1 1]) (h1 : GRC W' (some ⟨q + 1, 0, none⟩) 1 1 [quadL 0 XT 0 0 A Bb]) (h2 : GRC W' (some ⟨r + 1, 0, none⟩) 1 1 [quadL 0 XT A Bb Y Y]) =>
              i_build W' (some ⟨b, 0, none⟩) 2 2 [[quadL 0 XT 0 0 A Bb], [quadL 0 XT A Bb Y Y]] (lrc_cells (L := [[quadL 0 XT 0 0 A Bb], [quadL 0 XT A Bb Y Y]]) (vs := [.slice (some ⟨q + 1, 0, none⟩) 1 1, .slice (some ⟨r + 1, 0, none⟩) 1 1]) rfl hr (fun i hi => match i, hi with
                | 0, _ => ⟨_, 1, 1, rfl, h1⟩
                | 1, _ => ⟨_, 1, 1, rfl, h2⟩)) (checkX_fine.2 ⟨by show 2 ≤ 64; omega, fun j hj => match j, hj with
                | 0, _ => HQ1.out
                | 1, _ => HQ2.out⟩))
            rw [hL2] at HBu2
            have HA2 := Lib.hid (fun (W' : World) (B xb : Nat) (U : Nat → Prop) (h : IxS W' B xb L2 U) => ixAt_lit px py L2 _ rfl (by rw [← hL2]; show 2 ≤ 1000; omega) W' B xb U h)
            rw [hh2] at HA2
            unfold pt at HA2
            have v0 := (World.cell?_of_block (hbw5.block _ l0)).trans c0
            have v1 := (World.cell?_of_block (hbw5.block _ l0)).trans c1
            have m5' : w.heap.size < w5.heap.size := by omega
            have m6 : w.heap.size < r + 3 := by omega
            have hL2l : Hid (L2.length = 2) := Lib.hid (by rw [← hL2]; rfl)
            clear hL2 hh2 hcu HCut HQ1 HQ2 u0 u1 P1 P2 P3 P4 P5 P6
            go_wp2_with (first
              | (go_at_call 11; refine (HBu2.out _ _ (by simp [go_sem, zw5]) (HGb.out.below (by ((try simp only [← Array.append_assoc]); repeat' first | with_reducible (first | apply Below.refl | assumption | apply bw_a | apply bw_d | apply bw_n | apply bw_e | apply bw_s | apply bw_p | apply bw_c | apply bw_r) | go_size))) (HGw5.out.below (by ((try simp only [← Array.append_assoc]); repeat' first | with_reducible (first | apply Below.refl | assumption | apply bw_a | apply bw_d | apply bw_n | apply bw_e | apply bw_s | apply bw_p | apply bw_c | apply bw_r) | go_size)))).mono ?_; rintro e w1 ⟨⟨xc, U2, rfl, ht⟩, J9, d9, rfl⟩; have HT2 := Lib.hid ht; clear ht)
              | (go_at_call 15; refine (HA2.out _ _ xc U2 (HT2.out.below (by ((try simp only [← Array.append_assoc]); repeat' first | with_reducible (first | apply Below.refl | assumption | apply bw_a | apply bw_d | apply bw_n | apply bw_e | apply bw_s | apply bw_p | apply bw_c | apply bw_r) | go_size)))).mono ?_; rintro e w6 ⟨⟨a2, c2, U3, rfl, _, _, _⟩, hk⟩; have hb6 : Below W.heap.size W w6 := (hbw5.trans ((show Below w5.heap.size w5 _ by ((try simp only [← Array.append_assoc]); repeat' first | with_reducible (first | apply Below.refl | assumption | apply bw_a | apply bw_d | apply bw_n | apply bw_e | apply bw_s | apply bw_p | apply bw_c | apply bw_r) | go_size)).mono hsw5)).trans (hk.low.mono (by first | exact hsw5 | (simp; omega))); clear hk))
            go_ret
            exact ⟨rfl, junk_of_below (HJ.out.trans (hb6.mono HJ.out.size))⟩
        | false =>
          obtain rfl : N = 0 := hN.symm
          go_upto_region 25 with (first
            | (go_at_call 11; refine (HBu.out _ (HLr.out.below (by ((try simp only [← Array.append_assoc]); repeat' first | with_reducible (first | apply Below.refl | assumption | apply bw_a | apply bw_d | apply bw_n | apply bw_e | apply bw_s | apply bw_p | apply bw_c | apply bw_r) | go_size)))).mono ?_; rintro e w1 ⟨⟨xb, U, rfl, ht⟩, J5, d5, rfl⟩; have HT := Lib.hid ht; clear ht)
            | (go_at_call 15; refine (HHR.out _ _ xb U (HT.out.below (by ((try simp only [← Array.append_assoc]); repeat' first | with_reducible (first | apply Below.refl | assumption | apply bw_a | apply bw_d | apply bw_n | apply bw_e | apply bw_s | apply bw_p | apply bw_c | apply bw_r) | go_size)))).mono ?_; rintro e w2 ⟨⟨a1, c1, U1, rfl, _, _, _⟩, hk⟩; have hb2 : Below W.heap.size W w2 := (HB.out.trans ((show Below wc.heap.size wc _ by ((try simp only [← Array.append_assoc]); repeat' first | with_reducible (first | apply Below.refl | assumption | apply bw_a | apply bw_d | apply bw_n | apply bw_e | apply bw_s | apply bw_p | apply bw_c | apply bw_r) | go_size)).mono hsz)).trans (hk.low.mono (by first | exact hsz | (simp; omega))); clear hk))
          have hs2 := hb2.size
          by_cases hy2 : Y < 2
          · go_wp2_with fail
            go_ret
            exact ⟨rfl, junk_of_below (HJ.out.trans (hb2.mono HJ.out.size))⟩
          · have HPf := Lib.hid (fun w' => k_PickS w' f (Y - 1) hf (by omega))
            have HPt := Lib.hid (fun w' => k_PickS w' t (Y - 1) ht (by omega))
            rw [if_neg (by omega)] at HPf HPt
            have f0 := Int.emod_nonneg f (show Y - 1 ≠ 0 by omega)
            have f1 := Int.emod_lt_of_pos f (show 0 < Y - 1 by omega)
            have t0 := Int.emod_nonneg t (show Y - 1 ≠ 0 by omega)
            have t1 := Int.emod_lt_of_pos t (show 0 < Y - 1 by omega)
            generalize f % (Y - 1) = fa at *
            generalize t % (Y - 1) = tb at *
            have c0 := HC0.out
            have c1 := HC1.out
            have p0 := (World.cell?_of_block (hb2.block _ l0)).trans c0
            have p1 := (World.cell?_of_block (hb2.block _ l0)).trans c1
            have m0 : w.heap.size < w2.heap.size := by omega
            have HP := Lib.hid l_ixAtP
            have HB2 := Lib.hid hb2
            clear HPk HBo HHW HWW HBu HHR HLr HT HC0 HC1 HFi HOW
            go_upto_region 28 with (first
              | (go_at_call 24; (with_reducible refine (HPf.out _).mono ?_); rintro e w1 ⟨rfl, J6, d6, rfl⟩)
              | (go_at_call 24; (with_reducible refine (HPt.out _).mono ?_); rintro e w1 ⟨rfl, J7, d7, rfl⟩)
              | fail)
            obtain ⟨A, hA⟩ : ∃ A, 1 + fa = A := ⟨_, rfl⟩
            obtain ⟨Bb, hBb⟩ : ∃ B, 1 + tb = B := ⟨_, rfl⟩
            rw [hA, hBb]
            have A1 : 1 ≤ A ∧ A ≤ Y - 1 := by omega
            have B1 : 1 ≤ Bb ∧ Bb ≤ Y - 1 := by omega
            obtain ⟨w3, hw3⟩ : ∃ w3, w2.plus (J6 ++ J7) d7 = w3 := ⟨_, rfl⟩
            have hbw3 : Below W.heap.size W w3 := by rw [← hw3]; exact hb2.trans ((show Below w2.heap.size w2 _ by ((try simp only [← Array.append_assoc]); repeat' first | with_reducible (first | apply Below.refl | assumption | apply bw_a | apply bw_d | apply bw_n | apply bw_e | apply bw_s | apply bw_p | apply bw_c | apply bw_r) | go_size)).mono hs2)
            rw [hw3]
            have hsw3 := hbw3.size
            have u0 := (World.cell?_of_block (hbw3.block _ l0)).trans c0
            have u1 := (World.cell?_of_block (hbw3.block _ l0)).trans c1
            have m3 : w.heap.size < w3.heap.size := by omega
            have P1 := Lib.hid (fun w' => l_ixAtP 0 0 w')
            have P2 := Lib.hid (fun w' => l_ixAtP XT 0 w')
            have P3 := Lib.hid (fun w' => l_ixAtP XT Bb w')
            have P4 := Lib.hid (fun w' => l_ixAtP 0 A w')
            have P5 := Lib.hid (fun w' => l_ixAtP XT Y w')
            have P6 := Lib.hid (fun w' => l_ixAtP 0 Y w')
            clear hw3 hA hBb p0 p1 m0 hb2 HPf HPt HP
            go_upto_region 29 with (first
              | (go_at_call 22; (with_reducible refine (P1.out _).mono ?_); rintro e w1 ⟨rfl, Ja, da, rfl⟩)
              | (go_at_call 22; (with_reducible refine (P2.out _).mono ?_); rintro e w1 ⟨rfl, Jb, db, rfl⟩)
              | (go_at_call 22; (with_reducible refine (P3.out _).mono ?_); rintro e w1 ⟨rfl, Jc, dc, rfl⟩)
              | (go_at_call 22; (with_reducible refine (P4.out _).mono ?_); rintro e w1 ⟨rfl, Jd, dd, rfl⟩))
            obtain ⟨q, hq⟩ : ∃ z_, w3.heap.size + (Ja.size + (Jb.size + (Jc.size + Jd.size))) = z_ := ⟨_, rfl⟩
            generalize hgw4 : (((w3.plus (Ja ++ (Jb ++ (Jc ++ Jd))) dd).alloc (.cells #[.int .i64 0, .int .i64 0, .int .i64 XT, .int .i64 0, .int .i64 XT, .int .i64 Bb, .int .i64 0, .int .i64 A] 42)).alloc (.cells #[.slice (some ⟨w3.heap.size + (Ja.size + (Jb.size + (Jc.size + Jd.size))), 0, none⟩) 4 4] 23)).alloc (.cells #[.slice (some ⟨w3.heap.size + (Ja.size + (Jb.size + (Jc.size + Jd.size))) + 1, 0, none⟩) 1 1] 28) = w4
            have hbw4 : Below W.heap.size W w4 := by rw [← hgw4]; exact hbw3.trans ((show Below w3.heap.size w3 _ by ((try simp only [← Array.append_assoc]); repeat' first | with_reducible (first | apply Below.refl | assumption | apply bw_a | apply bw_d | apply bw_n | apply bw_e | apply bw_s | apply bw_p | apply bw_c | apply bw_r) | go_size)).mono hsw3)
            have hsw4 := hbw4.size
            have ew4 : Below w3.heap.size w3 w4 := by rw [← hgw4]; ((try simp only [← Array.append_assoc]); repeat' first | with_reducible (first | apply Below.refl | assumption | apply bw_a | apply bw_d | apply bw_n | apply bw_e | apply bw_s | apply bw_p | apply bw_c | apply bw_r) | go_size)
            have zw4 : w4.heap.size = q + 3 := by rw [← hgw4, ← hq]; simp
            have rw4 : w4.cell? ⟨q + 2, 0, none⟩ = some (.slice (some ⟨q + 1, 0, none⟩) 1 1) := by rw [← hgw4, ← hq]; simp [go_sem]
            have HGw4 := Lib.hid (show GRC w4 (some ⟨q + 1, 0, none⟩) 1 1 [quadL 0 XT 0 0 A Bb] by
              rw [← hgw4, ← hq]
              refine grc_one (x := some ⟨w3.heap.size + (Ja.size + (Jb.size + (Jc.size + Jd.size))), 0, none⟩) (m := 4) (c := 4) (by simp [go_sem]) ?_
              refine (prc_blt (w := w3.plus (Ja ++ (Jb ++ (Jc ++ Jd))) dd) (L := quadL 0 XT 0 0 A Bb) (n := 4) (g := w3.heap.size + (Ja.size + (Jb.size + (Jc.size + Jd.size)))) rfl ?_ (by decide) (by simp)).below (by (repeat' first | with_reducible (first | apply Below.refl | assumption | apply bw_a | apply bw_d | apply bw_n | apply bw_p | apply bw_c | apply bw_r) | go_size))
              simp [pcells, quadL])
            simp only [hq]
            clear hgw4
            go_upto_region 30 with (first
              | (go_at_call 22; (with_reducible refine (P4.out _).mono ?_); rintro e w1 ⟨rfl, Je, de, rfl⟩)
              | (go_at_call 22; (with_reducible refine (P3.out _).mono ?_); rintro e w1 ⟨rfl, Jf, df, rfl⟩)
              | (go_at_call 22; (with_reducible refine (P5.out _).mono ?_); rintro e w1 ⟨rfl, Jg, dg, rfl⟩)
              | (go_at_call 22; (with_reducible refine (P6.out _).mono ?_); rintro e w1 ⟨rfl, Jh, dh, rfl⟩))
            obtain ⟨r, hr⟩ : ∃ z_, q + 3 + (Je.size + (Jf.size + (Jg.size + Jh.size))) = z_ := ⟨_, rfl⟩
            generalize hgw5 : (((w4.plus (Je ++ (Jf ++ (Jg ++ Jh))) dh).alloc (.cells #[.int .i64 0, .int .i64 A, .int .i64 XT, .int .i64 Bb, .int .i64 XT, .int .i64 Y, .int .i64 0, .int .i64 Y] 42)).alloc (.cells #[.slice (some ⟨q + 3 + (Je.size + (Jf.size + (Jg.size + Jh.size))), 0, none⟩) 4 4] 23)).alloc (.cells #[.slice (some ⟨q + 3 + (Je.size + (Jf.size + (Jg.size + Jh.size))) + 1, 0, none⟩) 1 1] 28) = w5
            have hbw5 : Below W.heap.size W w5 := by rw [← hgw5]; exact hbw4.trans ((show Below w4.heap.size w4 _ by ((try simp only [← Array.append_assoc]); repeat' first | with_reducible (first | apply Below.refl | assumption | apply bw_a | apply bw_d | apply bw_n | apply bw_e | apply bw_s | apply bw_p | apply bw_c | apply bw_r) | go_size)).mono hsw4)
            have hsw5 := hbw5.size
            have ew5 : Below w4.heap.size w4 w5 := by rw [← hgw5]; ((try simp only [← Array.append_assoc]); repeat' first | with_reducible (first | apply Below.refl | assumption | apply bw_a | apply bw_d | apply bw_n | apply bw_e | apply bw_s | apply bw_p | apply bw_c | apply bw_r) | go_size)
            have zw5 : w5.heap.size = r + 3 := by rw [← hgw5, ← hr]; simp [zw4]
            have rw5 : w5.cell? ⟨r + 2, 0, none⟩ = some (.slice (some ⟨r + 1, 0, none⟩) 1 1) := by rw [← hgw5, ← hr]; simp [go_sem, zw4]
            have HGw5 := Lib.hid (show GRC w5 (some ⟨r + 1, 0, none⟩) 1 1 [quadL 0 XT A Bb Y Y] by
              rw [← hgw5, ← hr]
              refine grc_one (x := some ⟨q + 3 + (Je.size + (Jf.size + (Jg.size + Jh.size))), 0, none⟩) (m := 4) (c := 4) (by simp [go_sem, zw4]) ?_
              refine (prc_blt (w := w4.plus (Je ++ (Jf ++ (Jg ++ Jh))) dh) (L := quadL 0 XT A Bb Y Y) (n := 4) (g := q + 3 + (Je.size + (Jf.size + (Jg.size + Jh.size)))) rfl ?_ (by decide) (by simp [zw4])).below (by (repeat' first | with_reducible (first | apply Below.refl | assumption | apply bw_a | apply bw_d | apply bw_n | apply bw_p | apply bw_c | apply bw_r) | go_size))
              simp [pcells, quadL])
            simp only [hr]
            clear hgw5
            have rb : w5.cell? ⟨q + 2, 0, none⟩ = some (.slice (some ⟨q + 1, 0, none⟩) 1 1) := (World.cell?_of_block (a := ⟨q + 2, 0, none⟩) (ew5.block (q + 2) (by omega))).trans rw4
            have HGb := Lib.hid (HGw4.out.below ew5)
            have HQ1 := Lib.hid (show regFine [quadL 0 XT 0 0 A Bb] from reg_quad (quad_fine (by omega) (by omega) (okC_small (by omega) (by omega) (by omega) (by omega)) (okC_small (by omega) (by omega) (by omega) (by omega)) (okC_small (by omega) (by omega) (by omega) (by omega)) (okC_small (by omega) (by omega) (by omega) (by omega))) (by show 4 ≤ 400; omega))
            have HQ2 := Lib.hid (show regFine [quadL 0 XT A Bb Y Y] from reg_quad (quad_fine (by omega) (by omega) (okC_small (by omega) (by omega) (by omega) (by omega)) (okC_small (by omega) (by omega) (by omega) (by omega)) (okC_small (by omega) (by omega) (by omega) (by omega)) (okC_small (by omega) (by omega) (by omega) (by omega))) (by show 4 ≤ 400; omega))
            have hcu := HCut.out A Bb (by omega) (by omega) (by omega) (by omega)
            obtain ⟨L2, hL2⟩ : ∃ L2, [[quadL 0 XT 0 0 A Bb], [quadL 0 XT A Bb Y Y]] = L2 := ⟨_, rfl⟩
            have hh2 : (hasR (px, py) L2).length = 0 := by
              rw [← hL2, show [[quadL 0 XT 0 0 A Bb], [quadL 0 XT A Bb Y Y]] = ([] ++ [[quadL 0 XT 0 0 A Bb]]) ++ [[quadL 0 XT A Bb Y Y]] from rfl, has_snoc, has_snoc, regQ_one, regQ_one, ← hcu]
              show 0 + _ + _ = _
              omega
            have HBu2 := Lib.hid (fun (W' : World) (b : Nat) (hr : W'.rowAt b = some #[.slice (some ⟨q + 1, 0, none⟩) 1 1, .slice (some ⟨r + 1, 0, none⟩) 1 1]) (h1 : GRC W' (some ⟨q + 1, 0, none⟩) 1 1 [quadL 0 XT 0 0 A Bb]) (h2 : GRC W' (some ⟨r + 1, 0, none⟩) 1 1 [quadL 0 XT A Bb Y Y]) =>
              i_build W' (some ⟨b, 0, none⟩) 2 2 [[quadL 0 XT 0 0 A Bb], [quadL 0 XT A Bb Y Y]] (lrc_cells (L := [[quadL 0 XT 0 0 A Bb], [quadL 0 XT A Bb Y Y]]) (vs := [.slice (some ⟨q + 1, 0, none⟩) 1 1, .slice (some ⟨r + 1, 0, none⟩) 1 1]) rfl hr (fun i hi => match i, hi with
                | 0, _ => ⟨_, 1, 1, rfl, h1⟩
                | 1, _ => ⟨_, 1, 1, rfl, h2⟩)) (checkX_fine.2 ⟨by show 2 ≤ 64; omega, fun j hj => match j, hj with
                | 0, _ => HQ1.out
                | 1, _ => HQ2.out⟩))
            rw [hL2] at HBu2
            have HA2 := Lib.hid (fun (W' : World) (B xb : Nat) (U : Nat → Prop) (h : IxS W' B xb L2 U) => ixAt_lit px py L2 _ rfl (by rw [← hL2]; show 2 ≤ 1000; omega) W' B xb U h)
            rw [hh2] at HA2
            unfold pt at HA2
            have v0 := (World.cell?_of_block (hbw5.block _ l0)).trans c0
            have v1 := (World.cell?_of_block (hbw5.block _ l0)).trans c1
            have m5' : w.heap.size < w5.heap.size := by omega
            have m6 : w.heap.size < r + 3 := by omega
            have hL2l : Hid (L2.length = 2) := Lib.hid (by rw [← hL2]; rfl)
            clear hL2 hh2 hcu HCut HQ1 HQ2 u0 u1 P1 P2 P3 P4 P5 P6
            go_wp2_with (first
              | (go_at_call 11; refine (HBu2.out _ _ (by simp [go_sem, zw5]) (HGb.out.below (by ((try simp only [← Array.append_assoc]); repeat' first | with_reducible (first | apply Below.refl | assumption | apply bw_a | apply bw_d | apply bw_n | apply bw_e | apply bw_s | apply bw_p | apply bw_c | apply bw_r) | go_size))) (HGw5.out.below (by ((try simp only [← Array.append_assoc]); repeat' first | with_reducible (first | apply Below.refl | assumption | apply bw_a | apply bw_d | apply bw_n | apply bw_e | apply bw_s | apply bw_p | apply bw_c | apply bw_r) | go_size)))).mono ?_; rintro e w1 ⟨⟨xc, U2, rfl, ht⟩, J9, d9, rfl⟩; have HT2 := Lib.hid ht; clear ht)
              | (go_at_call 15; refine (HA2.out _ _ xc U2 (HT2.out.below (by ((try simp only [← Array.append_assoc]); repeat' first | with_reducible (first | apply Below.refl | assumption | apply bw_a | apply bw_d | apply bw_n | apply bw_e | apply bw_s | apply bw_p | apply bw_c | apply bw_r) | go_size)))).mono ?_; rintro e w6 ⟨⟨a2, c2, U3, rfl, _, _, _⟩, hk⟩; have hb6 : Below W.heap.size W w6 := (hbw5.trans ((show Below w5.heap.size w5 _ by ((try simp only [← Array.append_assoc]); repeat' first | with_reducible (first | apply Below.refl | assumption | apply bw_a | apply bw_d | apply bw_n | apply bw_e | apply bw_s | apply bw_p | apply bw_c | apply bw_r) | go_size)).mono hsw5)).trans (hk.low.mono (by first | exact hsw5 | (simp; omega))); clear hk))
            go_ret
            exact ⟨rfl, junk_of_below (HJ.out.trans (hb6.mono HJ.out.size))⟩
end

section
set_option linter.unusedVariables false
set_option linter.unusedSimpArgs false
open Go.RowKit
set_option maxRecDepth 100000 in
theorem tiles_other (w : World) (wa ha : Option Addr) (n m wc hc : Nat) (h : n < 1 ∨ 5 < n ∨ m < 1 ∨ 5 < m) (px py f t : Int) :
    Calls Tryz.prog 7 #[.slice wa n wc, .slice ha m hc, pt px py, .int .i64 f, .int .i64 t] w fun e w' => e = .returned (.bool true) ∧ Junk w w' := by
  have HAw := Lib.hid l_ixAwake
  unfold pt
  by_cases h1 : n < 1
  · have i1 : (n : Int) < 1 := by omega
    clear h h1
    go_enter Tryz.func7, Tryz.ntmps7
    go_wp2_with (go_at_call 9; refine (HAw.out _).mono ?_; rintro e w1 ⟨rfl, J1, d1, rfl⟩)
    go_ret
    exact ⟨rfl, junk_of_below (by (repeat' first | with_reducible (first | apply Below.refl | assumption | apply bw_a | apply bw_d | apply bw_n | apply bw_p | apply bw_c | apply bw_r) | go_size))⟩
  have i1 : ¬ (n : Int) < 1 := by omega
  by_cases h2 : 5 < n
  · have i2 : (n : Int) > 5 := by omega
    clear h h1 h2
    go_enter Tryz.func7, Tryz.ntmps7
    go_wp2_with (go_at_call 9; refine (HAw.out _).mono ?_; rintro e w1 ⟨rfl, J1, d1, rfl⟩)
    go_ret
    exact ⟨rfl, junk_of_below (by (repeat' first | with_reducible (first | apply Below.refl | assumption | apply bw_a | apply bw_d | apply bw_n | apply bw_p | apply bw_c | apply bw_r) | go_size))⟩
  have i2 : ¬ (n : Int) > 5 := by omega
  by_cases h3 : m < 1
  · have i3 : (m : Int) < 1 := by omega
    clear h h1 h2 h3
    go_enter Tryz.func7, Tryz.ntmps7
    go_wp2_with (go_at_call 9; refine (HAw.out _).mono ?_; rintro e w1 ⟨rfl, J1, d1, rfl⟩)
    go_ret
    exact ⟨rfl, junk_of_below (by (repeat' first | with_reducible (first | apply Below.refl | assumption | apply bw_a | apply bw_d | apply bw_n | apply bw_p | apply bw_c | apply bw_r) | go_size))⟩
  have i3 : ¬ (m : Int) < 1 := by omega
  have i4 : (m : Int) > 5 := by omega
  clear h h1 h2 h3
  go_enter Tryz.func7, Tryz.ntmps7
  go_wp2_with (go_at_call 9; refine (HAw.out _).mono ?_; rintro e w1 ⟨rfl, J1, d1, rfl⟩)
  go_ret
  exact ⟨rfl, junk_of_below (by (repeat' first | with_reducible (first | apply Below.refl | assumption | apply bw_a | apply bw_d | apply bw_n | apply bw_p | apply bw_c | apply bw_r) | go_size))⟩
theorem l_indexTiles (w : World) (wa : Option Addr) (n wc : Nat) (Ws : List Int) (hW : Reads w wa n Ws) (_ : n ≤ 9223372036854775807) (_ : wa = none → n = 0 ∧ wc = 0) (ha : Option Addr) (m hc : Nat) (Hs : List Int) (hH : Reads w ha m Hs) (_ : m ≤ 9223372036854775807) (_ : ha = none → m = 0 ∧ hc = 0)
    (px py f : Int) (hf : -9223372036854775808 ≤ f ∧ f ≤ 9223372036854775807) (t : Int) (ht : -9223372036854775808 ≤ t ∧ t ≤ 9223372036854775807) :
    Calls Tryz.prog 7 #[.slice wa n wc, .slice ha m hc, pt px py, .int .i64 f, .int .i64 t] w fun e w' => e = .returned (.bool true) ∧ Junk w w' := by
  by_cases h : n < 1 ∨ 5 < n ∨ m < 1 ∨ 5 < m
  · exact tiles_other w wa ha n m wc hc h px py f t
  · exact tiles_fine w wa ha n m wc hc Ws Hs hW hH (by omega) (by omega) (by omega) (by omega) px py f t hf ht
end
end Go.Proofs.YthphdiigjimchaaGreat

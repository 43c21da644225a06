/- apportionref13: Crossings, Edges. The kit: BigRegion, CopyRegion, OverRegion. apportionref13: Heights. The laws of slab: square, sample, is, awake; SlabKnown. -/
import Derived.Test.YtegliapkbapigaaGreatSbMath
import Derived.Test.YtegliapkbapigaaGreatBtAll
import Derived.Test.YtegliapkbapigaaGreatReOne
import Derived.Test.YtegliapkbapigaaGreatSbOne
namespace Go.Proofs.YtegliapkbapigaaGreat
section
set_option linter.unusedVariables false
set_option linter.unusedSimpArgs false
open Go.RowKit

theorem crosK_le {p : Pt} {R : List (List Pt)} {B : Nat} (h : ∀ K ∈ R, K.length ≤ B) : ∀ k, k ≤ R.length → crosK p R k ≤ k * B
  | 0, _ => by simp [crosK]
  | k + 1, hk => by
    have h1 := crosK_le (p := p) h k (by omega)
    have h2 := cross_le p (R.getD k [])
    have h3 := h (R.getD k []) (by rw [List.getD_eq_getElem?_getD, List.getElem?_eq_getElem (by omega)]; exact List.getElem_mem _)
    rw [Nat.succ_mul]
    unfold crosK
    omega
theorem totK_le {lo hi : Int} {R : List (List Pt)} {B : Nat} (h : ∀ K ∈ R, K.length ≤ B) : ∀ k, k ≤ R.length → totK lo hi R k ≤ k * B
  | 0, _ => by simp [totK]
  | k + 1, hk => by
    have h1 := totK_le (lo := lo) (hi := hi) h k (by omega)
    have h2 : edgN lo hi (R.getD k []) ≤ (R.getD k []).length := by rw [← edg_all]; exact edgK_le _ _ _ _
    have h3 := h (R.getD k []) (by rw [List.getD_eq_getElem?_getD, List.getElem?_eq_getElem (by omega)]; exact List.getElem_mem _)
    rw [Nat.succ_mul]
    unfold totK
    omega
/-- Between two rounds: how many edges count so far. -/
def CsAt (W : World) (p : Pt) (R : List (List Pt)) (x y : Value) (wr : World) : Prop := ∃ k : Nat, y = .int .i64 (k : Int) ∧ x = .int .i64 (crosK p R k : Nat) ∧ k ≤ R.length ∧ Cls W wr
set_option maxRecDepth 100000 in
set_option maxHeartbeats 2000000 in
theorem r_sbCross (px py : Int) (w : World) (a : Option Addr) (n ca : Nat) (R : List (List Pt)) (hR : GRC w a n ca R) (hs : n ≤ 1000) (hl : ∀ K ∈ R, K.length ≤ 100000) :
    Calls Tryz.prog 19 #[pt px py, .agg #[.slice a n ca]] w fun e w' => e = .returned (.int .i64 (crossR (px, py) R : Nat)) ∧ Junk w w' := by
  have L1 := Lib.hid hR.len
  have HK := Lib.hid hR.cells
  have HL := Lib.hid hl
  unfold pt
  rw [← cros_all]
  clear hR hl
  go_enter Tryz.func19, Tryz.ntmps19
  go_wp2_with fail
  obtain ⟨W, hW⟩ : ∃ W, (w.alloc (.cells #[.int .i64 px, .int .i64 py] 40)).alloc (.cells #[.slice a n ca] 24) = W := ⟨_, rfl⟩
  have c0 : W.cell? ⟨w.heap.size, 0, none⟩ = some (.int .i64 px) := by rw [← hW]; simp [go_sem]
  have c1 : W.cell? ⟨w.heap.size, 1, none⟩ = some (.int .i64 py) := by rw [← hW]; simp [go_sem]
  have c2 : W.cell? ⟨w.heap.size + 1, 0, none⟩ = some (.slice a n ca) := by rw [← hW]; simp [go_sem]
  have hj : Below w.heap.size w W := by rw [← hW]; (repeat' (first | (with_reducible exact Below.refl _ _) | (with_reducible assumption) | (with_reducible refine Below.alloc ?_ ?_ _) | (with_reducible refine Below.drew ?_) | (with_reducible refine below_drewN ?_ _) | (with_reducible refine below_plus ?_ ?_ _ _) | (with_reducible refine Below.setCell ?_ ?_ _) | (with_reducible refine Below.setRow ?_ ?_ _) | go_size))
  have l0 : w.heap.size < W.heap.size := World.block_lt_of_cell? _ _ c0
  have l2 : w.heap.size + 1 < W.heap.size := World.block_lt_of_cell? _ _ c2
  rw [hW]
  clear hW
  go_loopw [5, 6] (fun x y wr => CsAt W (px, py) R x y wr) (fun _ y _ => n - (intOf y).toNat)
  case atStart => exact ⟨0, rfl, rfl, by omega, #[], _, (plus_nil _).symm⟩
  case round =>
    obtain ⟨k, rfl, rfl, k1, J, d, rfl⟩ := hrel
    have hck := crosK_le (p := (px, py)) HL.out k k1
    rw [L1.out] at k1
    by_cases hlt : k < n
    · rcases HK.out with h | ⟨b, o, rfl, hc⟩
      · omega
      obtain ⟨x, m, c, p1, hp⟩ := hc k hlt
      have hkR : k < R.length := by rw [L1.out]; exact hlt
      have hm : m ≤ 100000 := by rw [← hp.rd.1]; exact HL.out _ (by rw [List.getD_eq_getElem?_getD, List.getElem?_eq_getElem hkR]; exact List.getElem_mem hkR)
      have hN : crosK (px, py) R (k + 1) = crosK (px, py) R k + crossN (px, py) (R.getD k []) := rfl
      have hg := cross_le (px, py) (R.getD k [])
      rw [hp.rd.1] at hg
      have hb : b < w.heap.size := World.block_lt_of_cell? _ _ p1
      have s1 := (World.cell?_of_block (hj.block _ hb)).trans p1
      have hbW : b < W.heap.size := World.block_lt_of_cell? _ _ s1
      have hpW := hp.below hj
      have HC := Lib.hid (fun (J : Array Obj) (d : Nat) => r_inCross px py (W.plus J d) x m c (R.getD k []) (hpW.below (Junk.below ⟨J, d, rfl⟩)).rd (by omega))
      unfold pt at HC
      generalize crossN (px, py) (R.getD k []) = g at *
      have i1 : (k : Int) < (n : Int) := by omega
      have HNN := Lib.hid hN
      clear hc hN p1 hp hpW
      generalize crosK (px, py) R k = q at *
      have w1 : IntKind.i64.wrap ((q : Int) + (g : Int)) = ((q + g : Nat) : Int) := by
        have : k * 100000 ≤ 1000 * 100000 := Nat.mul_le_mul_right _ (by omega)
        simp [IntKind.wrap, IntKind.signed, IntKind.bits]; omega
      clear hck hg hm
      go_upto_region 5 with fail
      refine region_quiet_all (C := Cls W) (by kernel_rfl) (by kernel_rfl) ⟨_, _, rfl⟩ ?_
      repeat (first | (refine qw_skip (by rfl) ?_; simp only [Act.put, List.setIfInBounds_toArray, List.set_cons_succ, List.set_cons_zero]) | (refine qw_want (by rfl) (fun K hK => ?_); go_simp; first | (refine hK _ ?_; clear hK K) | (apply Exists.intro; refine ⟨?_, hK _ ?_⟩; (rintro w3_ ⟨J3_, d3_, rfl⟩; first | (with_reducible exact rfl) | (go_simp; with_reducible exact rfl) | (go_simp; (first | (with_reducible refine (L1.out _).mono ?_) | (with_reducible refine (HC.out _ _).mono ?_)); rintro e_ w_ ⟨rfl, J4_, d4_, rfl⟩; exact ⟨rfl, J3_ ++ J4_, d4_, by simp only [plus_plus, Array.append_assoc]⟩)); clear hK K)))
      refine qw_nil ?_
      rintro w4 ⟨J3, d3, rfl⟩
      go_wp2_with fail
      go_roundw
      case rel => exact ⟨k + 1, by go_num, by rw [HNN.out]; try rfl, by rw [L1.out]; omega, _, _, rfl⟩
      case measure => simp [intOf]; omega
    · obtain rfl : k = n := by omega
      have i1 : ¬ (k : Int) < (k : Int) := by omega
      clear hck
      go_wp2_with fail
      go_ret
      exact ⟨by rw [L1.out]; rfl, junk_of_below (hj.trans ((Junk.below ⟨_, _, rfl⟩).mono hj.size))⟩

/-- Between two rounds: how many edges go through so far. -/
def EgO (W : World) (lo hi : Int) (R : List (List Pt)) (x y : Value) (wr : World) : Prop := ∃ k : Nat, y = .int .i64 (k : Int) ∧ x = .int .i64 (totK lo hi R k : Nat) ∧ k ≤ R.length ∧ Cls W wr
def EgI (W : World) (lo hi : Int) (K : List Pt) (s : Nat) (x y : Value) (wr : World) : Prop := ∃ k : Nat, y = .int .i64 (k : Int) ∧ x = .int .i64 ((s + edgK lo hi K k : Nat) : Int) ∧ k ≤ K.length ∧ Cls W wr
set_option maxRecDepth 100000 in
set_option maxHeartbeats 4000000 in
theorem r_sbEdges (lo hi : Int) (w : World) (a : Option Addr) (n ca : Nat) (R : List (List Pt)) (hR : GRC w a n ca R) (hs : n ≤ 1000) (hl : ∀ K ∈ R, K.length ≤ 100000) :
    Calls Tryz.prog 23 #[.agg #[.slice a n ca], .int .i64 lo, .int .i64 hi] w fun e w' => e = .returned (.int .i64 (totE lo hi R : Nat)) ∧ Junk w w' := by
  have L1 := Lib.hid hR.len
  have HK := Lib.hid hR.cells
  have HL := Lib.hid hl
  rw [← tot_all]
  clear hR hl
  go_enter Tryz.func23, Tryz.ntmps23
  go_wp2_with fail
  obtain ⟨W, hW⟩ : ∃ W, w.alloc (.cells #[.slice a n ca] 24) = W := ⟨_, rfl⟩
  have c2 : W.cell? ⟨w.heap.size, 0, none⟩ = some (.slice a n ca) := by rw [← hW]; simp [go_sem]
  have hj : Below w.heap.size w W := by rw [← hW]; (repeat' (first | (with_reducible exact Below.refl _ _) | (with_reducible assumption) | (with_reducible refine Below.alloc ?_ ?_ _) | (with_reducible refine Below.drew ?_) | (with_reducible refine below_drewN ?_ _) | (with_reducible refine below_plus ?_ ?_ _ _) | (with_reducible refine Below.setCell ?_ ?_ _) | (with_reducible refine Below.setRow ?_ ?_ _) | go_size))
  have l2 : w.heap.size < W.heap.size := World.block_lt_of_cell? _ _ c2
  rw [hW]
  clear hW
  go_loopw [7, 8] (fun x y wr => EgO W lo hi R x y wr) (fun _ y _ => n - (intOf y).toNat)
  case atStart => exact ⟨0, rfl, rfl, by omega, #[], _, (plus_nil _).symm⟩
  case round =>
    obtain ⟨k, rfl, rfl, k1, J, d, rfl⟩ := hrel
    have hck := totK_le (lo := lo) (hi := hi) HL.out k k1
    rw [L1.out] at k1
    by_cases hlt : k < n
    · rcases HK.out with h | ⟨b, o, rfl, hc⟩
      · omega
      obtain ⟨x, m, c, p1, hp⟩ := hc k hlt
      have hkR : k < R.length := by rw [L1.out]; exact hlt
      have hm : m ≤ 100000 := by rw [← hp.rd.1]; exact HL.out _ (by rw [List.getD_eq_getElem?_getD, List.getElem?_eq_getElem hkR]; exact List.getElem_mem hkR)
      have hN : totK lo hi R (k + 1) = totK lo hi R k + edgN lo hi (R.getD k []) := rfl
      rw [← edg_all] at hN
      have hKl := hp.rd.1
      have hb : b < w.heap.size := World.block_lt_of_cell? _ _ p1
      have s1 := (World.cell?_of_block (hj.block _ hb)).trans p1
      have hbW : b < W.heap.size := World.block_lt_of_cell? _ _ s1
      have HP := Lib.hid (hp.below hj)
      have i1 : (k : Int) < (n : Int) := by omega
      generalize R.getD k [] = K at *
      have HKl := Lib.hid hKl
      have HNN := Lib.hid hN
      clear hc hN p1 hp hKl
      generalize totK lo hi R k = q at *
      have hq : q ≤ 100000000 := by
        have : k * 100000 ≤ 1000 * 100000 := Nat.mul_le_mul_right _ (by omega)
        omega
      clear hck
      obtain ⟨W1, hW1⟩ : ∃ W1, W.plus J d = W1 := ⟨_, rfl⟩
      have HW1 := Lib.hid hW1
      have s2 : W1.cell? ⟨b, o + k, none⟩ = some (.slice x m c) := by rw [← hW1]; exact (World.cell?_of_block ((Junk.below ⟨J, d, rfl⟩).block _ hbW)).trans s1
      have c3 : W1.cell? ⟨w.heap.size, 0, none⟩ = some (.slice (some ⟨b, o, none⟩) n ca) := by rw [← hW1]; exact (World.cell?_of_block ((Junk.below ⟨J, d, rfl⟩).block _ l2)).trans c2
      have z1 : w.heap.size < W1.heap.size := World.block_lt_of_cell? _ _ c3
      have z2 : b < W1.heap.size := World.block_lt_of_cell? _ _ s2
      have HP1 := Lib.hid (show PRC W1 x m c K from by rw [← hW1]; exact HP.out.below (Junk.below ⟨_, _, rfl⟩))
      rw [hW1]
      clear HP hW1
      go_wp2_with fail
      go_loopw [7, 10] (fun x y wr => EgI W1 lo hi K q x y wr) (fun _ y _ => m - (intOf y).toNat)
      case atStart => exact ⟨0, rfl, rfl, by omega, #[], _, (plus_nil _).symm⟩
      case round =>
        obtain ⟨j, rfl, rfl, j1, J2, d2, rfl⟩ := hrel
        have hej := edgK_le lo hi K j
        rw [HKl.out] at j1
        by_cases hjt : j < m
        · rcases HP1.out.rd.2 with h | ⟨g, f, rfl, hc⟩
          · omega
          obtain ⟨t, htn, et⟩ : ∃ t : Nat, t < m ∧ (j + 1) % m = t := ⟨_, Nat.mod_lt _ (by omega), rfl⟩
          obtain ⟨_, p2⟩ := hc j hjt
          obtain ⟨_, p4⟩ := hc t htn
          have hE : edgK lo hi K (j + 1) = edgK lo hi K j + oneN (thruE lo hi (K.getD j (0, 0)) (K.getD t (0, 0))) := by rw [← et, ← HKl.out]; rfl
          unfold thruE at hE
          generalize (K.getD j (0, 0)).2 = u at *
          generalize (K.getD t (0, 0)).2 = v at *
          have g1 := World.block_lt_of_cell? _ _ p2
          have i2 : (j : Int) < (m : Int) := by omega
          have i3 : (t : Int) < (m : Int) := by omega
          have e3 : ((j : Int) + 1) % (m : Int) = (t : Int) := by rw [← et]; push_cast; rfl
          have w1 : IntKind.i64.wrap ((j : Int) + 1) = (j : Int) + 1 := by simp [IntKind.wrap, IntKind.signed, IntKind.bits]; omega
          have w2 : ((j : Int) + 1).tmod (m : Int) = (t : Int) := by rw [Int.tmod_eq_emod_of_nonneg (by omega)]; exact e3
          have w3 : ¬ m = 0 := by omega
          have HEE := Lib.hid hE
          clear hc hE et
          generalize edgK lo hi K j = r at *
          have w4 : IntKind.i64.wrap (((q + r : Nat) : Int) + 1) = ((q + (r + 1) : Nat) : Int) := by simp [IntKind.wrap, IntKind.signed, IntKind.bits]; omega
          go_upto_region 9 with fail
          refine region_quiet_all (C := Cls W1) (by kernel_rfl) (by kernel_rfl) ⟨_, _, rfl⟩ ?_
          repeat (first | (refine qw_skip (by rfl) ?_; simp only [Act.put, List.setIfInBounds_toArray, List.set_cons_succ, List.set_cons_zero]) | (refine qw_want (by rfl) (fun K hK => ?_); go_simp; first | (refine hK _ ?_; clear hK K) | (apply Exists.intro; refine ⟨?_, hK _ ?_⟩; (rintro w3_ ⟨J3_, d3_, rfl⟩; first | (with_reducible exact rfl) | (go_simp; with_reducible exact rfl) | (go_simp; (first | (with_reducible refine (L1.out _).mono ?_)); rintro e_ w_ ⟨rfl, J4_, d4_, rfl⟩; exact ⟨rfl, J3_ ++ J4_, d4_, by simp only [plus_plus, Array.append_assoc]⟩)); clear hK K)))
          refine qw_nil ?_
          rintro w4 ⟨J3, d3, rfl⟩
          by_cases b1 : min u v ≤ lo
          · by_cases b2 : hi ≤ max u v
            · have HX := Lib.hid (show edgK lo hi K (j + 1) = r + 1 by rw [HEE.out, decide_eq_true b1, decide_eq_true b2]; rfl)
              have b3 : max u v ≥ hi := b2
              go_wp2_with fail
              go_roundw
              case rel => exact ⟨j + 1, by go_num, by rw [HX.out]; try rfl, by rw [HKl.out]; omega, _, _, rfl⟩
              case measure => simp [intOf]; omega
            · have HX := Lib.hid (show edgK lo hi K (j + 1) = r by rw [HEE.out, decide_eq_true b1, decide_eq_false b2]; rfl)
              have b3 : ¬ max u v ≥ hi := b2
              go_wp2_with fail
              go_roundw
              case rel => exact ⟨j + 1, by go_num, by rw [HX.out]; push_cast; rfl, by rw [HKl.out]; omega, _, _, rfl⟩
              case measure => simp [intOf]; omega
          · have HX := Lib.hid (show edgK lo hi K (j + 1) = r by rw [HEE.out, decide_eq_false b1]; rfl)
            go_wp2_with fail
            go_roundw
            case rel => exact ⟨j + 1, by go_num, by rw [HX.out]; push_cast; rfl, by rw [HKl.out]; omega, _, _, rfl⟩
            case measure => simp [intOf]; omega
        · obtain rfl : j = m := by omega
          have i2 : ¬ (j : Int) < (j : Int) := by omega
          have HX := Lib.hid (show totK lo hi R (k + 1) = q + edgK lo hi K j by rw [HNN.out, HKl.out])
          generalize edgK lo hi K j = r at *
          clear hej
          rw [← HW1.out]
          go_wp2_with fail
          go_roundw
          case rel => exact ⟨k + 1, by go_num, by rw [HX.out], by rw [L1.out]; omega, _, _, rfl⟩
          case measure => simp [intOf]; omega
    · obtain rfl : k = n := by omega
      have i1 : ¬ (k : Int) < (k : Int) := by omega
      clear hck
      go_wp2_with fail
      go_ret
      exact ⟨by rw [L1.out]; rfl, junk_of_below (hj.trans ((Junk.below ⟨_, _, rfl⟩).mono hj.size))⟩
end

section
set_option linter.unusedVariables false
set_option linter.unusedSimpArgs false
open Go.RowKit

/-- Between two rounds: how many points so far, all but the last ring's not too many. -/
def BiAt (W : World) (most : Nat) (R : List (List Pt)) (x y : Value) (wr : World) : Prop := ∃ k : Nat, y = .int .i64 (k : Int) ∧ x = .int .i64 ((allN (R.take k) : Nat) : Int) ∧ k ≤ R.length ∧ allN (R.take k) ≤ most + 8796093022208 ∧ Cls W wr
set_option maxRecDepth 100000 in
set_option maxHeartbeats 2000000 in
theorem k_BigRegion (pp : Nat) (hpp : pp ≤ 100000) (w : World) (a : Option Addr) (n ca : Nat) (R : List (List Pt)) (hR : GRC w a n ca R) (hs : n ≤ 4611686018427387903) (hl : ∀ K ∈ R, K.length ≤ 8796093022208) :
    Calls Tryz.prog 9 #[.agg #[.slice a n ca], .int .i64 (pp : Int)] w fun e w' => e = .returned (.bool (decide (22 < R.length) || decide (pp < allN R))) ∧ Junk w w' := by
  have L1 := Lib.hid hR.len
  have HK := Lib.hid hR.cells
  have HL := Lib.hid hl
  rw [hR.len]
  obtain ⟨B, hB⟩ : ∃ B, (decide (22 < n) || decide (pp < allN R)) = B := ⟨_, rfl⟩
  rw [hB]
  have HB := Lib.hid hB
  clear hR hl hB
  go_enter Tryz.func9, Tryz.ntmps9
  go_wp2_with fail
  obtain ⟨W, hW⟩ : ∃ W, w.alloc (.cells #[.slice a n ca] 24) = W := ⟨_, rfl⟩
  have c2 : W.cell? ⟨w.heap.size, 0, none⟩ = some (.slice a n ca) := by rw [← hW]; simp [go_sem]
  have hj : Below w.heap.size w W := by rw [← hW]; (repeat' (first | (with_reducible exact Below.refl _ _) | (with_reducible assumption) | (with_reducible refine Below.alloc ?_ ?_ _) | (with_reducible refine Below.drew ?_) | (with_reducible refine below_drewN ?_ _) | (with_reducible refine below_plus ?_ ?_ _ _) | (with_reducible refine Below.setCell ?_ ?_ _) | (with_reducible refine Below.setRow ?_ ?_ _) | go_size))
  have l2 : w.heap.size < W.heap.size := World.block_lt_of_cell? _ _ c2
  rw [hW]
  clear hW
  go_loopw [5, 6] (fun x y wr => BiAt W pp R x y wr) (fun _ y _ => n - (intOf y).toNat)
  case atStart => exact ⟨0, rfl, rfl, by omega, by simp [allN], #[], _, (plus_nil _).symm⟩
  case round =>
    obtain ⟨k, rfl, rfl, k1, hk, J, d, rfl⟩ := hrel
    rw [L1.out] at k1
    have hle := alln_take R k
    by_cases hgo : k < n ∧ allN (R.take k) ≤ pp
    · obtain ⟨hlt, hq⟩ := hgo
      rcases HK.out with h | ⟨b, o, rfl, hc⟩
      · omega
      obtain ⟨x, m, c, p1, hp⟩ := hc k hlt
      have hkR : k < R.length := by rw [L1.out]; exact hlt
      have hm : m ≤ 8796093022208 := by rw [← hp.rd.1]; exact HL.out _ (by rw [List.getD_eq_getElem?_getD, List.getElem?_eq_getElem hkR]; exact List.getElem_mem hkR)
      have hb : b < w.heap.size := World.block_lt_of_cell? _ _ p1
      have s1 := (World.cell?_of_block (hj.block _ hb)).trans p1
      have hbW : b < W.heap.size := World.block_lt_of_cell? _ _ s1
      have hN := alln_step hkR
      rw [hp.rd.1] at hN
      have HN := Lib.hid hN
      generalize allN (R.take k) = q at *
      have w1 : IntKind.i64.wrap ((q : Int) + (m : Int)) = ((q + m : Nat) : Int) := by simp [IntKind.wrap, IntKind.signed, IntKind.bits]; omega
      have i1 : (k : Int) < (n : Int) := by omega
      have i2 : (q : Int) ≤ (pp : Int) := by omega
      clear hc p1 hp hN hle
      go_wp2_with fail
      go_roundw
      case rel => exact ⟨k + 1, by go_num, by rw [HN.out]; try rfl, by rw [L1.out]; omega, by rw [HN.out]; omega, _, _, rfl⟩
      case measure => simp [intOf]; omega
    · have HE : Hid (B = (decide (22 < n) || decide (pp < allN (R.take k)))) := Lib.hid (by
        rw [← HB.out]
        congr 1
        rw [decide_eq_decide]
        by_cases h : k < n
        · constructor
          · intro _; omega
          · intro _; omega
        · rw [List.take_of_length_le (by rw [L1.out]; omega)])
      generalize allN (R.take k) = q at *
      clear HB hle
      by_cases h1 : k < n
      · have i1 : (k : Int) < (n : Int) := by omega
        have i2 : ¬ (q : Int) ≤ (pp : Int) := by omega
        have i3 : (q : Int) > (pp : Int) := by omega
        have HE := Lib.hid (show B = true by rw [HE.out, decide_eq_true (show pp < q by omega), Bool.or_true])
        clear hgo
        by_cases h2 : 22 < n
        · have i4 : (n : Int) > 22 := by omega
          go_wp2_with fail
          go_ret
          exact ⟨retB (by rw [HE.out]), junk_of_below (hj.trans ((Junk.below ⟨_, _, rfl⟩).mono hj.size))⟩
        · have i4 : ¬ (n : Int) > 22 := by omega
          go_wp2_with fail
          go_ret
          exact ⟨retB (by rw [HE.out]), junk_of_below (hj.trans ((Junk.below ⟨_, _, rfl⟩).mono hj.size))⟩
      · obtain rfl : k = n := by omega
        have i1 : ¬ (k : Int) < (k : Int) := by omega
        clear hgo h1
        by_cases h2 : 22 < k
        · have i4 : (k : Int) > 22 := by omega
          have HE := Lib.hid (show B = true by rw [HE.out, decide_eq_true h2, Bool.true_or])
          go_wp2_with fail
          go_ret
          exact ⟨retB (by rw [HE.out]), junk_of_below (hj.trans ((Junk.below ⟨_, _, rfl⟩).mono hj.size))⟩
        · have i4 : ¬ (k : Int) > 22 := by omega
          by_cases h3 : pp < q
          · have i5 : (q : Int) > (pp : Int) := by omega
            have HE := Lib.hid (show B = true by rw [HE.out, decide_eq_true h3, Bool.or_true])
            go_wp2_with fail
            go_ret
            exact ⟨retB (by rw [HE.out]), junk_of_below (hj.trans ((Junk.below ⟨_, _, rfl⟩).mono hj.size))⟩
          · have i5 : ¬ (q : Int) > (pp : Int) := by omega
            have HE := Lib.hid (show B = false by rw [HE.out, decide_eq_false h2, decide_eq_false h3]; rfl)
            go_wp2_with fail
            go_ret
            exact ⟨retB (by rw [HE.out]), junk_of_below (hj.trans ((Junk.below ⟨_, _, rfl⟩).mono hj.size))⟩

set_option maxRecDepth 100000 in
theorem k_CopyRegion (w : World) (a : Option Addr) (n ca : Nat) (R : List (List Pt)) (hR : GRC w a n ca R) (hs : n ≤ 1000) (hl : ∀ K ∈ R, K.length ≤ 100000) :
    Calls Tryz.prog 11 #[.agg #[.slice a n ca]] w fun e w' => (∃ x c ps, e = .returned (.agg #[.slice x n c]) ∧ GOwn w' w.heap.size (.slice x n c) ps ∧ ps.map (·.2) = R) ∧ Junk w w' := by
  have HC := Lib.hid (fun w' h => k_CopyRings w' a n ca R h hs hl)
  have HR := Lib.hid hR
  have L1 := Lib.hid hR.len
  clear hR
  go_enter Tryz.func11, Tryz.ntmps11
  go_wp2_with (go_at_call 31; refine (HC.out _ (HR.out.below (by (repeat' (first | (with_reducible exact Below.refl _ _) | (with_reducible assumption) | (with_reducible refine Below.alloc ?_ ?_ _) | (with_reducible refine Below.drew ?_) | (with_reducible refine below_drewN ?_ _) | (with_reducible refine below_plus ?_ ?_ _ _) | (with_reducible refine Below.setCell ?_ ?_ _) | (with_reducible refine Below.setRow ?_ ?_ _) | go_size))))).mono ?_; rintro e w1 ⟨⟨v, rfl, ps, hv, hps⟩, J1, d1, rfl⟩; obtain ⟨x, c, rfl, _⟩ := hv.grc; have HG := Lib.hid hv; have HPS := Lib.hid hps; clear hv hps)
  have hpl : ps.length = n := by have := congrArg List.length HPS.out; rw [List.length_map, L1.out] at this; exact this
  rw [hpl] at HG
  refine bodyPost_ret (results_reg rfl _ _ (w.heap.size + 1) #[.slice x n c] rfl (by simp [go_sem, hpl]) rfl) rfl ⟨⟨_, _, ps, rfl, ?_, HPS.out⟩, junk_of_below (by (repeat' (first | (with_reducible exact Below.refl _ _) | (with_reducible assumption) | (with_reducible refine Below.alloc ?_ ?_ _) | (with_reducible refine Below.drew ?_) | (with_reducible refine below_drewN ?_ _) | (with_reducible refine below_plus ?_ ?_ _ _) | (with_reducible refine Below.setCell ?_ ?_ _) | (with_reducible refine Below.setRow ?_ ?_ _) | go_size)))⟩
  have h1 := HG.out
  have h2 : GOwn ((((w.alloc (.cells #[.slice a n ca] 24)).alloc (.cells #[.slice none 0 0] 24)).plus J1 d1).setCell ⟨w.heap.size + 1, 0, none⟩ (.slice x n c)) _ _ ps :=
    h1.set (by simp) _
  rw [hpl]
  have h3 := h2.base (base' := w.heap.size) (by simp; omega)
  simpa [go_sem] using h3

/-- A row of points between two bounds, whatever it holds. -/
def PRow (base T : Nat) (w : World) (v : Value) (m : Nat) : Prop := (v = .slice none 0 0 ∧ m = 0) ∨ ∃ g cap cur, v = .slice (some ⟨g, 0, none⟩) m cap ∧ base ≤ g ∧ g < T ∧ w.heap[g]? = some (.cells cur 40 (0, 0)) ∧ m ≤ cap ∧ cur.size = cap * 2
theorem set_heap {w : World} {b o : Nat} {u : Value} {cur : Array Value} {ty : TypeId} (h : w.heap[b]? = some (.cells cur ty (0, 0))) : ∃ cur', (w.setCell ⟨b, o, none⟩ u).heap[b]? = some (.cells cur' ty (0, 0)) ∧ cur'.size = cur.size := by
  obtain ⟨hlt, hk⟩ := Array.getElem?_eq_some_iff.1 h
  refine ⟨cur.setIfInBounds o u, ?_, by simp⟩
  show (w.heap.modify b _)[b]? = _
  rw [Array.getElem?_eq_getElem (by rw [Array.size_modify]; exact hlt), Array.getElem_modify_self, hk]
  rfl
theorem PRow.set {base T : Nat} {w : World} {v : Value} {m : Nat} (h : PRow base T w v m) (b o : Nat) (u : Value) : PRow base T (w.setCell ⟨b, o, none⟩ u) v m := by
  rcases h with h | ⟨g, cap, cur, h1, h2, h3, h4, h5, h6⟩
  · exact .inl h
  · by_cases e : g = b
    · subst e
      obtain ⟨cur', k1, k2⟩ := set_heap (o := o) (u := u) h4
      exact .inr ⟨g, cap, cur', h1, h2, h3, k1, h5, by rw [k2]; exact h6⟩
    · exact .inr ⟨g, cap, cur, h1, h2, h3, (Below.heap_setCell _ _ _ _ e).trans h4, h5, h6⟩
/-- Only blocks between two bounds are changed. -/
structure KeptR (base T : Nat) (w w' : World) : Prop where
  low : Below base w w'
  high : ∀ k, T ≤ k → k < w.heap.size → w'.heap[k]? = w.heap[k]?
/-- While a region is written over. -/
structure OvK (W : World) (base T rb : Nat) (ps : List (Value × List Pt)) (wr : World) : Prop where
  kept : KeptR base T W wr
  row : wr.heap[rb]? = W.heap[rb]?
  each : ∀ p ∈ ps, PRow base T wr p.1 p.2.length
theorem OvK.set {W : World} {base T rb : Nat} {ps : List (Value × List Pt)} {wr : World} (h : OvK W base T rb ps wr) {g : Nat} (h1 : base ≤ g) (h2 : g < T) (h3 : g ≠ rb) (o : Nat) (u : Value) : OvK W base T rb ps (wr.setCell ⟨g, o, none⟩ u) :=
  ⟨⟨h.kept.low.setCell h1 _, fun k hk hl => (Below.heap_setCell _ _ _ k (show k ≠ g by omega)).trans (h.kept.high k hk hl)⟩, (Below.heap_setCell _ _ _ rb (fun e => h3 e.symm)).trans h.row, fun p hp => (h.each p hp).set _ _ _⟩
def OvO (W : World) (base T rb : Nat) (ps : List (Value × List Pt)) (x : Value) (wr : World) : Prop := ∃ k : Nat, x = .int .i64 (k : Int) ∧ k ≤ ps.length ∧ OvK W base T rb ps wr
def OvI (W : World) (base T rb : Nat) (ps : List (Value × List Pt)) (m : Nat) (x : Value) (wr : World) : Prop := ∃ k : Nat, x = .int .i64 (k : Int) ∧ k ≤ m ∧ OvK W base T rb ps wr
set_option maxRecDepth 100000 in
set_option maxHeartbeats 4000000 in
theorem k_OverRegion (W0 : World) (base : Nat) (x : Option Addr) (c n : Nat) (ps : List (Value × List Pt)) (hG : GOwn W0 base (.slice x n c) ps) (hn : ps.length = n) (hb : base ≤ W0.heap.size) (w : World) (hW : Below W0.heap.size W0 w) (hs : n ≤ 1000) (hl : ∀ p ∈ ps, p.2.length ≤ 100000) :
    Calls Tryz.prog 15 #[.agg #[.slice x n c]] w fun e w' => e = .returned (.tuple #[]) ∧ KeptR base W0.heap.size w w' := by
  have hG2 := hG.below hW
  obtain ⟨_, hr⟩ := hG2.row
  have hrow : ∃ rb, n = 0 ∨ (x = some ⟨rb, 0, none⟩ ∧ rb < W0.heap.size ∧ (∃ cur, w.heap[rb]? = some (.cells cur 25 (0, 0)) ∧ ∀ i, (h : i < ps.length) → w.cell? ⟨rb, i, none⟩ = some (ps[i].1))) := by
    rcases hr with ⟨e, h0⟩ | ⟨g, cap, cur, e, h1, h2, h3, h4, h5, h6⟩
    · exact ⟨0, .inl (by omega)⟩
    · refine ⟨g, .inr ⟨by injection e, ?_, cur, h2, fun i hi => ?_⟩⟩
      · obtain ⟨_, hr0⟩ := hG.row
        rcases hr0 with ⟨e2, h0⟩ | ⟨g', cap', cur', e2, k1, k2, _⟩
        · rw [e] at e2; cases e2
        · rw [e] at e2
          injection e2 with e2
          injection e2 with e2
          injection e2 with e2
          subst e2
          exact heap_lt k2
      · have e3 : (cur.toList.take ps.length)[i]? = some ps[i].1 := by
          rw [Nat.mul_one] at h6
          rw [h6, List.getElem?_map, List.getElem?_eq_getElem hi]; rfl
        rw [List.getElem?_take_of_lt hi] at e3
        simp [World.cell?, h2]
        simpa using e3
  obtain ⟨rb, hrow⟩ := hrow
  have heach : ∀ p ∈ ps, PRow base W0.heap.size w p.1 p.2.length := fun p hp => by
    obtain ⟨_, h2⟩ := hG2.each p hp
    obtain ⟨_, h3⟩ := hG.each p hp
    rcases h2 with ⟨e, h0⟩ | ⟨g, cap, cur, e, k1, k2, k3, k4, k5, k6⟩
    · exact .inl ⟨e, h0⟩
    · refine .inr ⟨g, cap, cur, e, k1, ?_, k2, k3, k5⟩
      rcases h3 with ⟨e2, _⟩ | ⟨g', cap', cur', e2, j1, j2, _⟩
      · rw [e] at e2; cases e2
      · rw [e] at e2
        injection e2 with e2
        injection e2 with e2
        injection e2 with e2
        subst e2
        exact heap_lt j2
  have hT := hW.size
  have HEa := Lib.hid heach
  have HRo := Lib.hid hrow
  have HL := Lib.hid hl
  have HN := Lib.hid hn
  obtain ⟨T, hTT⟩ : ∃ T, W0.heap.size = T := ⟨_, rfl⟩
  rw [hTT] at HEa HRo hT hb ⊢
  clear hG hG2 hr hrow heach hl hn hTT hW
  go_enter Tryz.func15, Tryz.ntmps15
  go_wp2_with fail
  obtain ⟨W, hW⟩ : ∃ W, w.alloc (.cells #[.slice x n c] 24) = W := ⟨_, rfl⟩
  have c2 : W.cell? ⟨w.heap.size, 0, none⟩ = some (.slice x n c) := by rw [← hW]; simp [go_sem]
  have hj : Below w.heap.size w W := by rw [← hW]; (repeat' (first | (with_reducible exact Below.refl _ _) | (with_reducible assumption) | (with_reducible refine Below.alloc ?_ ?_ _) | (with_reducible refine Below.drew ?_) | (with_reducible refine below_drewN ?_ _) | (with_reducible refine below_plus ?_ ?_ _ _) | (with_reducible refine Below.setCell ?_ ?_ _) | (with_reducible refine Below.setRow ?_ ?_ _) | go_size))
  have l2 : w.heap.size < W.heap.size := World.block_lt_of_cell? _ _ c2
  rw [hW]
  clear hW
  have HJ := Lib.hid hj
  go_loopw [2] (fun x wr => OvO W base T rb ps x wr) (fun x _ => n - (intOf x).toNat)
  case atStart => exact ⟨0, rfl, by omega, ⟨⟨Below.refl _ _, fun k _ _ => rfl⟩, rfl, fun p hp => by
    rcases HEa.out p hp with h | ⟨g, cap, cur, e, k1, k2, k3, k4, k5⟩
    · exact .inl h
    · exact .inr ⟨g, cap, cur, e, k1, k2, (hj.block g (heap_lt k3)).trans k3, k4, k5⟩⟩⟩
  case round =>
    obtain ⟨k, rfl, k1, hK⟩ := hrel
    rw [HN.out] at k1
    have HK := Lib.hid hK
    have p0 : wr.cell? ⟨w.heap.size, 0, none⟩ = some (.slice x n c) := (World.cell?_of_block (a := ⟨w.heap.size, 0, none⟩) (hK.kept.high w.heap.size hT l2)).trans c2
    have l3 := World.block_lt_of_cell? _ _ p0
    clear hK
    by_cases hlt : k < n
    · rcases HRo.out with h | ⟨rfl, hrb, ⟨cur, hcur, hc⟩⟩
      · omega
      have hkp : k < ps.length := by rw [HN.out]; exact hlt
      have p1 : wr.cell? ⟨rb, k, none⟩ = some (ps[k].1) := (World.cell?_of_block (a := ⟨rb, k, none⟩) (HK.out.row)).trans ((World.cell?_of_block (a := ⟨rb, k, none⟩) (hj.block rb (by omega))).trans (hc k hkp))
      have hpr := HEa.out _ (List.getElem_mem hkp)
      have hlen := HL.out _ (List.getElem_mem hkp)
      have hmem := List.getElem_mem hkp
      generalize ps[k] = q at *
      obtain ⟨v, L⟩ := q
      simp only at p1 hpr hlen
      have i1 : (k : Int) < (n : Int) := by omega
      have HMm := Lib.hid hmem
      have hx : ∃ y m d, v = .slice y m d ∧ m = L.length := by
        rcases hpr with ⟨rfl, h⟩ | ⟨g, cap, cur, rfl, _⟩
        · exact ⟨_, _, _, rfl, h.symm⟩
        · exact ⟨_, _, _, rfl, rfl⟩
      obtain ⟨y, m, d, rfl, hm⟩ := hx
      rw [← hm] at hlen
      have HM := Lib.hid hm
      have lrb := World.block_lt_of_cell? _ _ p1
      have HC := Lib.hid hc
      have HCu := Lib.hid hcur
      clear hpr hm hmem hc hcur
      go_wp2_with fail
      go_loopw [3] (fun x wr => OvI W base T rb ps m x wr) (fun x _ => m - (intOf x).toNat)
      case atStart => exact ⟨0, rfl, by omega, HK.out⟩
      case round =>
        obtain ⟨j, rfl, j1, hK⟩ := hrel
        have HK2 := Lib.hid hK
        have p0 : wr.cell? ⟨w.heap.size, 0, none⟩ = some (.slice (some ⟨rb, 0, none⟩) n c) := (World.cell?_of_block (a := ⟨w.heap.size, 0, none⟩) (hK.kept.high w.heap.size hT l2)).trans c2
        have hWr : W.cell? ⟨rb, k, none⟩ = some (.slice y m d) := by
          have := p1
          rw [World.cell?_of_block (a := ⟨rb, k, none⟩) HK.out.row] at this
          exact this
        have p2 : wr.cell? ⟨rb, k, none⟩ = some (.slice y m d) := (World.cell?_of_block (a := ⟨rb, k, none⟩) hK.row).trans hWr
        have l4 := World.block_lt_of_cell? _ _ p0
        have l5 := World.block_lt_of_cell? _ _ p2
        clear hK
        by_cases hjt : j < m
        · rcases HK2.out.each _ HMm.out with ⟨e, h0⟩ | ⟨g, cap, cu, e, g1, g2, g3, g4, g5⟩
          · simp only at e h0
            have := HM.out
            omega
          simp only at e g4
          injection e with e1 e2 e3
          subst e1
          have hml := HM.out
          have hg : g ≠ rb := fun e => by
            subst e
            have h1 := (HK2.out.row).trans ((hj.block g (by omega)).trans HCu.out)
            rw [g3] at h1
            injection h1 with h1
            injection h1 with _ h1 _
            exact absurd h1 (by decide)
          have u1 : ∃ u, wr.cell? ⟨g, j * 2, none⟩ = some u := ⟨cu[j * 2]'(by omega), by simp [World.cell?, g3]⟩
          have u2 : ∃ u, wr.cell? ⟨g, j * 2 + 1, none⟩ = some u := ⟨cu[j * 2 + 1]'(by omega), by simp [World.cell?, g3]⟩
          obtain ⟨a1, u1⟩ := u1
          obtain ⟨a2, u2⟩ := u2
          have f1 : wr.frozen? ⟨g, j * 2, none⟩ = false := by simp [World.frozen?, g3]
          have f2 : wr.frozen? ⟨g, j * 2 + 1, none⟩ = false := by simp [World.frozen?, g3]
          have l6 := World.block_lt_of_cell? _ _ u1
          have i2 : (j : Int) < (m : Int) := by omega
          clear g3 g4 g5 e2 e3
          go_wp2_with fail
          go_roundw
          case rel => exact ⟨j + 1, by go_num, by omega, (HK2.out.set g1 g2 hg _ _).set g1 g2 hg _ _⟩
          case measure => simp [intOf]; omega
        · obtain rfl : j = m := by omega
          have i2 : ¬ (j : Int) < (j : Int) := by omega
          go_wp2_with fail
          go_roundw
          case rel => exact ⟨k + 1, by go_num, by rw [HN.out]; omega, HK2.out⟩
          case measure => simp [intOf]; omega
    · obtain rfl : k = n := by omega
      have i1 : ¬ (k : Int) < (k : Int) := by omega
      go_wp2_with fail
      go_end0
      exact ⟨rfl, ⟨(HJ.out.mono (by omega)).trans HK.out.kept.low, fun k h1 h2 => (HK.out.kept.high k h1 (by have := HJ.out.size; omega)).trans (HJ.out.block k h2)⟩⟩
end

section
set_option linter.unusedVariables false
set_option linter.unusedSimpArgs false
open Go.RowKit

theorem hgtS_snoc (ys : List Int) (y : Int) : hgtS (ys ++ [y]) = insH (hgtS ys) y := by unfold hgtS; rw [List.foldl_append]; rfl
theorem hgtS_len (ys : List Int) : (hgtS ys).length ≤ ys.length := by
  have key : ∀ (ys l : List Int), (ys.foldl insH l).length ≤ ys.length + l.length := by
    intro ys
    induction ys with
    | nil => intro l; simp
    | cons y ys ih =>
      intro l
      have h1 := ih (insH l y)
      have h2 : (insH l y).length ≤ l.length + 1 := by
        unfold insH
        split
        · omega
        · rw [List.length_append, List.length_cons, List.length_take, List.length_drop]
          have := at_le l y
          omega
      rw [List.foldl_cons, List.length_cons]
      omega
  have := key ys []
  rw [List.length_nil, Nat.add_zero] at this
  exact this
theorem reads_takeI {w : World} {a : Option Addr} {l : List Int} {j : Nat} (h : Reads w a l.length l) (hj : j ≤ l.length) : Reads w a j (l.take j) := by
  obtain ⟨h1, h2, h3⟩ := h
  have g : ∀ i, i < j → (l.take j).getD i 0 = l.getD i 0 := fun i hi => by
    rw [List.getD_eq_getElem?_getD, List.getElem?_take_of_lt hi, List.getD_eq_getElem?_getD]
  refine ⟨by rw [List.length_take]; omega, fun i hi => by rw [g i hi]; exact h2 i (by omega), ?_⟩
  rcases h3 with h3 | ⟨b, o, he, hc⟩
  · exact .inl (by omega)
  · exact .inr ⟨b, o, he, fun i hi => by rw [g i hi]; exact hc i (by omega)⟩
theorem reads_dropI {w : World} {a : Option Addr} {c : Nat} {l : List Int} {j : Nat} (h : Reads w a l.length l) (hk : SOk a l.length c) (hj : j ≤ l.length) : Reads w (dropA a j c) (l.length - j) (l.drop j) := by
  obtain ⟨h1, h2, h3⟩ := h
  have g : ∀ i, i < l.length - j → (l.drop j).getD i 0 = l.getD (j + i) 0 := fun i hi => by
    rw [List.getD_eq_getElem?_getD, List.getElem?_drop, List.getD_eq_getElem?_getD]
  refine ⟨by rw [List.length_drop], fun i hi => by rw [g i hi]; exact h2 _ (by omega), ?_⟩
  have := hk.le
  by_cases hz : l.length - j = 0
  · exact .inl hz
  · rcases h3 with h3 | ⟨b, o, rfl, hc⟩
    · omega
    · refine .inr ⟨b, o + j, ?_, fun i hi => ?_⟩
      · unfold dropA; rw [if_neg (by omega)]
        show some ((⟨b, o, none⟩ : Addr).add j) = _
        congr 1
        unfold Addr.add; split <;> simp_all
      · rw [g i hi, Nat.add_assoc]; exact hc _ (by omega)
/-- A slice that reads as a list of numbers. -/
def HgtV (w : World) (l : List Int) (v : Value) : Prop := ∃ x c, v = .slice x l.length c ∧ Reads w x l.length l
/-- Between two rounds: the heights so far. -/
def HgO (W : World) (R : List (List Pt)) (v x : Value) (wr : World) : Prop := ∃ (i : Nat) (l : List Int), x = .int .i64 (i : Int) ∧ i ≤ R.length ∧ l = hgtS ((R.take i).flatten.map fun p : Pt => p.2) ∧ wr.ownsRow W.heap.size 3 1 v l.length (ints l) ∧ Below W.heap.size W wr
def HgM (W : World) (Y : List Int) (K : List Pt) (v x : Value) (wr : World) : Prop := ∃ (i : Nat) (l : List Int), x = .int .i64 (i : Int) ∧ i ≤ K.length ∧ l = hgtS (Y ++ (K.take i).map fun p : Pt => p.2) ∧ wr.ownsRow W.heap.size 3 1 v l.length (ints l) ∧ Below W.heap.size W wr
def HgI (W : World) (l : List Int) (y : Int) (x : Value) (wr : World) : Prop := ∃ j : Nat, x = .int .i64 (j : Int) ∧ j ≤ atH l y ∧ Cls W wr
set_option maxRecDepth 100000 in
set_option maxHeartbeats 8000000 in
theorem r_sbHeights (w : World) (a : Option Addr) (n ca : Nat) (R : List (List Pt)) (hR : GRC w a n ca R) (hs : n ≤ 1000) (hl : allN R ≤ 100000) (hf : ∀ p ∈ R.flatten, -9223372036854775808 ≤ p.2 ∧ p.2 ≤ 9223372036854775807) :
    Calls Tryz.prog 20 #[.agg #[.slice a n ca]] w fun e w' => (∃ v, e = .returned v ∧ HgtV w' (hgtL R) v) ∧ Junk w w' := by
  have L1 := Lib.hid hR.len
  have HK := Lib.hid hR.cells
  have HF := Lib.hid hf
  have HL := Lib.hid hl
  have HFit := Lib.hid (show ∀ l : List Int, (∀ y ∈ l, -9223372036854775808 ≤ y ∧ y ≤ 9223372036854775807) → Fit64 l l.length from fun l h i hi => by
    have := h (l.getD i 0) (getD_memI hi)
    exact this)
  clear hR hf hl
  go_enter Tryz.func20, Tryz.ntmps20
  go_wp2_with fail
  obtain ⟨W, hW⟩ : ∃ W, w.alloc (.cells #[.slice a n ca] 24) = W := ⟨_, rfl⟩
  have c2 : W.cell? ⟨w.heap.size, 0, none⟩ = some (.slice a n ca) := by rw [← hW]; simp [go_sem]
  have hj : Below w.heap.size w W := by rw [← hW]; (repeat' (first | (with_reducible exact Below.refl _ _) | (with_reducible assumption) | (with_reducible refine Below.alloc ?_ ?_ _) | (with_reducible refine Below.drew ?_) | (with_reducible refine below_drewN ?_ _) | (with_reducible refine below_plus ?_ ?_ _ _) | (with_reducible refine Below.setCell ?_ ?_ _) | (with_reducible refine Below.setRow ?_ ?_ _) | go_size))
  have l2 : w.heap.size < W.heap.size := World.block_lt_of_cell? _ _ c2
  rw [hW]
  have HJ := Lib.hid hj
  clear hW
  go_loopw [3, 4] (fun v x wr => HgO W R v x wr) (fun _ x _ => n - (intOf x).toNat)
  case atStart => exact ⟨0, [], rfl, by omega, rfl, inil_owns _ _, Below.refl _ _⟩
  case round =>
    obtain ⟨i, l0, rfl, k1, hl0, hown, hB⟩ := hrel
    rw [L1.out] at k1
    have hsz := hB.size
    have q0 := (World.cell?_of_block (a := ⟨w.heap.size, 0, none⟩) (hB.block _ l2)).trans c2
    have l3 := World.block_lt_of_cell? _ _ q0
    by_cases hlt : i < n
    · rcases HK.out with h | ⟨b, o, rfl, hc⟩
      · omega
      obtain ⟨x, m, c, p1, hp⟩ := hc i hlt
      have hkR : i < R.length := by rw [L1.out]; exact hlt
      have hKR := ring_inR hkR
      have hmB := Nat.le_trans (ring_leR hKR) HL.out
      have hFl := flat_step hkR
      have hb : b < w.heap.size := World.block_lt_of_cell? _ _ p1
      have s1 := (World.cell?_of_block (hj.block _ hb)).trans p1
      have lbW := World.block_lt_of_cell? _ _ s1
      have hpW := hp.below hj
      have hfK : ∀ p ∈ R.getD i [], -9223372036854775808 ≤ p.2 ∧ p.2 ≤ 9223372036854775807 := fun p hp => HF.out p (List.mem_flatten.2 ⟨_, hKR, hp⟩)
      have hfY : ∀ y ∈ (R.take i).flatten.map (fun p : Pt => p.2), -9223372036854775808 ≤ y ∧ y ≤ 9223372036854775807 := fun y hy => by
        obtain ⟨p, hp, rfl⟩ := List.mem_map.1 hy
        obtain ⟨K, hK, hpK⟩ := List.mem_flatten.1 hp
        exact HF.out p (List.mem_flatten.2 ⟨K, List.mem_of_mem_take hK, hpK⟩)
      have hYl : ((R.take i).flatten.map (fun p : Pt => p.2)).length ≤ 100000 := by
        rw [List.length_map, List.length_flatten]
        have := alln_take R i
        unfold allN at this
        have h2 := HL.out
        unfold allN at h2
        omega
      have hN : (R.take (i + 1)).flatten.map (fun p : Pt => p.2) = (R.take i).flatten.map (fun p : Pt => p.2) ++ (R.getD i []).map (fun p : Pt => p.2) := by rw [hFl, List.map_append]
      have hKl := hp.rd.1
      generalize R.getD i [] = K at *
      generalize (R.take i).flatten.map (fun p : Pt => p.2) = Y at *
      rw [hKl] at hmB
      have HKl := Lib.hid hKl
      have HN := Lib.hid hN
      have HFK := Lib.hid hfK
      have HFY := Lib.hid hfY
      have HPW := Lib.hid hpW
      have i1 : (i : Int) < (n : Int) := by omega
      have HO := Lib.hid (show ∀ (W2 : World) (v : Value), W2.ownsRow W.heap.size 3 1 v l0.length (ints l0) → W2.ownsRow W.heap.size 3 1 v (hgtS (Y ++ (K.take 0).map fun p : Pt => p.2)).length (ints (hgtS (Y ++ (K.take 0).map fun p : Pt => p.2))) from fun W2 v h => by rw [List.take_zero, List.map_nil, List.append_nil, ← hl0]; exact h)
      have HOW := Lib.hid hown
      have HB := Lib.hid hB
      clear hc hp p1 hpW hFl hN hKl hfK hfY hl0 hown hB hKR
      go_wp2_with fail
      go_loopw [3, 5] (fun v x wr => HgM W Y K v x wr) (fun _ x _ => m - (intOf x).toNat)
      case atStart => exact ⟨0, _, rfl, by omega, rfl, HO.out _ _ HOW.out, HB.out⟩
      case round =>
        obtain ⟨k, l, rfl, k2, hl, hown, hB⟩ := hrel
        rw [HKl.out] at k2
        have hsz := hB.size
        have q0 := (World.cell?_of_block (a := ⟨w.heap.size, 0, none⟩) (hB.block _ l2)).trans c2
        have q1 := (World.cell?_of_block (hB.block _ lbW)).trans s1
        have l3 := World.block_lt_of_cell? _ _ q0
        have l4 := World.block_lt_of_cell? _ _ q1
        by_cases hkt : k < m
        · rcases HPW.out.rd.2 with h | ⟨g, f, rfl, hpc⟩
          · omega
          obtain ⟨_, p2⟩ := hpc k hkt
          have hg := World.block_lt_of_cell? _ _ p2
          have q2 := (World.cell?_of_block (a := ⟨g, f + k * 2 + 1, none⟩) (hB.block _ hg)).trans p2
          have l5 := World.block_lt_of_cell? _ _ q2
          have hkK : k < K.length := by rw [HKl.out]; exact hkt
          have hst : Y ++ (K.take (k + 1)).map (fun p : Pt => p.2) = (Y ++ (K.take k).map (fun p : Pt => p.2)) ++ [(K.getD k (0, 0)).2] := by
            rw [List.take_succ_eq_append_getElem hkK, List.map_append, List.getD_eq_getElem?_getD, List.getElem?_eq_getElem hkK, List.append_assoc]; rfl
          have hfy := HFK.out (K.getD k (0, 0)) (by rw [List.getD_eq_getElem?_getD, List.getElem?_eq_getElem hkK]; exact List.getElem_mem hkK)
          have hins := hgtS_snoc (Y ++ (K.take k).map (fun p : Pt => p.2)) (K.getD k (0, 0)).2
          rw [← hst, ← hl] at hins
          have hasc : AscH l := by rw [hl]; exact hgt_asc _
          have hfl : ∀ y ∈ l, -9223372036854775808 ≤ y ∧ y ≤ 9223372036854775807 := fun y hy => by
            rw [hl, hgt_mem, List.mem_append] at hy
            rcases hy with hy | hy
            · exact HFY.out y hy
            · obtain ⟨p, hp, rfl⟩ := List.mem_map.1 hy
              exact HFK.out p (List.mem_of_mem_take hp)
          have hll : l.length ≤ 200000 := by
            rw [hl]
            refine Nat.le_trans (hgtS_len _) ?_
            rw [List.length_append, List.length_map, List.length_take]
            omega
          generalize (K.getD k (0, 0)).2 = y at *
          obtain ⟨sa, sc, rfl, hSr, hSk⟩ := iown_ok hown (HFit.out l hfl)
          have HSr := Lib.hid hSr
          have HSk := Lib.hid hSk
          have HOW2 := Lib.hid hown
          have HB2 := Lib.hid hB
          have HIns := Lib.hid hins
          have HFy := Lib.hid hfy
          have i2 : (k : Int) < (m : Int) := by omega
          obtain ⟨wo, rfl⟩ : ∃ wo : World, wo = wr := ⟨_, rfl⟩
          have hal := at_le l y
          clear hpc p2 hst hfy hins hl hown hB hSr hSk hfl
          go_wp2_with fail
          go_loopw [7] (fun x wr => HgI wo l y x wr) (fun x _ => l.length - (intOf x).toNat)
          case atStart => exact ⟨0, rfl, by omega, #[], _, (plus_nil _).symm⟩
          case round =>
            obtain ⟨j, rfl, j1, J, d, rfl⟩ := hrel
            by_cases hjl : j < l.length
            · rcases HSr.out.2.2 with h | ⟨bs, os, rfl, hsc⟩
              · omega
              have t1 := hsc j hjl
              have lbs := World.block_lt_of_cell? _ _ t1
              have hmore := at_more (y := y) j1 hjl
              have hhere := at_here (y := y) (l := l) j1
              obtain ⟨z, hz⟩ : ∃ z, l.getD j 0 = z := ⟨_, rfl⟩
              rw [hz] at t1 hmore hhere
              have i3 : (j : Int) < (l.length : Int) := by omega
              clear hsc
              by_cases hzy : z < y
              · have hm2 := hmore hzy
                clear hmore hhere hz
                go_wp2_with fail
                go_roundw
                case rel => exact ⟨j + 1, by go_num, by omega, _, _, rfl⟩
                case measure => simp [intOf]; omega
              · have hh := hhere (.inr (by omega))
                have HHr := Lib.hid hh
                clear hmore hhere
                by_cases hey : z = y
                · have HE := Lib.hid (show insH l y = l by
                    unfold insH
                    rw [if_pos]
                    rw [← HHr.out]
                    refine ⟨?_, hjl⟩
                    rw [List.getD_eq_getElem?_getD, List.getElem?_eq_getElem hjl] at hz ⊢
                    have hz' : l[j] = z := hz
                    show l[j] = y
                    rw [hz', hey])
                  have e1 : (z == y) = true := by rw [beq_iff_eq]; exact hey
                  clear hz hey hh
                  go_wp2_with fail
                  go_roundw
                  case rel => exact ⟨k + 1, _, by go_num, by rw [HKl.out]; omega, rfl, by rw [HIns.out, HE.out]; exact powns_below HOW2.out (by ((try simp only [← Array.append_assoc]); repeat' (first | (with_reducible exact Below.refl _ _) | (with_reducible assumption) | (with_reducible refine Below.alloc ?_ ?_ _) | (with_reducible refine Below.drew ?_) | (with_reducible refine below_drewN ?_ _) | (with_reducible exact below_d _ _ _ _ _) | (with_reducible refine below_snoc _ _ ?_ ?_) | (with_reducible refine below_plus ?_ ?_ _ _) | (with_reducible refine Below.setCell ?_ ?_ _) | (with_reducible refine Below.setRow ?_ ?_ _) | go_size))), HB2.out.trans (by ((try simp only [← Array.append_assoc]); repeat' (first | (with_reducible exact Below.refl _ _) | (with_reducible assumption) | (with_reducible refine Below.alloc ?_ ?_ _) | (with_reducible refine Below.drew ?_) | (with_reducible refine below_drewN ?_ _) | (with_reducible exact below_d _ _ _ _ _) | (with_reducible refine below_snoc _ _ ?_ ?_) | (with_reducible refine below_plus ?_ ?_ _ _) | (with_reducible refine Below.setCell ?_ ?_ _) | (with_reducible refine Below.setRow ?_ ?_ _) | go_size)))⟩
                  case measure => simp [intOf]; omega
                · have HE := Lib.hid (show insH l y = l.take j ++ y :: l.drop j by
                    unfold insH
                    rw [if_neg, ← HHr.out]
                    rintro ⟨h1, _⟩
                    rw [← HHr.out] at h1
                    rw [List.getD_eq_getElem?_getD, List.getElem?_eq_getElem hjl] at hz h1
                    have hz' : l[j] = z := hz
                    have h1' : l[j] = y := h1
                    exact hey (by rw [← hz', h1']))
                  have e1 : (z == y) = false := by rw [beq_eq_false_iff_ne]; exact hey
                  clear hz hey hh
                  have jl : j ≤ l.length := by omega
                  have HN3 := Lib.hid (show j + 1 + (l.length - j) = (insH l y).length ∧ (l.take j ++ [y]) ++ l.drop j = insH l y by
                    rw [HE.out]
                    refine ⟨?_, by rw [List.append_assoc]; rfl⟩
                    rw [List.length_append, List.length_cons, List.length_take, List.length_drop]
                    omega)
                  have HRd := Lib.hid (show Reads wo (some ⟨bs, os, none⟩) j (l.take j) from reads_takeI HSr.out jl)
                  have nsc : ¬ sc = j := by have := HSk.out.le; omega
                  have HRe := Lib.hid (show Reads wo (some ⟨bs, os + j, none⟩) (l.length - j) (l.drop j) by
                    have := reads_dropI HSr.out HSk.out jl
                    unfold dropA at this
                    rw [if_neg nsc] at this
                    have ha : (⟨bs, os, none⟩ : Addr).add j = ⟨bs, os + j, none⟩ := by unfold Addr.add; split <;> simp_all
                    rw [← ha]
                    exact this)
                  have jsc : j ≤ sc := Nat.le_trans jl HSk.out.le
                  have HNl := Lib.hid (show (some (⟨bs, os, none⟩ : Addr)) = none → j = 0 ∧ sc = 0 from fun h => by have h1 := HSk.out.nil h; omega)
                  have hfp : Fit64 [y] 1 := fun q hq => by
                    obtain rfl : q = 0 := by omega
                    exact HFy.out
                  clear HE
                  go_upto_region 13 with fail
                  have HE1 := Lib.hid (iown_base (base' := wo.heap.size) (iempty_at (w := wo.plus J (d + 1)) (g := wo.heap.size + J.size) (by simp)) (by omega))
                  have HE3 := Lib.hid (iown_base (base' := wo.heap.size) (iempty_at (w := (wo.plus J (d + 1)).alloc (.cells #[.int .i64 y] 3)) (g := wo.heap.size + J.size + 1) (by simp)) (by omega))
                  go_region_law (first
                    | (refine step_iapp rfl (.tmp 60) (.tmp 63) rfl wo.heap.size _ 0 [] rfl (powns_below HE1.out (by ((try simp only [← Array.append_assoc]); repeat' (first | (with_reducible exact Below.refl _ _) | (with_reducible assumption) | (with_reducible refine Below.alloc ?_ ?_ _) | (with_reducible refine Below.drew ?_) | (with_reducible refine below_drewN ?_ _) | (with_reducible exact below_d _ _ _ _ _) | (with_reducible refine below_snoc _ _ ?_ ?_) | (with_reducible refine below_plus ?_ ?_ _ _) | (with_reducible refine Below.setCell ?_ ?_ _) | (with_reducible refine Below.setRow ?_ ?_ _) | go_size)))) (some ⟨bs, os, none⟩) j sc (l.take j) rfl HNl.out (HRd.out.below (by ((try simp only [← Array.append_assoc]); repeat' (first | (with_reducible exact Below.refl _ _) | (with_reducible assumption) | (with_reducible refine Below.alloc ?_ ?_ _) | (with_reducible refine Below.drew ?_) | (with_reducible refine below_drewN ?_ _) | (with_reducible exact below_d _ _ _ _ _) | (with_reducible refine below_snoc _ _ ?_ ?_) | (with_reducible refine below_plus ?_ ?_ _ _) | (with_reducible refine Below.setCell ?_ ?_ _) | (with_reducible refine Below.setRow ?_ ?_ _) | go_size)))) (by omega) (by first | omega | (simp; done) | (simp; omega)) ?_; intro v1 w1 hown1 hg1; have hgb := grown_below (B := wo.heap.size) (a := wo) (by ((try simp only [← Array.append_assoc]); repeat' (first | (with_reducible exact Below.refl _ _) | (with_reducible assumption) | (with_reducible refine Below.alloc ?_ ?_ _) | (with_reducible refine Below.drew ?_) | (with_reducible refine below_drewN ?_ _) | (with_reducible exact below_d _ _ _ _ _) | (with_reducible refine below_snoc _ _ ?_ ?_) | (with_reducible refine below_plus ?_ ?_ _ _) | (with_reducible refine Below.setCell ?_ ?_ _) | (with_reducible refine Below.setRow ?_ ?_ _) | go_size))) hg1 (by first | omega | (simp; done) | (simp; omega)) (powns_block HE1.out); have z1 := hgb.size; rw [Nat.zero_add, List.nil_append] at hown1; have HO1 := Lib.hid hown1; have HB1 := Lib.hid hgb; have HG1 := Lib.hid (show World.grownBy _ w1 (some _) from hg1); clear hown1 hgb hg1)
                    | (refine step_iapp rfl (.tmp 60) (.tmp 63) rfl wo.heap.size _ 0 [] rfl (powns_below HE3.out (by ((try simp only [← Array.append_assoc]); repeat' (first | (with_reducible exact Below.refl _ _) | (with_reducible assumption) | (with_reducible refine Below.alloc ?_ ?_ _) | (with_reducible refine Below.drew ?_) | (with_reducible refine below_drewN ?_ _) | (with_reducible exact below_d _ _ _ _ _) | (with_reducible refine below_snoc _ _ ?_ ?_) | (with_reducible refine below_plus ?_ ?_ _ _) | (with_reducible refine Below.setCell ?_ ?_ _) | (with_reducible refine Below.setRow ?_ ?_ _) | go_size)))) (some ⟨bs, os, none⟩) j sc (l.take j) rfl HNl.out (HRd.out.below (by ((try simp only [← Array.append_assoc]); repeat' (first | (with_reducible exact Below.refl _ _) | (with_reducible assumption) | (with_reducible refine Below.alloc ?_ ?_ _) | (with_reducible refine Below.drew ?_) | (with_reducible refine below_drewN ?_ _) | (with_reducible exact below_d _ _ _ _ _) | (with_reducible refine below_snoc _ _ ?_ ?_) | (with_reducible refine below_plus ?_ ?_ _ _) | (with_reducible refine Below.setCell ?_ ?_ _) | (with_reducible refine Below.setRow ?_ ?_ _) | go_size)))) (by omega) (by first | omega | (simp; done) | (simp; omega)) ?_; intro v1 w1 hown1 hg1; have hgb := grown_below (B := wo.heap.size) (a := wo) (by ((try simp only [← Array.append_assoc]); repeat' (first | (with_reducible exact Below.refl _ _) | (with_reducible assumption) | (with_reducible refine Below.alloc ?_ ?_ _) | (with_reducible refine Below.drew ?_) | (with_reducible refine below_drewN ?_ _) | (with_reducible exact below_d _ _ _ _ _) | (with_reducible refine below_snoc _ _ ?_ ?_) | (with_reducible refine below_plus ?_ ?_ _ _) | (with_reducible refine Below.setCell ?_ ?_ _) | (with_reducible refine Below.setRow ?_ ?_ _) | go_size))) hg1 (by first | omega | (simp; done) | (simp; omega)) (powns_block HE3.out); have z1 := hgb.size; rw [Nat.zero_add, List.nil_append] at hown1; have HO1 := Lib.hid hown1; have HB1 := Lib.hid hgb; have HG1 := Lib.hid (show World.grownBy _ w1 (some _) from hg1); clear hown1 hgb hg1)
                    | (refine step_iapp rfl (.tmp 64) (.tmp 66) rfl wo.heap.size _ j (l.take j) rfl (powns_below HO1.out (by ((try simp only [← Array.append_assoc]); repeat' (first | (with_reducible exact Below.refl _ _) | (with_reducible assumption) | (with_reducible refine Below.alloc ?_ ?_ _) | (with_reducible refine Below.drew ?_) | (with_reducible refine below_drewN ?_ _) | (with_reducible exact below_d _ _ _ _ _) | (with_reducible refine below_snoc _ _ ?_ ?_) | (with_reducible refine below_plus ?_ ?_ _ _) | (with_reducible refine Below.setCell ?_ ?_ _) | (with_reducible refine Below.setRow ?_ ?_ _) | go_size)))) _ 1 1 [y] rfl (by intro h; cases h) (reads_cell (by (first | (simp [go_sem]; done) | (exact grown_cell HG1.out (by simp [go_sem]; done) (by first | (simp; done) | (simp; omega))))) hfp) (by omega) (by first | omega | (simp; done) | (simp; omega)) ?_; intro v2 w2 hown2 hg2; have hgb2 := grown_below (B := wo.heap.size) (a := wo) (HB1.out.trans (by ((try simp only [← Array.append_assoc]); repeat' (first | (with_reducible exact Below.refl _ _) | (with_reducible assumption) | (with_reducible refine Below.alloc ?_ ?_ _) | (with_reducible refine Below.drew ?_) | (with_reducible refine below_drewN ?_ _) | (with_reducible exact below_d _ _ _ _ _) | (with_reducible refine below_snoc _ _ ?_ ?_) | (with_reducible refine below_plus ?_ ?_ _ _) | (with_reducible refine Below.setCell ?_ ?_ _) | (with_reducible refine Below.setRow ?_ ?_ _) | go_size)))) hg2 (by first | omega | (simp; done) | (simp; omega)) (powns_block HO1.out); have z2 := hgb2.size; have HO2 := Lib.hid hown2; have HB3 := Lib.hid hgb2; clear hown2 hg2 hgb2)
                    | (refine step_iapp rfl (.tmp 67) (.tmp 70) rfl wo.heap.size _ (j + 1) (l.take j ++ [y]) rfl (powns_below HO2.out (by ((try simp only [← Array.append_assoc]); repeat' (first | (with_reducible exact Below.refl _ _) | (with_reducible assumption) | (with_reducible refine Below.alloc ?_ ?_ _) | (with_reducible refine Below.drew ?_) | (with_reducible refine below_drewN ?_ _) | (with_reducible exact below_d _ _ _ _ _) | (with_reducible refine below_snoc _ _ ?_ ?_) | (with_reducible refine below_plus ?_ ?_ _ _) | (with_reducible refine Below.setCell ?_ ?_ _) | (with_reducible refine Below.setRow ?_ ?_ _) | go_size)))) (some ⟨bs, os + j, none⟩) (l.length - j) (sc - j) (l.drop j) rfl (by intro h; cases h) (HRe.out.below (HB3.out.trans (by ((try simp only [← Array.append_assoc]); repeat' (first | (with_reducible exact Below.refl _ _) | (with_reducible assumption) | (with_reducible refine Below.alloc ?_ ?_ _) | (with_reducible refine Below.drew ?_) | (with_reducible refine below_drewN ?_ _) | (with_reducible exact below_d _ _ _ _ _) | (with_reducible refine below_snoc _ _ ?_ ?_) | (with_reducible refine below_plus ?_ ?_ _ _) | (with_reducible refine Below.setCell ?_ ?_ _) | (with_reducible refine Below.setRow ?_ ?_ _) | go_size))))) (by omega) (by first | omega | (simp; done) | (simp; omega)) ?_; intro v3 w3 hown3 hg3; have hgb3 := grown_below (B := wo.heap.size) (a := wo) (HB3.out.trans (by ((try simp only [← Array.append_assoc]); repeat' (first | (with_reducible exact Below.refl _ _) | (with_reducible assumption) | (with_reducible refine Below.alloc ?_ ?_ _) | (with_reducible refine Below.drew ?_) | (with_reducible refine below_drewN ?_ _) | (with_reducible exact below_d _ _ _ _ _) | (with_reducible refine below_snoc _ _ ?_ ?_) | (with_reducible refine below_plus ?_ ?_ _ _) | (with_reducible refine Below.setCell ?_ ?_ _) | (with_reducible refine Below.setRow ?_ ?_ _) | go_size)))) hg3 (by first | omega | (simp; done) | (simp; omega)) (powns_block HO2.out); have HO3 := Lib.hid hown3; have HB4 := Lib.hid hgb3; clear hown3 hg3 hgb3))
                  all_goals go_wp2_with fail
                  all_goals
                    go_roundw
                    case rel => exact ⟨k + 1, _, by go_num, by rw [HKl.out]; omega, rfl, by rw [HIns.out, ← HN3.out.1]; have := HO3.out; rw [HN3.out.2] at this; exact iown_base this hsz, HB2.out.trans (HB4.out.mono hsz)⟩
                    case measure => simp [intOf]; omega
            · have hh := at_here (y := y) (l := l) j1 (Or.inl (by omega))
              have HHr := Lib.hid hh
              have HE := Lib.hid (show insH l y = l.take j ++ y :: l.drop j by
                unfold insH
                rw [if_neg, ← HHr.out]
                rintro ⟨_, h1⟩
                rw [← HHr.out] at h1
                omega)
              have i3 : ¬ (j : Int) < (l.length : Int) := by omega
              clear hh
              have jl : j ≤ l.length := by omega
              have HN3 := Lib.hid (show j + 1 + (l.length - j) = (insH l y).length ∧ (l.take j ++ [y]) ++ l.drop j = insH l y by
                rw [HE.out]
                refine ⟨?_, by rw [List.append_assoc]; rfl⟩
                rw [List.length_append, List.length_cons, List.length_take, List.length_drop]
                omega)
              have HRd := Lib.hid (show Reads wo sa j (l.take j) from reads_takeI HSr.out jl)
              have HRe := Lib.hid (show Reads wo (dropA sa j sc) (l.length - j) (l.drop j) from reads_dropI HSr.out HSk.out jl)
              have jsc : j ≤ sc := Nat.le_trans jl HSk.out.le
              have HNl := Lib.hid (show sa = none → j = 0 ∧ sc = 0 from fun h => by have h1 := HSk.out.nil h; omega)
              have hfp : Fit64 [y] 1 := fun q hq => by
                obtain rfl : q = 0 := by omega
                exact HFy.out
              clear HE
              go_upto_region 13 with fail
              have HE1 := Lib.hid (iown_base (base' := wo.heap.size) (iempty_at (w := wo.plus J (d + 1)) (g := wo.heap.size + J.size) (by simp)) (by omega))
              have HE3 := Lib.hid (iown_base (base' := wo.heap.size) (iempty_at (w := (wo.plus J (d + 1)).alloc (.cells #[.int .i64 y] 3)) (g := wo.heap.size + J.size + 1) (by simp)) (by omega))
              go_region_law (first
                | (refine step_iapp rfl (.tmp 60) (.tmp 63) rfl wo.heap.size _ 0 [] rfl (powns_below HE1.out (by ((try simp only [← Array.append_assoc]); repeat' (first | (with_reducible exact Below.refl _ _) | (with_reducible assumption) | (with_reducible refine Below.alloc ?_ ?_ _) | (with_reducible refine Below.drew ?_) | (with_reducible refine below_drewN ?_ _) | (with_reducible exact below_d _ _ _ _ _) | (with_reducible refine below_snoc _ _ ?_ ?_) | (with_reducible refine below_plus ?_ ?_ _ _) | (with_reducible refine Below.setCell ?_ ?_ _) | (with_reducible refine Below.setRow ?_ ?_ _) | go_size)))) sa j sc (l.take j) rfl HNl.out (HRd.out.below (by ((try simp only [← Array.append_assoc]); repeat' (first | (with_reducible exact Below.refl _ _) | (with_reducible assumption) | (with_reducible refine Below.alloc ?_ ?_ _) | (with_reducible refine Below.drew ?_) | (with_reducible refine below_drewN ?_ _) | (with_reducible exact below_d _ _ _ _ _) | (with_reducible refine below_snoc _ _ ?_ ?_) | (with_reducible refine below_plus ?_ ?_ _ _) | (with_reducible refine Below.setCell ?_ ?_ _) | (with_reducible refine Below.setRow ?_ ?_ _) | go_size)))) (by omega) (by first | omega | (simp; done) | (simp; omega)) ?_; intro v1 w1 hown1 hg1; have hgb := grown_below (B := wo.heap.size) (a := wo) (by ((try simp only [← Array.append_assoc]); repeat' (first | (with_reducible exact Below.refl _ _) | (with_reducible assumption) | (with_reducible refine Below.alloc ?_ ?_ _) | (with_reducible refine Below.drew ?_) | (with_reducible refine below_drewN ?_ _) | (with_reducible exact below_d _ _ _ _ _) | (with_reducible refine below_snoc _ _ ?_ ?_) | (with_reducible refine below_plus ?_ ?_ _ _) | (with_reducible refine Below.setCell ?_ ?_ _) | (with_reducible refine Below.setRow ?_ ?_ _) | go_size))) hg1 (by first | omega | (simp; done) | (simp; omega)) (powns_block HE1.out); have z1 := hgb.size; rw [Nat.zero_add, List.nil_append] at hown1; have HO1 := Lib.hid hown1; have HB1 := Lib.hid hgb; have HG1 := Lib.hid (show World.grownBy _ w1 (some _) from hg1); clear hown1 hgb hg1)
                | (refine step_iapp rfl (.tmp 60) (.tmp 63) rfl wo.heap.size _ 0 [] rfl (powns_below HE3.out (by ((try simp only [← Array.append_assoc]); repeat' (first | (with_reducible exact Below.refl _ _) | (with_reducible assumption) | (with_reducible refine Below.alloc ?_ ?_ _) | (with_reducible refine Below.drew ?_) | (with_reducible refine below_drewN ?_ _) | (with_reducible exact below_d _ _ _ _ _) | (with_reducible refine below_snoc _ _ ?_ ?_) | (with_reducible refine below_plus ?_ ?_ _ _) | (with_reducible refine Below.setCell ?_ ?_ _) | (with_reducible refine Below.setRow ?_ ?_ _) | go_size)))) sa j sc (l.take j) rfl HNl.out (HRd.out.below (by ((try simp only [← Array.append_assoc]); repeat' (first | (with_reducible exact Below.refl _ _) | (with_reducible assumption) | (with_reducible refine Below.alloc ?_ ?_ _) | (with_reducible refine Below.drew ?_) | (with_reducible refine below_drewN ?_ _) | (with_reducible exact below_d _ _ _ _ _) | (with_reducible refine below_snoc _ _ ?_ ?_) | (with_reducible refine below_plus ?_ ?_ _ _) | (with_reducible refine Below.setCell ?_ ?_ _) | (with_reducible refine Below.setRow ?_ ?_ _) | go_size)))) (by omega) (by first | omega | (simp; done) | (simp; omega)) ?_; intro v1 w1 hown1 hg1; have hgb := grown_below (B := wo.heap.size) (a := wo) (by ((try simp only [← Array.append_assoc]); repeat' (first | (with_reducible exact Below.refl _ _) | (with_reducible assumption) | (with_reducible refine Below.alloc ?_ ?_ _) | (with_reducible refine Below.drew ?_) | (with_reducible refine below_drewN ?_ _) | (with_reducible exact below_d _ _ _ _ _) | (with_reducible refine below_snoc _ _ ?_ ?_) | (with_reducible refine below_plus ?_ ?_ _ _) | (with_reducible refine Below.setCell ?_ ?_ _) | (with_reducible refine Below.setRow ?_ ?_ _) | go_size))) hg1 (by first | omega | (simp; done) | (simp; omega)) (powns_block HE3.out); have z1 := hgb.size; rw [Nat.zero_add, List.nil_append] at hown1; have HO1 := Lib.hid hown1; have HB1 := Lib.hid hgb; have HG1 := Lib.hid (show World.grownBy _ w1 (some _) from hg1); clear hown1 hgb hg1)
                | (refine step_iapp rfl (.tmp 64) (.tmp 66) rfl wo.heap.size _ j (l.take j) rfl (powns_below HO1.out (by ((try simp only [← Array.append_assoc]); repeat' (first | (with_reducible exact Below.refl _ _) | (with_reducible assumption) | (with_reducible refine Below.alloc ?_ ?_ _) | (with_reducible refine Below.drew ?_) | (with_reducible refine below_drewN ?_ _) | (with_reducible exact below_d _ _ _ _ _) | (with_reducible refine below_snoc _ _ ?_ ?_) | (with_reducible refine below_plus ?_ ?_ _ _) | (with_reducible refine Below.setCell ?_ ?_ _) | (with_reducible refine Below.setRow ?_ ?_ _) | go_size)))) _ 1 1 [y] rfl (by intro h; cases h) (reads_cell (by (first | (simp [go_sem]; done) | (exact grown_cell HG1.out (by simp [go_sem]; done) (by first | (simp; done) | (simp; omega))))) hfp) (by omega) (by first | omega | (simp; done) | (simp; omega)) ?_; intro v2 w2 hown2 hg2; have hgb2 := grown_below (B := wo.heap.size) (a := wo) (HB1.out.trans (by ((try simp only [← Array.append_assoc]); repeat' (first | (with_reducible exact Below.refl _ _) | (with_reducible assumption) | (with_reducible refine Below.alloc ?_ ?_ _) | (with_reducible refine Below.drew ?_) | (with_reducible refine below_drewN ?_ _) | (with_reducible exact below_d _ _ _ _ _) | (with_reducible refine below_snoc _ _ ?_ ?_) | (with_reducible refine below_plus ?_ ?_ _ _) | (with_reducible refine Below.setCell ?_ ?_ _) | (with_reducible refine Below.setRow ?_ ?_ _) | go_size)))) hg2 (by first | omega | (simp; done) | (simp; omega)) (powns_block HO1.out); have z2 := hgb2.size; have HO2 := Lib.hid hown2; have HB3 := Lib.hid hgb2; clear hown2 hg2 hgb2)
                | (refine step_iapp rfl (.tmp 67) (.tmp 70) rfl wo.heap.size _ (j + 1) (l.take j ++ [y]) rfl (powns_below HO2.out (by ((try simp only [← Array.append_assoc]); repeat' (first | (with_reducible exact Below.refl _ _) | (with_reducible assumption) | (with_reducible refine Below.alloc ?_ ?_ _) | (with_reducible refine Below.drew ?_) | (with_reducible refine below_drewN ?_ _) | (with_reducible exact below_d _ _ _ _ _) | (with_reducible refine below_snoc _ _ ?_ ?_) | (with_reducible refine below_plus ?_ ?_ _ _) | (with_reducible refine Below.setCell ?_ ?_ _) | (with_reducible refine Below.setRow ?_ ?_ _) | go_size)))) (dropA sa j sc) (l.length - j) (sc - j) (l.drop j) rfl (dropA_none HSk.out) (HRe.out.below (HB3.out.trans (by ((try simp only [← Array.append_assoc]); repeat' (first | (with_reducible exact Below.refl _ _) | (with_reducible assumption) | (with_reducible refine Below.alloc ?_ ?_ _) | (with_reducible refine Below.drew ?_) | (with_reducible refine below_drewN ?_ _) | (with_reducible exact below_d _ _ _ _ _) | (with_reducible refine below_snoc _ _ ?_ ?_) | (with_reducible refine below_plus ?_ ?_ _ _) | (with_reducible refine Below.setCell ?_ ?_ _) | (with_reducible refine Below.setRow ?_ ?_ _) | go_size))))) (by omega) (by first | omega | (simp; done) | (simp; omega)) ?_; intro v3 w3 hown3 hg3; have hgb3 := grown_below (B := wo.heap.size) (a := wo) (HB3.out.trans (by ((try simp only [← Array.append_assoc]); repeat' (first | (with_reducible exact Below.refl _ _) | (with_reducible assumption) | (with_reducible refine Below.alloc ?_ ?_ _) | (with_reducible refine Below.drew ?_) | (with_reducible refine below_drewN ?_ _) | (with_reducible exact below_d _ _ _ _ _) | (with_reducible refine below_snoc _ _ ?_ ?_) | (with_reducible refine below_plus ?_ ?_ _ _) | (with_reducible refine Below.setCell ?_ ?_ _) | (with_reducible refine Below.setRow ?_ ?_ _) | go_size)))) hg3 (by first | omega | (simp; done) | (simp; omega)) (powns_block HO2.out); have HO3 := Lib.hid hown3; have HB4 := Lib.hid hgb3; clear hown3 hg3 hgb3))
              all_goals go_wp2_with fail
              all_goals
                go_roundw
                case rel => exact ⟨k + 1, _, by go_num, by rw [HKl.out]; omega, rfl, by rw [HIns.out, ← HN3.out.1]; have := HO3.out; rw [HN3.out.2] at this; exact iown_base this hsz, HB2.out.trans (HB4.out.mono hsz)⟩
                case measure => simp [intOf]; omega
        · obtain rfl : k = m := by omega
          have i2 : ¬ (k : Int) < (k : Int) := by omega
          have HE := Lib.hid (show hgtS (Y ++ (K.take k).map fun p : Pt => p.2) = hgtS ((R.take (i + 1)).flatten.map fun p : Pt => p.2) by rw [HN.out, List.take_of_length_le (by rw [HKl.out]; omega)])
          have HO2 := Lib.hid hown
          have HB2 := Lib.hid hB
          have HLl := Lib.hid hl
          clear hown hB hl
          go_wp2_with fail
          go_roundw
          case rel => exact ⟨i + 1, l, by go_num, by rw [L1.out]; omega, by rw [← HE.out]; exact HLl.out, HO2.out, HB2.out⟩
          case measure => simp [intOf]; omega
    · obtain rfl : i = n := by omega
      have i1 : ¬ (i : Int) < (i : Int) := by omega
      rw [List.take_of_length_le (by rw [L1.out]; omega)] at hl0
      have hfl : ∀ y ∈ l0, -9223372036854775808 ≤ y ∧ y ≤ 9223372036854775807 := fun y hy => by
        rw [hl0, hgt_mem] at hy
        obtain ⟨p, hp, rfl⟩ := List.mem_map.1 hy
        exact HF.out p hp
      obtain ⟨sa, sc, rfl, hSr, hSk⟩ := iown_ok hown (HFit.out l0 hfl)
      have HSr := Lib.hid hSr
      have HE := Lib.hid (show l0 = hgtL R from hl0)
      have HB := Lib.hid hB
      clear hown hSr hSk hB hl0 hfl
      go_wp2_with fail
      go_ret
      exact ⟨⟨_, rfl, sa, sc, by rw [← HE.out]; rfl, by rw [← HE.out]; exact HSr.out⟩, junk_of_below (HJ.out.trans (HB.out.mono HJ.out.size))⟩
end

section
set_option linter.unusedVariables false
set_option linter.unusedSimpArgs false
open Go.RowKit

def sqR (a b : Int) : List Pt := [(a, a), (b, a), (b, b), (a, b)]
set_option maxRecDepth 100000 in
theorem l_sbSquare (a b : Int) (w : World) : Calls Tryz.prog 43 #[.int .i64 a, .int .i64 b] w fun e w' => (∃ x, e = .returned (.slice x 4 4) ∧ PRC w' x 4 4 (sqR a b)) ∧ Junk w w' := by
  go_enter Tryz.func43, Tryz.ntmps43
  go_wp2
  go_ret
  refine ⟨⟨_, rfl, ?_⟩, junk_of_below (by (repeat' (first | (with_reducible exact Below.refl _ _) | (with_reducible assumption) | (with_reducible refine Below.alloc ?_ ?_ _) | (with_reducible refine Below.drew ?_) | (with_reducible refine below_drewN ?_ _) | (with_reducible refine below_plus ?_ ?_ _ _) | (with_reducible refine Below.setCell ?_ ?_ _) | (with_reducible refine Below.setRow ?_ ?_ _) | go_size)))⟩
  refine prc_blt (L := sqR a b) (n := 4) rfl ?_ (by decide) ?_
  · simp [pcells, sqR]
  · simp
/-- The examples' region. -/
def smpR : List (List Pt) := [sqR 0 9, sqR 2 4]
theorem smpR_fine : regFine smpR := checkR_fine.1 (by decide +kernel)
theorem smpR_fit : ∀ p ∈ smpR.flatten, -9223372036854775808 ≤ p.2 ∧ p.2 ≤ 9223372036854775807 := by decide
theorem smpR_hgt : hgtL smpR = [0, 2, 4, 9] := by decide +kernel
set_option maxRecDepth 100000 in
set_option maxHeartbeats 2000000 in
theorem l_sbSample (w : World) : Calls Tryz.prog 25 #[] w fun e w' => (∃ sb B T, e = .returned (.pointer (some ⟨sb, 0, none⟩)) ∧ SlabB w' B T sb smpR ∧ w.heap.size ≤ B) ∧ Junk w w' := by
  have H1 := Lib.hid (fun w' => l_sbSquare 0 9 w')
  have H2 := Lib.hid (fun w' => l_sbSquare 2 4 w')
  have HB := Lib.hid (fun (W : World) (b : Nat) (x y : Option Addr) (hr : W.rowAt b = some #[.slice x 4 4, .slice y 4 4]) (h1 : PRC W x 4 4 (sqR 0 9)) (h2 : PRC W y 4 4 (sqR 2 4)) => n_sbBuild W (some ⟨b, 0, none⟩) 2 2 smpR (grc_two hr h1 h2) (by decide) smpR_fine smpR_fit)
  generalize smpR = R at *
  generalize sqR 0 9 = K1 at *
  generalize sqR 2 4 = K2 at *
  go_enter Tryz.func25, Tryz.ntmps25
  go_wp2_with (first
    | (go_at_call 43; (with_reducible refine (H1.out _).mono ?_); rintro e w1 ⟨⟨a1, rfl, hr⟩, J1, d1, rfl⟩; have HR1 := Lib.hid hr; clear hr)
    | (go_at_call 43; (with_reducible refine (H2.out _).mono ?_); rintro e w1 ⟨⟨a2, rfl, hr⟩, J2, d2, rfl⟩; (try simp only [plus_plus, Array.append_assoc] at hr); have HR2 := Lib.hid hr; clear hr)
    | (go_at_call 12; refine (HB.out _ _ _ _ (by simp [go_sem]) (HR1.out.below (by ((try simp only [← Array.append_assoc]); repeat' (first | (with_reducible exact Below.refl _ _) | (with_reducible assumption) | (with_reducible refine Below.alloc ?_ ?_ _) | (with_reducible refine Below.drew ?_) | (with_reducible refine below_drewN ?_ _) | (with_reducible exact below_d _ _ _ _ _) | (with_reducible refine below_snoc _ _ ?_ ?_) | (with_reducible refine below_plus ?_ ?_ _ _) | (with_reducible refine Below.setCell ?_ ?_ _) | (with_reducible refine Below.setRow ?_ ?_ _) | go_size)))) (HR2.out.below (by ((try simp only [← Array.append_assoc]); repeat' (first | (with_reducible exact Below.refl _ _) | (with_reducible assumption) | (with_reducible refine Below.alloc ?_ ?_ _) | (with_reducible refine Below.drew ?_) | (with_reducible refine below_drewN ?_ _) | (with_reducible exact below_d _ _ _ _ _) | (with_reducible refine below_snoc _ _ ?_ ?_) | (with_reducible refine below_plus ?_ ?_ _ _) | (with_reducible refine Below.setCell ?_ ?_ _) | (with_reducible refine Below.setRow ?_ ?_ _) | go_size))))).mono ?_; rintro e w1 ⟨⟨sb, rfl, ht⟩, J4, d4, rfl⟩; have HT := Lib.hid ht; clear ht))
  go_ret
  exact ⟨⟨sb, _, _, rfl, HT.out.below (by ((try simp only [← Array.append_assoc]); repeat' (first | (with_reducible exact Below.refl _ _) | (with_reducible assumption) | (with_reducible refine Below.alloc ?_ ?_ _) | (with_reducible refine Below.drew ?_) | (with_reducible refine below_drewN ?_ _) | (with_reducible exact below_d _ _ _ _ _) | (with_reducible refine below_snoc _ _ ?_ ?_) | (with_reducible refine below_plus ?_ ?_ _ _) | (with_reducible refine Below.setCell ?_ ?_ _) | (with_reducible refine Below.setRow ?_ ?_ _) | go_size))), by simp; omega⟩, junk_of_below (by (repeat' (first | (with_reducible exact Below.refl _ _) | (with_reducible assumption) | (with_reducible refine Below.alloc ?_ ?_ _) | (with_reducible refine Below.drew ?_) | (with_reducible refine below_drewN ?_ _) | (with_reducible refine below_plus ?_ ?_ _ _) | (with_reducible refine Below.setCell ?_ ?_ _) | (with_reducible refine Below.setRow ?_ ?_ _) | go_size)))⟩
set_option maxRecDepth 100000 in
set_option maxHeartbeats 2000000 in
theorem l_sbIs (R : List (List Pt)) (i a b n : Int) (hv : slabV R i = .tuple #[.int .i64 a, .int .i64 b, .int .i64 n, .int .i64 0]) (W : World) (B T sb : Nat) (h : SlabB W B T sb R) :
    Calls Tryz.prog 26 #[.pointer (some ⟨sb, 0, none⟩), .int .i64 i, .int .i64 a, .int .i64 b, .int .i64 n] W fun e w' => e = .returned (.bool true) ∧ Junk W w' := by
  have HS := Lib.hid (n_slSlab h i)
  rw [hv] at HS
  clear h hv
  go_enter Tryz.func26, Tryz.ntmps26
  go_wp2_with (go_at_call 22; refine HS.out.mono ?_; rintro e w1 ⟨rfl, J1, d1, rfl⟩)
  go_ret
  exact ⟨rfl, junk_of_below (by (repeat' (first | (with_reducible exact Below.refl _ _) | (with_reducible assumption) | (with_reducible refine Below.alloc ?_ ?_ _) | (with_reducible refine Below.drew ?_) | (with_reducible refine below_drewN ?_ _) | (with_reducible refine below_plus ?_ ?_ _ _) | (with_reducible refine Below.setCell ?_ ?_ _) | (with_reducible refine Below.setRow ?_ ?_ _) | go_size)))⟩
theorem len_is (R : List (List Pt)) (n : Nat) (hn : (hgtL R).length - 1 = n) (W : World) (B T sb : Nat) (h : SlabB W B T sb R) :
    Calls Tryz.prog 21 #[.pointer (some ⟨sb, 0, none⟩)] W fun e w' => e = .returned (.int .i64 (n : Int)) ∧ w' = W := by rw [← hn]; exact n_slLen h
theorem in_lit (R : List (List Pt)) (px py : Int) (r : Bool) (hr : regQ (px, py) R = r) (W : World) (B T sb : Nat) (h : SlabB W B T sb R) :
    Calls Tryz.prog 16 #[.pointer (some ⟨sb, 0, none⟩), .agg #[.int .i64 px, .int .i64 py]] W fun e w' => e = .returned (.bool r) ∧ Junk W w' := by rw [← hr]; exact n_slIn h px py
theorem cross_lit (R : List (List Pt)) (px py : Int) (n : Nat) (hr : crossR (px, py) R = n) (W : World) (B T sb : Nat) (h : SlabB W B T sb R) :
    Calls Tryz.prog 18 #[.pointer (some ⟨sb, 0, none⟩), .agg #[.int .i64 px, .int .i64 py]] W fun e w' => e = .returned (.int .i64 (n : Int)) ∧ Junk W w' := by rw [← hr]; exact n_slCross h px py
theorem most_lit (R : List (List Pt)) (n : Nat) (hr : mostK R ((hgtL R).length - 1) = n) (W : World) (B T sb : Nat) (h : SlabB W B T sb R) :
    Calls Tryz.prog 24 #[.pointer (some ⟨sb, 0, none⟩)] W fun e w' => e = .returned (.int .i64 (n : Int)) ∧ Junk W w' := by rw [← hr]; exact n_slMost h
theorem smp_slab (i : Nat) (hi : i < 3) : slabV smpR (i : Int) = .tuple #[.int .i64 ((hgtL smpR).getD i 0), .int .i64 ((hgtL smpR).getD (i + 1) 0), .int .i64 ((slabN smpR i : Nat) : Int), .int .i64 0] := by
  unfold slabV
  rw [if_pos (by rw [smpR_hgt]; show 0 ≤ (i : Int) ∧ (i : Int) + 1 < 4; omega), Int.toNat_natCast]
theorem smp_slab0 : slabV smpR 0 = .tuple #[.int .i64 0, .int .i64 2, .int .i64 2, .int .i64 0] := by
  have h := smp_slab 0 (by decide)
  rw [show slabN smpR 0 = 2 by decide +kernel, smpR_hgt] at h
  exact h
theorem smp_slab1 : slabV smpR 1 = .tuple #[.int .i64 2, .int .i64 4, .int .i64 4, .int .i64 0] := by
  have h := smp_slab 1 (by decide)
  rw [show slabN smpR 1 = 4 by decide +kernel, smpR_hgt] at h
  exact h
theorem smp_slab3 : slabV smpR 3 = .tuple #[.int .i64 0, .int .i64 0, .int .i64 0, .int .i64 6] := by
  unfold slabV
  rw [if_neg (by rw [smpR_hgt]; decide)]
set_option maxRecDepth 100000 in
set_option maxHeartbeats 4000000 in
theorem l_sbAwake (w : World) : Calls Tryz.prog 10 #[] w fun e w' => e = .returned (.bool true) ∧ Junk w w' := by
  have HS := Lib.hid l_sbSample
  have HL := Lib.hid (fun W B T sb h => len_is smpR 3 (by rw [smpR_hgt]; rfl) W B T sb h)
  have HIs := Lib.hid (fun W B T sb h => l_sbIs smpR 0 0 2 2 smp_slab0 W B T sb h)
  have HI1 := Lib.hid (fun W B T sb h => in_lit smpR 3 3 false (by decide +kernel) W B T sb h)
  have HI2 := Lib.hid (fun W B T sb h => in_lit smpR 1 1 true (by decide +kernel) W B T sb h)
  generalize smpR = R at *
  go_enter Tryz.func10, Tryz.ntmps10
  go_wp2_with (first
    | (go_at_call 25; refine (HS.out _).mono ?_; rintro e w1 ⟨⟨sb, B, T, rfl, ht, _⟩, J1, d1, rfl⟩; have HT := Lib.hid ht; clear ht)
    | (go_at_call 21; (with_reducible refine (HL.out _ B T sb ?_).mono ?_); (exact HT.out.below (by ((try simp only [← Array.append_assoc]); repeat' (first | (with_reducible exact Below.refl _ _) | (with_reducible assumption) | (with_reducible refine Below.alloc ?_ ?_ _) | (with_reducible refine Below.drew ?_) | (with_reducible refine below_drewN ?_ _) | (with_reducible exact below_d _ _ _ _ _) | (with_reducible refine below_snoc _ _ ?_ ?_) | (with_reducible refine below_plus ?_ ?_ _ _) | (with_reducible refine Below.setCell ?_ ?_ _) | (with_reducible refine Below.setRow ?_ ?_ _) | go_size)))); rintro e w1 ⟨rfl, hw⟩; rw [hw]; clear hw)
    | (go_at_call 26; (with_reducible refine (HIs.out _ B T sb ?_).mono ?_); (exact HT.out.below (by ((try simp only [← Array.append_assoc]); repeat' (first | (with_reducible exact Below.refl _ _) | (with_reducible assumption) | (with_reducible refine Below.alloc ?_ ?_ _) | (with_reducible refine Below.drew ?_) | (with_reducible refine below_drewN ?_ _) | (with_reducible exact below_d _ _ _ _ _) | (with_reducible refine below_snoc _ _ ?_ ?_) | (with_reducible refine below_plus ?_ ?_ _ _) | (with_reducible refine Below.setCell ?_ ?_ _) | (with_reducible refine Below.setRow ?_ ?_ _) | go_size)))); rintro e w1 ⟨rfl, J2, d2, rfl⟩)
    | (go_at_call 16; (with_reducible refine (HI1.out _ B T sb ?_).mono ?_); (exact HT.out.below (by ((try simp only [← Array.append_assoc]); repeat' (first | (with_reducible exact Below.refl _ _) | (with_reducible assumption) | (with_reducible refine Below.alloc ?_ ?_ _) | (with_reducible refine Below.drew ?_) | (with_reducible refine below_drewN ?_ _) | (with_reducible exact below_d _ _ _ _ _) | (with_reducible refine below_snoc _ _ ?_ ?_) | (with_reducible refine below_plus ?_ ?_ _ _) | (with_reducible refine Below.setCell ?_ ?_ _) | (with_reducible refine Below.setRow ?_ ?_ _) | go_size)))); rintro e w1 ⟨rfl, J3, d3, rfl⟩)
    | (go_at_call 16; (with_reducible refine (HI2.out _ B T sb ?_).mono ?_); (exact HT.out.below (by ((try simp only [← Array.append_assoc]); repeat' (first | (with_reducible exact Below.refl _ _) | (with_reducible assumption) | (with_reducible refine Below.alloc ?_ ?_ _) | (with_reducible refine Below.drew ?_) | (with_reducible refine below_drewN ?_ _) | (with_reducible exact below_d _ _ _ _ _) | (with_reducible refine below_snoc _ _ ?_ ?_) | (with_reducible refine below_plus ?_ ?_ _ _) | (with_reducible refine Below.setCell ?_ ?_ _) | (with_reducible refine Below.setRow ?_ ?_ _) | go_size)))); rintro e w1 ⟨rfl, J4, d4, rfl⟩))
  go_ret
  exact ⟨rfl, junk_of_below (by (repeat' (first | (with_reducible exact Below.refl _ _) | (with_reducible assumption) | (with_reducible refine Below.alloc ?_ ?_ _) | (with_reducible refine Below.drew ?_) | (with_reducible refine below_drewN ?_ _) | (with_reducible refine below_plus ?_ ?_ _ _) | (with_reducible refine Below.setCell ?_ ?_ _) | (with_reducible refine Below.setRow ?_ ?_ _) | go_size)))⟩
set_option maxRecDepth 100000 in
set_option maxHeartbeats 4000000 in
theorem l_slabKnown (w : World) : Calls Tryz.prog 6 #[] w fun e w' => e = .returned (.bool true) ∧ Junk w w' := by
  have HS := Lib.hid l_sbSample
  have HAw := Lib.hid l_sbAwake
  have HSl := Lib.hid (fun W B T sb (h : SlabB W B T sb smpR) => show Calls Tryz.prog 22 #[.pointer (some ⟨sb, 0, none⟩), .int .i64 3] W fun e w' => e = .returned (.tuple #[.int .i64 0, .int .i64 0, .int .i64 0, .int .i64 6]) ∧ Junk W w' by rw [← smp_slab3]; exact n_slSlab h 3)
  have HIs := Lib.hid (fun W B T sb h => l_sbIs smpR 1 2 4 4 smp_slab1 W B T sb h)
  have HM := Lib.hid (fun W B T sb h => most_lit smpR 4 (by decide +kernel) W B T sb h)
  have HI := Lib.hid (fun W B T sb h => in_lit smpR 9 1 false (by decide +kernel) W B T sb h)
  have HC1 := Lib.hid (fun W B T sb h => cross_lit smpR 3 3 2 (by decide +kernel) W B T sb h)
  have HC2 := Lib.hid (fun W B T sb h => cross_lit smpR 1 3 3 (by decide +kernel) W B T sb h)
  generalize smpR = R at *
  go_enter Tryz.func6, Tryz.ntmps6
  go_wp2_with (first
    | (go_at_call 25; refine (HS.out _).mono ?_; rintro e w1 ⟨⟨sb, B, T, rfl, ht, _⟩, J1, d1, rfl⟩; have HT := Lib.hid ht; clear ht)
    | (go_at_call 22; (with_reducible refine (HSl.out _ B T sb ?_).mono ?_); (exact HT.out.below (by ((try simp only [← Array.append_assoc]); repeat' (first | (with_reducible exact Below.refl _ _) | (with_reducible assumption) | (with_reducible refine Below.alloc ?_ ?_ _) | (with_reducible refine Below.drew ?_) | (with_reducible refine below_drewN ?_ _) | (with_reducible exact below_d _ _ _ _ _) | (with_reducible refine below_snoc _ _ ?_ ?_) | (with_reducible refine below_plus ?_ ?_ _ _) | (with_reducible refine Below.setCell ?_ ?_ _) | (with_reducible refine Below.setRow ?_ ?_ _) | go_size)))); rintro e w1 ⟨rfl, J2, d2, rfl⟩)
    | (go_at_call 10; refine (HAw.out _).mono ?_; rintro e w1 ⟨rfl, J3, d3, rfl⟩)
    | (go_at_call 26; (with_reducible refine (HIs.out _ B T sb ?_).mono ?_); (exact HT.out.below (by ((try simp only [← Array.append_assoc]); repeat' (first | (with_reducible exact Below.refl _ _) | (with_reducible assumption) | (with_reducible refine Below.alloc ?_ ?_ _) | (with_reducible refine Below.drew ?_) | (with_reducible refine below_drewN ?_ _) | (with_reducible exact below_d _ _ _ _ _) | (with_reducible refine below_snoc _ _ ?_ ?_) | (with_reducible refine below_plus ?_ ?_ _ _) | (with_reducible refine Below.setCell ?_ ?_ _) | (with_reducible refine Below.setRow ?_ ?_ _) | go_size)))); rintro e w1 ⟨rfl, J4, d4, rfl⟩)
    | (go_at_call 24; (with_reducible refine (HM.out _ B T sb ?_).mono ?_); (exact HT.out.below (by ((try simp only [← Array.append_assoc]); repeat' (first | (with_reducible exact Below.refl _ _) | (with_reducible assumption) | (with_reducible refine Below.alloc ?_ ?_ _) | (with_reducible refine Below.drew ?_) | (with_reducible refine below_drewN ?_ _) | (with_reducible exact below_d _ _ _ _ _) | (with_reducible refine below_snoc _ _ ?_ ?_) | (with_reducible refine below_plus ?_ ?_ _ _) | (with_reducible refine Below.setCell ?_ ?_ _) | (with_reducible refine Below.setRow ?_ ?_ _) | go_size)))); rintro e w1 ⟨rfl, J5, d5, rfl⟩)
    | (go_at_call 16; (with_reducible refine (HI.out _ B T sb ?_).mono ?_); (exact HT.out.below (by ((try simp only [← Array.append_assoc]); repeat' (first | (with_reducible exact Below.refl _ _) | (with_reducible assumption) | (with_reducible refine Below.alloc ?_ ?_ _) | (with_reducible refine Below.drew ?_) | (with_reducible refine below_drewN ?_ _) | (with_reducible exact below_d _ _ _ _ _) | (with_reducible refine below_snoc _ _ ?_ ?_) | (with_reducible refine below_plus ?_ ?_ _ _) | (with_reducible refine Below.setCell ?_ ?_ _) | (with_reducible refine Below.setRow ?_ ?_ _) | go_size)))); rintro e w1 ⟨rfl, J6, d6, rfl⟩)
    | (go_at_call 18; (with_reducible refine (HC1.out _ B T sb ?_).mono ?_); (exact HT.out.below (by ((try simp only [← Array.append_assoc]); repeat' (first | (with_reducible exact Below.refl _ _) | (with_reducible assumption) | (with_reducible refine Below.alloc ?_ ?_ _) | (with_reducible refine Below.drew ?_) | (with_reducible refine below_drewN ?_ _) | (with_reducible exact below_d _ _ _ _ _) | (with_reducible refine below_snoc _ _ ?_ ?_) | (with_reducible refine below_plus ?_ ?_ _ _) | (with_reducible refine Below.setCell ?_ ?_ _) | (with_reducible refine Below.setRow ?_ ?_ _) | go_size)))); rintro e w1 ⟨rfl, J7, d7, rfl⟩)
    | (go_at_call 18; (with_reducible refine (HC2.out _ B T sb ?_).mono ?_); (exact HT.out.below (by ((try simp only [← Array.append_assoc]); repeat' (first | (with_reducible exact Below.refl _ _) | (with_reducible assumption) | (with_reducible refine Below.alloc ?_ ?_ _) | (with_reducible refine Below.drew ?_) | (with_reducible refine below_drewN ?_ _) | (with_reducible exact below_d _ _ _ _ _) | (with_reducible refine below_snoc _ _ ?_ ?_) | (with_reducible refine below_plus ?_ ?_ _ _) | (with_reducible refine Below.setCell ?_ ?_ _) | (with_reducible refine Below.setRow ?_ ?_ _) | go_size)))); rintro e w1 ⟨rfl, J8, d8, rfl⟩))
  go_ret
  exact ⟨rfl, junk_of_below (by (repeat' (first | (with_reducible exact Below.refl _ _) | (with_reducible assumption) | (with_reducible refine Below.alloc ?_ ?_ _) | (with_reducible refine Below.drew ?_) | (with_reducible refine below_drewN ?_ _) | (with_reducible refine below_plus ?_ ?_ _ _) | (with_reducible refine Below.setCell ?_ ?_ _) | (with_reducible refine Below.setRow ?_ ?_ _) | go_size)))⟩
end
end Go.Proofs.YtegliapkbapigaaGreat

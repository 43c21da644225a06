/- Slices of points that read as lists; contract of apportionkit's SamePoints. -/
import Derived.Test.YtlfjbbelanccbaaPtS
import Derived.Test.YtlfjbbelanccbaaRow
import Derived.BigQuiet
namespace Go.Proofs.Ytlfjbbelanccbaa
set_option linter.unusedVariables false
set_option linter.unusedSimpArgs false
open Go.RowKit

def PReads (w : World) (a : Option Addr) (len : Nat) (K : List (Int × Int)) : Prop :=
  K.length = len ∧ (len = 0 ∨ ∃ b off, a = some ⟨b, off, none⟩ ∧ ∀ i, i < len → w.cell? ⟨b, off + i * 2, none⟩ = some (.int .i64 (K.getD i (0, 0)).1) ∧ w.cell? ⟨b, off + i * 2 + 1, none⟩ = some (.int .i64 (K.getD i (0, 0)).2))
theorem PReads.below {w w' : World} {a : Option Addr} {len : Nat} {K : List (Int × Int)} (h : PReads w a len K) (hb : Below w.heap.size w w') : PReads w' a len K := by
  obtain ⟨h1, h2⟩ := h
  refine ⟨h1, ?_⟩
  rcases h2 with h2 | ⟨b, off, he, hc⟩
  · exact .inl h2
  · refine .inr ⟨b, off, he, fun i hi => ?_⟩
    obtain ⟨e1, e2⟩ := hc i hi
    exact ⟨by rw [World.cell?_of_block (hb.block b (World.block_lt_of_cell? _ _ e1))]; exact e1, by rw [World.cell?_of_block (hb.block b (World.block_lt_of_cell? _ _ e2))]; exact e2⟩

def SamePAt (w : World) (K M : List (Int × Int)) (i : Value) (wr : World) : Prop := ∃ k : Nat, i = .int .i64 (k : Int) ∧ k ≤ K.length ∧ K.take k = M.take k ∧ ∃ d, wr = w.drewN d

set_option maxRecDepth 100000 in
set_option maxHeartbeats 1000000 in
theorem k_SamePoints (w : World) (a b : Option Addr) (n m ca cb : Nat) (K M : List (Int × Int)) (hK : PReads w a n K) (hM : PReads w b m M) (hs : n ≤ 9223372036854775807) :
    Calls Try.prog 24 #[.slice a n ca, .slice b m cb] w fun e w' => e = .returned (.bool (decide (K = M))) ∧ Junk w w' := by
  have l1 := hK.1
  have l2 := hM.1
  by_cases hnm : n = m
  · have e1 : ((n : Int) == (m : Int)) = true := by rw [beq_iff_eq]; omega
    have HK := Lib.hid hK.2
    have HM := Lib.hid hM.2
    obtain ⟨R, hR⟩ : ∃ R, decide (K = M) = R := ⟨_, rfl⟩
    rw [hR]
    have HR := Lib.hid hR
    subst hnm
    have L1 := Lib.hid l1
    have L2 := Lib.hid l2
    clear hK hM hR l1 l2
    go_enter Try.func24, Try.ntmps24
    go_wp2_with fail
    go_loopw [5] (fun i wr => SamePAt w K M i wr) (fun i _ => n - (intOf i).toNat)
    case atStart => exact ⟨0, rfl, by omega, by simp, 0, rfl⟩
    case round =>
      obtain ⟨k, rfl, k1, hk, d, rfl⟩ := hrel
      rw [L1.out] at k1
      by_cases hlt : k < n
      · rcases HK.out with h0 | ⟨b1, o1, rfl, hc1⟩
        · omega
        rcases HM.out with h0 | ⟨b2, o2, rfl, hc2⟩
        · omega
        obtain ⟨p1, p2⟩ := hc1 k hlt
        obtain ⟨p3, p4⟩ := hc2 k hlt
        have i1 : (k : Int) < (n : Int) := by omega
        have HK1 := Lib.hid hk
        clear hc1 hc2 hk
        have hx : ∃ x y u v : Int, (K.getD k (0, 0)) = (x, y) ∧ (M.getD k (0, 0)) = (u, v) := ⟨_, _, _, _, rfl, rfl⟩
        obtain ⟨x, y, u, v, hx1, hx2⟩ := hx
        rw [hx1] at p1 p2
        rw [hx2] at p3 p4
        have HX1 := Lib.hid hx1
        have HX2 := Lib.hid hx2
        clear hx1 hx2
        by_cases hxu : x = u
        case neg =>
          have e2 : (x == u) = false := by rw [beq_eq_false_iff_ne]; exact hxu
          go_upto_region 6 with fail
          go_quiet (fail)
          go_wp2_with fail
          go_ret
          exact ⟨retB (by rw [← HR.out]; symm; apply decide_eq_false; intro he; have h1 := HX1.out; rw [he, HX2.out] at h1; injection h1 with e1 e2; omega), junk_of_below (by (repeat' (first | (with_reducible exact Below.refl _ _) | (with_reducible assumption) | (with_reducible refine Below.alloc ?_ ?_ _) | (with_reducible refine Below.drew ?_) | (with_reducible refine below_drewN ?_ _) | (with_reducible refine below_plus ?_ ?_ _ _) | (with_reducible refine Below.setCell ?_ ?_ _) | (with_reducible refine Below.setRow ?_ ?_ _) | go_size)))⟩
        subst hxu
        by_cases hyv : y = v
        case neg =>
          have e2 : (y == v) = false := by rw [beq_eq_false_iff_ne]; exact hyv
          go_upto_region 6 with fail
          go_quiet (fail)
          go_wp2_with fail
          go_ret
          exact ⟨retB (by rw [← HR.out]; symm; apply decide_eq_false; intro he; have h1 := HX1.out; rw [he, HX2.out] at h1; injection h1 with e1 e2; omega), junk_of_below (by (repeat' (first | (with_reducible exact Below.refl _ _) | (with_reducible assumption) | (with_reducible refine Below.alloc ?_ ?_ _) | (with_reducible refine Below.drew ?_) | (with_reducible refine below_drewN ?_ _) | (with_reducible refine below_plus ?_ ?_ _ _) | (with_reducible refine Below.setCell ?_ ?_ _) | (with_reducible refine Below.setRow ?_ ?_ _) | go_size)))⟩
        subst hyv
        have hk2 : K.take (k + 1) = M.take (k + 1) := by
          have hK : k < K.length := by rw [L1.out]; exact hlt
          have hM : k < M.length := by rw [L2.out]; exact hlt
          rw [List.take_succ_eq_append_getElem hK, List.take_succ_eq_append_getElem hM, HK1.out]
          have h1 := HX1.out
          have h2 := HX2.out
          rw [List.getD_eq_getElem?_getD, List.getElem?_eq_getElem hK] at h1
          rw [List.getD_eq_getElem?_getD, List.getElem?_eq_getElem hM] at h2
          simp at h1 h2
          rw [h1, h2]
        have HK2 := Lib.hid hk2
        clear hk2
        go_upto_region 6 with fail
        go_quiet (fail)
        go_wp2_with fail
        go_roundw
        case rel => exact ⟨k + 1, by go_num, by rw [L1.out]; omega, HK2.out, _, by first | exact World.drewN_drewN _ _ _ | exact (World.drewN_add _ _ _).symm | rfl | (trace_state; sorry)⟩
        case measure => simp [intOf]; omega
      · obtain rfl : k = n := by omega
        have hkm : K = M := by
          rw [List.take_of_length_le (by rw [L1.out]; omega), List.take_of_length_le (by rw [L2.out]; omega)] at hk
          exact hk
        have HE := Lib.hid (show R = true by rw [← HR.out]; exact decide_eq_true hkm)
        clear hk hkm
        go_wp2_with fail
        go_ret
        exact ⟨retB HE.out.symm, junk_of_below (by (repeat' (first | (with_reducible exact Below.refl _ _) | (with_reducible assumption) | (with_reducible refine Below.alloc ?_ ?_ _) | (with_reducible refine Below.drew ?_) | (with_reducible refine below_drewN ?_ _) | (with_reducible refine below_plus ?_ ?_ _ _) | (with_reducible refine Below.setCell ?_ ?_ _) | (with_reducible refine Below.setRow ?_ ?_ _) | go_size)))⟩
  · have e1 : ((n : Int) == (m : Int)) = false := by rw [beq_eq_false_iff_ne]; omega
    rw [decide_eq_false (fun e : K = M => hnm (by rw [← l1, ← l2, e]))]
    clear hK hM l1 l2
    go_enter Try.func24, Try.ntmps24
    go_wp2_with fail
    go_ret
    exact ⟨rfl, junk_of_below (by (repeat' (first | (with_reducible exact Below.refl _ _) | (with_reducible assumption) | (with_reducible refine Below.alloc ?_ ?_ _) | (with_reducible refine Below.drew ?_) | (with_reducible refine below_drewN ?_ _) | (with_reducible refine below_plus ?_ ?_ _ _) | (with_reducible refine Below.setCell ?_ ?_ _) | (with_reducible refine Below.setRow ?_ ?_ _) | go_size)))⟩
end Go.Proofs.Ytlfjbbelanccbaa

/- Contract of point.Bounds. -/
import Derived.Test.YtlfjbbelanccbaaPtD
namespace Go.Proofs.Ytlfjbbelanccbaa
set_option linter.unusedVariables false
set_option linter.unusedSimpArgs false
open Go.RowKit

def OutAt (w2 : World) (K : List (Int × Int)) (i : Value) (wr : World) : Prop := ∃ j : Nat, i = .int .i64 (j : Int) ∧ j ≤ 4 ∧ ExtAt w2 K j 0 wr
def InnAt (w2 : World) (K : List (Int × Int)) (j : Nat) (i : Value) (wr : World) : Prop := ∃ k : Nat, i = .int .i64 (k : Int) ∧ k ≤ K.length ∧ ExtAt w2 K j k wr

theorem ix_0 (f0 f1 f2 f3 : Value) (w : World) : (Instr.index 56 (.agg #[f0, f1, f2, f3]) (.int .i64 0)).run Try.prog w = .ok f0 w := by kernel_rfl
theorem jx_0 (f0 f1 f2 f3 : Value) (w : World) : (Instr.index 56 (.agg #[f0, f1, f2, f3]) (.int .i64 ((0 : Nat) : Int))).run Try.prog w = .ok f0 w := by kernel_rfl
theorem ix_1 (f0 f1 f2 f3 : Value) (w : World) : (Instr.index 56 (.agg #[f0, f1, f2, f3]) (.int .i64 1)).run Try.prog w = .ok f1 w := by kernel_rfl
theorem jx_1 (f0 f1 f2 f3 : Value) (w : World) : (Instr.index 56 (.agg #[f0, f1, f2, f3]) (.int .i64 ((1 : Nat) : Int))).run Try.prog w = .ok f1 w := by kernel_rfl
theorem ix_2 (f0 f1 f2 f3 : Value) (w : World) : (Instr.index 56 (.agg #[f0, f1, f2, f3]) (.int .i64 2)).run Try.prog w = .ok f2 w := by kernel_rfl
theorem jx_2 (f0 f1 f2 f3 : Value) (w : World) : (Instr.index 56 (.agg #[f0, f1, f2, f3]) (.int .i64 ((2 : Nat) : Int))).run Try.prog w = .ok f2 w := by kernel_rfl
theorem ix_3 (f0 f1 f2 f3 : Value) (w : World) : (Instr.index 56 (.agg #[f0, f1, f2, f3]) (.int .i64 3)).run Try.prog w = .ok f3 w := by kernel_rfl
theorem jx_3 (f0 f1 f2 f3 : Value) (w : World) : (Instr.index 56 (.agg #[f0, f1, f2, f3]) (.int .i64 ((3 : Nat) : Int))).run Try.prog w = .ok f3 w := by kernel_rfl

set_option maxRecDepth 100000 in
set_option maxHeartbeats 4000000 in
theorem n_ptBounds (w : World) (a : Option Addr) (n ca : Nat) (K : List (Int × Int)) (hK : PReads w a n K) (hs : n ≤ 9223372036854775807) :
    Calls Try.prog 22 #[.slice a n ca] w fun e w' => e = .returned (.tuple #[boxV K, .bool (bndOk K)]) ∧ Junk w w' := by
  have HK := Lib.hid hK
  have HA := Lib.hid (fun w' (h : PReads w' a n K) => n_ptAll w' a n ca K h hs)
  have l1 := hK.1
  by_cases hn : n = 0
  · have hb : bndOk K = false := by unfold bndOk; simp; omega
    rw [boxV_none hb, hb]
    have e1 : ((n : Int) == 0) = true := by rw [beq_iff_eq]; omega
    clear hn l1 hK hb
    go_enter Try.func22, Try.ntmps22
    go_wp2
    refine bodyPost_ret (results_box2 rfl _ _ w.heap.size #[.int .i64 0, .int .i64 0, .int .i64 0, .int .i64 0] rfl (by simp [go_sem]) rfl) rfl ⟨rfl, junk_of_below (by (repeat' (first | (with_reducible exact Below.refl _ _) | (with_reducible assumption) | (with_reducible refine Below.alloc ?_ ?_ _) | (with_reducible refine Below.drew ?_) | (with_reducible refine below_drewN ?_ _) | (with_reducible refine below_plus ?_ ?_ _ _) | (with_reducible refine Below.setCell ?_ ?_ _) | (with_reducible refine Below.setRow ?_ ?_ _) | go_size)))⟩
  have e1 : ((n : Int) == 0) = false := by rw [beq_eq_false_iff_ne]; omega
  cases hall : allOk K with
  | false =>
    have hb : bndOk K = false := by unfold bndOk; rw [hall]; simp
    rw [boxV_none hb, hb]
    rw [hall] at HA
    clear hn l1 hK hb hall
    go_enter Try.func22, Try.ntmps22
    go_wp2_with (go_at_call 30; refine (HA.out _ (HK.out.below (by (repeat' (first | (with_reducible exact Below.refl _ _) | (with_reducible assumption) | (with_reducible refine Below.alloc ?_ ?_ _) | (with_reducible refine Below.drew ?_) | (with_reducible refine below_drewN ?_ _) | (with_reducible refine below_plus ?_ ?_ _ _) | (with_reducible refine Below.setCell ?_ ?_ _) | (with_reducible refine Below.setRow ?_ ?_ _) | go_size))))).mono ?_; rintro e w1 ⟨rfl, J0, d0, rfl⟩)
    refine bodyPost_ret (results_box2 rfl _ _ w.heap.size #[.int .i64 0, .int .i64 0, .int .i64 0, .int .i64 0] rfl (by simp [go_sem]) rfl) rfl ⟨rfl, junk_of_below (by (repeat' (first | (with_reducible exact Below.refl _ _) | (with_reducible assumption) | (with_reducible refine Below.alloc ?_ ?_ _) | (with_reducible refine Below.drew ?_) | (with_reducible refine below_drewN ?_ _) | (with_reducible refine below_plus ?_ ?_ _ _) | (with_reducible refine Below.setCell ?_ ?_ _) | (with_reducible refine Below.setRow ?_ ?_ _) | go_size)))⟩
  | true =>
    have hb : bndOk K = true := by unfold bndOk; rw [hall]; simp; omega
    rw [boxV_some hb, hb]
    have HX := Lib.hid (hx_ok hall (by omega) K.length)
    have HY := Lib.hid (hy_ok hall (by omega) K.length)
    rw [hall] at HA
    rcases HK.out.2 with h0 | ⟨b1, o1, rfl, hc⟩
    · omega
    obtain ⟨p1, p2⟩ := hc 0 (by omega)
    have hx : ∃ x y : Int, (K.getD 0 (0, 0)) = (x, y) := ⟨_, _, rfl⟩
    obtain ⟨x, y, hx1⟩ := hx
    rw [hx1] at p1 p2
    simp at p1 p2
    have HC := Lib.hid hc
    have HX1 := Lib.hid hx1
    have HN := Lib.hid hn
    have L1 := Lib.hid l1
    have hbl : b1 < w.heap.size := World.block_lt_of_cell? _ _ p1
    have i1 : (0 : Int) < (n : Int) := by omega
    have hmf : ∀ (fn : Fn) (first cap : Array Value) (w : World), (Instr.makeFunc fn first cap).run Try.prog w = .ok (.func fn first cap) w := fun _ _ _ _ => rfl
    clear hn l1 hK hb hall hc hx1
    go_enter Try.func22, Try.ntmps22
    go_wp2_with (go_at_call 30; refine (HA.out _ (HK.out.below (by (repeat' (first | (with_reducible exact Below.refl _ _) | (with_reducible assumption) | (with_reducible refine Below.alloc ?_ ?_ _) | (with_reducible refine Below.drew ?_) | (with_reducible refine below_drewN ?_ _) | (with_reducible refine below_plus ?_ ?_ _ _) | (with_reducible refine Below.setCell ?_ ?_ _) | (with_reducible refine Below.setRow ?_ ?_ _) | go_size))))).mono ?_; rintro e w1 ⟨rfl, J0, d0, rfl⟩)
    go_region
    go_wp2_with fail
    have hw : ∃ w2, ((w.alloc (.cells #[.int .i64 0, .int .i64 0, .int .i64 0, .int .i64 0] 34)).plus J0 (d0 + 1)) = w2 := ⟨_, rfl⟩
    obtain ⟨w2, hw2⟩ := hw
    have hz : w.heap.size + 1 + J0.size = w2.heap.size := by rw [← hw2]; simp
    have hj : Below w.heap.size w w2 := by rw [← hw2]; (repeat' (first | (with_reducible exact Below.refl _ _) | (with_reducible assumption) | (with_reducible refine Below.alloc ?_ ?_ _) | (with_reducible refine Below.drew ?_) | (with_reducible refine below_drewN ?_ _) | (with_reducible refine below_plus ?_ ?_ _ _) | (with_reducible refine Below.setCell ?_ ?_ _) | (with_reducible refine Below.setRow ?_ ?_ _) | go_size))
    have hst : #[Value.int .i64 x, .int .i64 y, .int .i64 x, .int .i64 y] = stF K 0 0 := by rw [st0, x0, HX1.out]; rfl
    have hb2 : b1 < w2.heap.size := Nat.lt_of_lt_of_le hbl hj.size
    have HC2 := Lib.hid (fun i (hi : i < n) => show w2.cell? ⟨b1, o1 + i * 2, none⟩ = some (.int .i64 (K.getD i (0, 0)).1) ∧ w2.cell? ⟨b1, o1 + i * 2 + 1, none⟩ = some (.int .i64 (K.getD i (0, 0)).2) from by
      obtain ⟨h1, h2⟩ := HC.out i hi
      exact ⟨(World.cell?_of_block (a := ⟨b1, o1 + i * 2, none⟩) (hj.block b1 hbl)).trans h1, (World.cell?_of_block (a := ⟨b1, o1 + i * 2 + 1, none⟩) (hj.block b1 hbl)).trans h2⟩)
    rw [hw2, hz, hst]
    have HW2 := Lib.hid hw2
    clear hw2 hst hj p1 p2 hz
    go_loopw [30] (fun i wr => OutAt w2 K i wr) (fun i _ => 4 - (intOf i).toNat)
    case atStart => exact ⟨0, rfl, by omega, #[], _, (plus_nil _).symm⟩
    case round =>
      obtain ⟨j, hi, j4, J, d, rfl⟩ := hrel
      rcases (show j = 0 ∨ j = 1 ∨ j = 2 ∨ j = 3 ∨ j = 4 by omega) with rfl | rfl | rfl | rfl | rfl
      · obtain rfl : _ = Value.int .i64 0 := hi
        have hix := ix_0
        have hjx := jx_0
        go_wp2_with fail
        go_loopw [35] (fun i wr => InnAt w2 K 0 i wr) (fun i _ => n - (intOf i).toNat)
        case atStart => exact ⟨0, rfl, by omega, J, d, rfl⟩
        case round =>
          obtain ⟨k, rfl, k1, J1, d1, rfl⟩ := hrel
          rw [L1.out] at k1
          by_cases hlt : k < n
          · obtain ⟨q1, q2⟩ := HC2.out k hlt
            have i2 : (k : Int) < (n : Int) := by omega
            have hx : ∃ x y : Int, (K.getD k (0, 0)) = (x, y) := ⟨_, _, rfl⟩
            obtain ⟨u, v, hx1⟩ := hx
            rw [hx1] at q1 q2
            have hk : k < K.length := by rw [L1.out]; exact hlt
            have HE := Lib.hid (fun J d o => n_ext0 (w2 := w2) hk hx1 J d o)
            unfold pt at HE
            clear hx1 hk
            go_wp2_with (go_at_call 39; refine (HE.out _ _ _).mono ?_; rintro e w1 ⟨rfl, J2, d2, rfl⟩)
            go_roundw
            case rel => exact ⟨k + 1, by go_num, by rw [L1.out]; omega, J2, d2, rfl⟩
            case measure => simp [intOf]; omega
          · obtain rfl : k = n := by omega
            go_wp2_with fail
            go_roundw
            case rel => exact ⟨0 + 1, by go_num, by omega, J1, d1, by rw [← st_next, L1.out]⟩
            case measure => simp [intOf]
      · obtain rfl : _ = Value.int .i64 1 := hi
        have hix := ix_1
        have hjx := jx_1
        go_wp2_with fail
        go_loopw [35] (fun i wr => InnAt w2 K 1 i wr) (fun i _ => n - (intOf i).toNat)
        case atStart => exact ⟨0, rfl, by omega, J, d, rfl⟩
        case round =>
          obtain ⟨k, rfl, k1, J1, d1, rfl⟩ := hrel
          rw [L1.out] at k1
          by_cases hlt : k < n
          · obtain ⟨q1, q2⟩ := HC2.out k hlt
            have i2 : (k : Int) < (n : Int) := by omega
            have hx : ∃ x y : Int, (K.getD k (0, 0)) = (x, y) := ⟨_, _, rfl⟩
            obtain ⟨u, v, hx1⟩ := hx
            rw [hx1] at q1 q2
            have hk : k < K.length := by rw [L1.out]; exact hlt
            have HE := Lib.hid (fun J d o => n_ext1 (w2 := w2) hk hx1 J d o)
            unfold pt at HE
            clear hx1 hk
            go_wp2_with (go_at_call 40; refine (HE.out _ _ _).mono ?_; rintro e w1 ⟨rfl, J2, d2, rfl⟩)
            go_roundw
            case rel => exact ⟨k + 1, by go_num, by rw [L1.out]; omega, J2, d2, rfl⟩
            case measure => simp [intOf]; omega
          · obtain rfl : k = n := by omega
            go_wp2_with fail
            go_roundw
            case rel => exact ⟨1 + 1, by go_num, by omega, J1, d1, by rw [← st_next, L1.out]⟩
            case measure => simp [intOf]
      · obtain rfl : _ = Value.int .i64 2 := hi
        have hix := ix_2
        have hjx := jx_2
        go_wp2_with fail
        go_loopw [35] (fun i wr => InnAt w2 K 2 i wr) (fun i _ => n - (intOf i).toNat)
        case atStart => exact ⟨0, rfl, by omega, J, d, rfl⟩
        case round =>
          obtain ⟨k, rfl, k1, J1, d1, rfl⟩ := hrel
          rw [L1.out] at k1
          by_cases hlt : k < n
          · obtain ⟨q1, q2⟩ := HC2.out k hlt
            have i2 : (k : Int) < (n : Int) := by omega
            have hx : ∃ x y : Int, (K.getD k (0, 0)) = (x, y) := ⟨_, _, rfl⟩
            obtain ⟨u, v, hx1⟩ := hx
            rw [hx1] at q1 q2
            have hk : k < K.length := by rw [L1.out]; exact hlt
            have HE := Lib.hid (fun J d o => n_ext2 (w2 := w2) hk hx1 J d o)
            unfold pt at HE
            clear hx1 hk
            go_wp2_with (go_at_call 41; refine (HE.out _ _ _).mono ?_; rintro e w1 ⟨rfl, J2, d2, rfl⟩)
            go_roundw
            case rel => exact ⟨k + 1, by go_num, by rw [L1.out]; omega, J2, d2, rfl⟩
            case measure => simp [intOf]; omega
          · obtain rfl : k = n := by omega
            go_wp2_with fail
            go_roundw
            case rel => exact ⟨2 + 1, by go_num, by omega, J1, d1, by rw [← st_next, L1.out]⟩
            case measure => simp [intOf]
      · obtain rfl : _ = Value.int .i64 3 := hi
        have hix := ix_3
        have hjx := jx_3
        go_wp2_with fail
        go_loopw [35] (fun i wr => InnAt w2 K 3 i wr) (fun i _ => n - (intOf i).toNat)
        case atStart => exact ⟨0, rfl, by omega, J, d, rfl⟩
        case round =>
          obtain ⟨k, rfl, k1, J1, d1, rfl⟩ := hrel
          rw [L1.out] at k1
          by_cases hlt : k < n
          · obtain ⟨q1, q2⟩ := HC2.out k hlt
            have i2 : (k : Int) < (n : Int) := by omega
            have hx : ∃ x y : Int, (K.getD k (0, 0)) = (x, y) := ⟨_, _, rfl⟩
            obtain ⟨u, v, hx1⟩ := hx
            rw [hx1] at q1 q2
            have hk : k < K.length := by rw [L1.out]; exact hlt
            have HE := Lib.hid (fun J d o => n_ext3 (w2 := w2) hk hx1 J d o)
            unfold pt at HE
            clear hx1 hk
            go_wp2_with (go_at_call 42; refine (HE.out _ _ _).mono ?_; rintro e w1 ⟨rfl, J2, d2, rfl⟩)
            go_roundw
            case rel => exact ⟨k + 1, by go_num, by rw [L1.out]; omega, J2, d2, rfl⟩
            case measure => simp [intOf]; omega
          · obtain rfl : k = n := by omega
            go_wp2_with fail
            go_roundw
            case rel => exact ⟨3 + 1, by go_num, by omega, J1, d1, by rw [← st_next, L1.out]⟩
            case measure => simp [intOf]
      · obtain rfl : _ = Value.int .i64 4 := hi
        have HB := Lib.hid (fun J' d' => n_ptBox ((w2.alloc (.cells (stF K 4 0) 54)).plus J' d') w2.heap.size _ _ _ _ (by rw [rowAt_plus _ _ _ _ (by simp), rowAt_alloc_at _ _ _ _ rfl, st4]) HX.out HY.out)
        unfold bxV at *
        obtain rfl := HW2.out
        simp only [size_plus, World.size_alloc] at HB
        go_wp2_with (go_at_call 43; refine (HB.out _ _).mono ?_; rintro e w1 ⟨rfl, J5, d5, rfl⟩)
        refine bodyPost_ret (results_box2 rfl _ _ w.heap.size #[.int .i64 (lxF K K.length), .int .i64 (lyF K K.length), .int .i64 (hxF K K.length + 1), .int .i64 (hyF K K.length + 1)] rfl (by simp [go_sem]) rfl) rfl ⟨rfl, junk_of_below (by (repeat' (first | (with_reducible exact Below.refl _ _) | (with_reducible assumption) | (with_reducible refine Below.alloc ?_ ?_ _) | (with_reducible refine Below.drew ?_) | (with_reducible refine below_drewN ?_ _) | (with_reducible refine below_plus ?_ ?_ _ _) | (with_reducible refine Below.setCell ?_ ?_ _) | (with_reducible refine Below.setRow ?_ ?_ _) | go_size)))⟩
end Go.Proofs.Ytlfjbbelanccbaa

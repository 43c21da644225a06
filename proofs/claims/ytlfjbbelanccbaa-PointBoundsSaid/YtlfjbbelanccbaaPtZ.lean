/- The law PointBounds: the walk. -/
import Derived.Test.YtlfjbbelanccbaaPtBm
namespace Go.Proofs.Ytlfjbbelanccbaa
set_option linter.unusedVariables false
set_option linter.unusedSimpArgs false
open Go.RowKit

def BndAt (W : World) (i : Value) (wr : World) : Prop := ∃ k : Nat, i = .int .i64 (k : Int) ∧ k ≤ 4 ∧ Cls W wr
def LostAt (W : World) (K : List (Int × Int)) (s : Int × Int × Int × Int) (l i : Value) (wr : World) : Prop := ∃ k : Nat, i = .int .i64 (k : Int) ∧ k ≤ K.length ∧ l = .bool (lostF K s k) ∧ Cls W wr

set_option maxRecDepth 100000 in
set_option maxHeartbeats 8000000 in
theorem l_pointBounds (w : World) (a : Option Addr) (n ca : Nat) (K : List (Int × Int)) (hK : PReads w a n K) (hs : n ≤ 9223372036854775807) :
    Calls Try.prog 9 #[.slice a n ca] w fun e w' => e = .returned (.bool true) ∧ Junk w w' := by
  have H9 := Lib.hid l_ptAwake
  have HK := Lib.hid hK
  have HB := Lib.hid (fun w' (h : PReads w' a n K) => n_ptBounds w' a n ca K h hs)
  have l1 := hK.1
  by_cases hbig : 500 < n
  · have i1 : (500 : Int) < (n : Int) := by omega
    unfold boxV bxV at HB
    generalize boxF K = B at *
    generalize bndOk K = B0 at *
    clear hK l1
    go_enter Try.func9, Try.ntmps9
    go_wp2_with (first | (go_at_call 21; refine (H9.out _).mono ?_; rintro e w1 ⟨rfl, J0, dJ0, rfl⟩) | (go_at_call 22; refine (HB.out _ (HK.out.below (by (repeat' (first | (with_reducible exact Below.refl _ _) | (with_reducible assumption) | (with_reducible refine Below.alloc ?_ ?_ _) | (with_reducible refine Below.drew ?_) | (with_reducible refine below_drewN ?_ _) | (with_reducible refine below_plus ?_ ?_ _ _) | (with_reducible refine Below.setCell ?_ ?_ _) | (with_reducible refine Below.setRow ?_ ?_ _) | go_size))))).mono ?_; rintro e w1 ⟨rfl, J1, d1, rfl⟩))
    go_ret
    exact ⟨rfl, junk_of_below (by (repeat' (first | (with_reducible exact Below.refl _ _) | (with_reducible assumption) | (with_reducible refine Below.alloc ?_ ?_ _) | (with_reducible refine Below.drew ?_) | (with_reducible refine below_drewN ?_ _) | (with_reducible refine below_plus ?_ ?_ _ _) | (with_reducible refine Below.setCell ?_ ?_ _) | (with_reducible refine Below.setRow ?_ ?_ _) | go_size)))⟩
  have i1 : ¬ (500 : Int) < (n : Int) := by omega
  cases hb : bndOk K with
  | false =>
    rw [boxV_none hb, hb] at HB
    clear hK l1 hb
    go_enter Try.func9, Try.ntmps9
    go_wp2_with (first | (go_at_call 21; refine (H9.out _).mono ?_; rintro e w1 ⟨rfl, J0, dJ0, rfl⟩) | (go_at_call 22; refine (HB.out _ (HK.out.below (by (repeat' (first | (with_reducible exact Below.refl _ _) | (with_reducible assumption) | (with_reducible refine Below.alloc ?_ ?_ _) | (with_reducible refine Below.drew ?_) | (with_reducible refine below_drewN ?_ _) | (with_reducible refine below_plus ?_ ?_ _ _) | (with_reducible refine Below.setCell ?_ ?_ _) | (with_reducible refine Below.setRow ?_ ?_ _) | go_size))))).mono ?_; rintro e w1 ⟨rfl, J1, d1, rfl⟩))
    go_ret
    exact ⟨rfl, junk_of_below (by (repeat' (first | (with_reducible exact Below.refl _ _) | (with_reducible assumption) | (with_reducible refine Below.alloc ?_ ?_ _) | (with_reducible refine Below.drew ?_) | (with_reducible refine below_drewN ?_ _) | (with_reducible refine below_plus ?_ ?_ _ _) | (with_reducible refine Below.setCell ?_ ?_ _) | (with_reducible refine Below.setRow ?_ ?_ _) | go_size)))⟩
  | true =>
    have hb2 : 0 < K.length ∧ allOk K = true := by simpa [bndOk] using hb
    obtain ⟨h0, hall⟩ := hb2
    rw [boxV_some hb, hb] at HB
    have HIn := Lib.hid (fun i x y (hi : i < K.length) h => in_box (K := K) (i := i) (x := x) (y := y) hi h)
    have HL := Lib.hid (lost_end h0)
    have HM := Lib.hid (fun w' => n_ptMeet (lxF K K.length) (lyF K K.length) (hxF K K.length + 1) (hyF K K.length + 1) (lxF K K.length) (lyF K K.length) (hxF K K.length + 1) (hyF K K.length + 1) w')
    rw [box_meets h0] at HM
    have x1 := lx_ok hall h0 K.length
    have x2 := ly_ok hall h0 K.length
    have x3 := hx_ok hall h0 K.length
    have x4 := hy_ok hall h0 K.length
    rcases hK.2 with hz | ⟨b1, o1, rfl, hc⟩
    · omega
    have HC := Lib.hid hc
    have hbl : b1 < w.heap.size := World.block_lt_of_cell? _ _ (hc 0 (by omega)).1
    have L1 := Lib.hid l1
    clear hK hb hc h0 hall l1
    generalize lxF K K.length = A1 at *
    generalize lyF K K.length = A2 at *
    generalize hxF K K.length = A3 at *
    generalize hyF K K.length = A4 at *
    have e1 : IntKind.i64.wrap (A1 + 1) = A1 + 1 := by simp [IntKind.wrap, IntKind.signed, IntKind.bits]; omega
    have e2 : IntKind.i64.wrap (A2 + 1) = A2 + 1 := by simp [IntKind.wrap, IntKind.signed, IntKind.bits]; omega
    have e3 : IntKind.i64.wrap (A3 + 1) = A3 + 1 := by simp [IntKind.wrap, IntKind.signed, IntKind.bits]; omega
    have e4 : IntKind.i64.wrap (A4 + 1) = A4 + 1 := by simp [IntKind.wrap, IntKind.signed, IntKind.bits]; omega
    have e5 : wrap64 A3 = A3 := by unfold wrap64; omega
    have e6 : wrap64 A4 = A4 := by unfold wrap64; omega
    clear x1 x2 x3 x4
    unfold bxV at HB HM
    go_enter Try.func9, Try.ntmps9
    go_wp2_with (first | (go_at_call 21; refine (H9.out _).mono ?_; rintro e w1 ⟨rfl, J0, dJ0, rfl⟩) | (go_at_call 22; refine (HB.out _ (HK.out.below (by (repeat' (first | (with_reducible exact Below.refl _ _) | (with_reducible assumption) | (with_reducible refine Below.alloc ?_ ?_ _) | (with_reducible refine Below.drew ?_) | (with_reducible refine below_drewN ?_ _) | (with_reducible refine below_plus ?_ ?_ _ _) | (with_reducible refine Below.setCell ?_ ?_ _) | (with_reducible refine Below.setRow ?_ ?_ _) | go_size))))).mono ?_; rintro e w1 ⟨rfl, J1, d1, rfl⟩))
    obtain ⟨W, hW⟩ : ∃ W, ((w.plus (J0 ++ J1) d1).alloc (.cells #[.int .i64 A1, .int .i64 A2, .int .i64 (A3 + 1), .int .i64 (A4 + 1)] 34)).alloc (.cells #[.int .i64 (A1 + 1), .int .i64 A2, .int .i64 (A3 + 1), .int .i64 (A4 + 1), .int .i64 A1, .int .i64 (A2 + 1), .int .i64 (A3 + 1), .int .i64 (A4 + 1), .int .i64 A1, .int .i64 A2, .int .i64 A3, .int .i64 (A4 + 1), .int .i64 A1, .int .i64 A2, .int .i64 (A3 + 1), .int .i64 A4] 34) = W := ⟨_, rfl⟩
    obtain ⟨B, hB⟩ : ∃ B, w.heap.size + (J0.size + J1.size) = B := ⟨_, rfl⟩
    obtain ⟨S, hS⟩ : ∃ S, B + 1 = S := ⟨_, rfl⟩
    have f0 : W.cell? ⟨B, 0, none⟩ = some (.int .i64 (A1)) := by rw [← hW, ← hB]; simp [go_sem]
    have f1 : W.cell? ⟨B, 1, none⟩ = some (.int .i64 (A2)) := by rw [← hW, ← hB]; simp [go_sem]
    have f2 : W.cell? ⟨B, 2, none⟩ = some (.int .i64 (A3 + 1)) := by rw [← hW, ← hB]; simp [go_sem]
    have f3 : W.cell? ⟨B, 3, none⟩ = some (.int .i64 (A4 + 1)) := by rw [← hW, ← hB]; simp [go_sem]
    have g0 : W.cell? ⟨S, 0, none⟩ = some (.int .i64 (A1 + 1)) := by rw [← hW, ← hS, ← hB]; simp [go_sem]
    have g1 : W.cell? ⟨S, 1, none⟩ = some (.int .i64 (A2)) := by rw [← hW, ← hS, ← hB]; simp [go_sem]
    have g2 : W.cell? ⟨S, 2, none⟩ = some (.int .i64 (A3 + 1)) := by rw [← hW, ← hS, ← hB]; simp [go_sem]
    have g3 : W.cell? ⟨S, 3, none⟩ = some (.int .i64 (A4 + 1)) := by rw [← hW, ← hS, ← hB]; simp [go_sem]
    have g4 : W.cell? ⟨S, 4, none⟩ = some (.int .i64 (A1)) := by rw [← hW, ← hS, ← hB]; simp [go_sem]
    have g5 : W.cell? ⟨S, 5, none⟩ = some (.int .i64 (A2 + 1)) := by rw [← hW, ← hS, ← hB]; simp [go_sem]
    have g6 : W.cell? ⟨S, 6, none⟩ = some (.int .i64 (A3 + 1)) := by rw [← hW, ← hS, ← hB]; simp [go_sem]
    have g7 : W.cell? ⟨S, 7, none⟩ = some (.int .i64 (A4 + 1)) := by rw [← hW, ← hS, ← hB]; simp [go_sem]
    have g8 : W.cell? ⟨S, 8, none⟩ = some (.int .i64 (A1)) := by rw [← hW, ← hS, ← hB]; simp [go_sem]
    have g9 : W.cell? ⟨S, 9, none⟩ = some (.int .i64 (A2)) := by rw [← hW, ← hS, ← hB]; simp [go_sem]
    have g10 : W.cell? ⟨S, 10, none⟩ = some (.int .i64 (A3)) := by rw [← hW, ← hS, ← hB]; simp [go_sem]
    have g11 : W.cell? ⟨S, 11, none⟩ = some (.int .i64 (A4 + 1)) := by rw [← hW, ← hS, ← hB]; simp [go_sem]
    have g12 : W.cell? ⟨S, 12, none⟩ = some (.int .i64 (A1)) := by rw [← hW, ← hS, ← hB]; simp [go_sem]
    have g13 : W.cell? ⟨S, 13, none⟩ = some (.int .i64 (A2)) := by rw [← hW, ← hS, ← hB]; simp [go_sem]
    have g14 : W.cell? ⟨S, 14, none⟩ = some (.int .i64 (A3 + 1)) := by rw [← hW, ← hS, ← hB]; simp [go_sem]
    have g15 : W.cell? ⟨S, 15, none⟩ = some (.int .i64 (A4)) := by rw [← hW, ← hS, ← hB]; simp [go_sem]
    have hbB : B < W.heap.size := by rw [← hW, ← hB]; simp; omega
    have hbS : S < W.heap.size := by rw [← hW, ← hS, ← hB]; simp
    have hj : Below w.heap.size w W := by rw [← hW]; (repeat' (first | (with_reducible exact Below.refl _ _) | (with_reducible assumption) | (with_reducible refine Below.alloc ?_ ?_ _) | (with_reducible refine Below.drew ?_) | (with_reducible refine below_drewN ?_ _) | (with_reducible refine below_plus ?_ ?_ _ _) | (with_reducible refine Below.setCell ?_ ?_ _) | (with_reducible refine Below.setRow ?_ ?_ _) | go_size))
    have hsz : w.heap.size ≤ W.heap.size := hj.size
    have hb2 : b1 < W.heap.size := Nat.lt_of_lt_of_le hbl hsz
    have HC2 := Lib.hid (fun i (hi : i < n) => show W.cell? ⟨b1, o1 + i * 2, none⟩ = some (.int .i64 (K.getD i (0, 0)).1) ∧ W.cell? ⟨b1, o1 + i * 2 + 1, none⟩ = some (.int .i64 (K.getD i (0, 0)).2) from by
      obtain ⟨h1, h2⟩ := HC.out i hi
      exact ⟨(World.cell?_of_block (a := ⟨b1, o1 + i * 2, none⟩) (hj.block b1 hbl)).trans h1, (World.cell?_of_block (a := ⟨b1, o1 + i * 2 + 1, none⟩) (hj.block b1 hbl)).trans h2⟩)
    simp only [hW, hB, hS]
    clear hW hB hS e1 e2 e3 e4 e5 e6 HB HK HC
    go_loopw [7] (fun i wr => BndAt W i wr) (fun i _ => 4 - (intOf i).toNat)
    case atStart => exact ⟨0, rfl, by omega, #[], _, (plus_nil _).symm⟩
    case round =>
      obtain ⟨k, hi, k4, J2, d2, rfl⟩ := hrel
      rcases (show k = 0 ∨ k = 1 ∨ k = 2 ∨ k = 3 ∨ k = 4 by omega) with rfl | rfl | rfl | rfl | rfl
      · obtain rfl : _ = Value.int .i64 0 := hi
        go_wp2_with fail
        go_loopw [8, 9] (fun l i wr => LostAt W K (A1 + 1, A2, A3 + 1, A4 + 1) l i wr) (fun _ i _ => n - (intOf i).toNat)
        case atStart => exact ⟨0, rfl, by omega, by rw [lost_0], J2, d2, rfl⟩
        case round =>
          obtain ⟨k, rfl, k1, rfl, J3, d3, rfl⟩ := hrel
          rw [L1.out] at k1
          by_cases hlt : k < n
          · obtain ⟨q1, q2⟩ := HC2.out k hlt
            have i2 : (k : Int) < (n : Int) := by omega
            obtain ⟨x, y, hx⟩ : ∃ x y : Int, (K.getD k (0, 0)) = (x, y) := ⟨_, _, rfl⟩
            rw [hx] at q1 q2
            have hk : k < K.length := by rw [L1.out]; exact hlt
            have HI1 := Lib.hid (fun w' => n_ptIn x y A1 A2 (A3 + 1) (A4 + 1) w')
            rw [HIn.out k x y hk hx] at HI1
            have HI2 := Lib.hid (fun w' => n_ptIn x y (A1 + 1) (A2) (A3 + 1) (A4 + 1) w')
            have HS := Lib.hid (lost_step hk hx (A1 + 1, A2, A3 + 1, A4 + 1))
            unfold pt bxV at HI1 HI2
            obtain ⟨io, hio⟩ : ∃ io, inF x y (A1 + 1) (A2) (A3 + 1) (A4 + 1) = io := ⟨_, rfl⟩
            obtain ⟨lo, hlo⟩ : ∃ lo, lostF K (A1 + 1, A2, A3 + 1, A4 + 1) k = lo := ⟨_, rfl⟩
            rw [hio] at HI2
            have HS := Lib.hid (HS.out.trans ((congrArg (· || _) hlo).trans (show (lo || !inF x y (A1 + 1) (A2) (A3 + 1) (A4 + 1)) = (lo || !io) by rw [hio])))
            rw [hlo]
            clear hx hk hio hlo
            go_upto_region 17 with fail
            refine region_quiet_all (C := Cls W) (by kernel_rfl) (by kernel_rfl) ⟨_, _, rfl⟩ ?_
            repeat (first | (refine qw_skip (by rfl) ?_; simp only [Act.put, List.setIfInBounds_toArray, List.set_cons_succ, List.set_cons_zero]) | (refine qw_want (by rfl) (fun K hK => ?_); go_simp; first | (refine hK _ ?_; clear hK K) | (apply Exists.intro; refine ⟨?_, hK _ ?_⟩; (rintro w3_ ⟨J3_, d3_, rfl⟩; first | (with_reducible exact rfl) | (go_simp; with_reducible exact rfl) | (go_simp; (first | (with_reducible refine (HI1.out _).mono ?_)); rintro e_ w_ ⟨rfl, J4_, d4_, rfl⟩; exact ⟨rfl, J3_ ++ J4_, d4_, by simp only [plus_plus, Array.append_assoc]⟩)); clear hK K)))
            refine qw_nil ?_
            rintro w3 ⟨J4, d4, rfl⟩
            go_upto_region 19 with fail
            cases lo with
            | false =>
              refine region_quiet_all (C := Cls W) (by kernel_rfl) (by kernel_rfl) ⟨_, _, rfl⟩ ?_
              repeat (first | (refine qw_skip (by rfl) ?_; simp only [Act.put, List.setIfInBounds_toArray, List.set_cons_succ, List.set_cons_zero]) | (refine qw_want (by rfl) (fun K hK => ?_); go_simp; first | (refine hK _ ?_; clear hK K) | (apply Exists.intro; refine ⟨?_, hK _ ?_⟩; (rintro w3_ ⟨J3_, d3_, rfl⟩; first | (with_reducible exact rfl) | (go_simp; with_reducible exact rfl) | (go_simp; (first | (with_reducible refine (HI2.out _).mono ?_)); rintro e_ w_ ⟨rfl, J4_, d4_, rfl⟩; exact ⟨rfl, J3_ ++ J4_, d4_, by simp only [plus_plus, Array.append_assoc]⟩)); clear hK K)))
              refine qw_nil ?_
              rintro w3 ⟨J5, d5, rfl⟩
              go_wp2_with fail
              go_roundw
              case rel => exact ⟨k + 1, by go_num, by rw [L1.out]; omega, by rw [HS.out]; rfl, _, _, rfl⟩
              case measure => simp [intOf]; omega
            | true =>
              refine region_quiet_all (C := Cls W) (by kernel_rfl) (by kernel_rfl) ⟨_, _, rfl⟩ ?_
              repeat (first | (refine qw_skip (by rfl) ?_; simp only [Act.put, List.setIfInBounds_toArray, List.set_cons_succ, List.set_cons_zero]) | (refine qw_want (by rfl) (fun K hK => ?_); go_simp; first | (refine hK _ ?_; clear hK K) | (apply Exists.intro; refine ⟨?_, hK _ ?_⟩; (rintro w3_ ⟨J3_, d3_, rfl⟩; first | (with_reducible exact rfl) | (go_simp; with_reducible exact rfl) | (go_simp; (first | (with_reducible refine (HI2.out _).mono ?_)); rintro e_ w_ ⟨rfl, J4_, d4_, rfl⟩; exact ⟨rfl, J3_ ++ J4_, d4_, by simp only [plus_plus, Array.append_assoc]⟩)); clear hK K)))
              refine qw_nil ?_
              rintro w3 ⟨J5, d5, rfl⟩
              go_wp2_with fail
              go_roundw
              case rel => exact ⟨k + 1, by go_num, by rw [L1.out]; omega, by rw [HS.out]; rfl, _, _, rfl⟩
              case measure => simp [intOf]; omega
          · obtain rfl : k = n := by omega
            have hl : lostF K (A1 + 1, A2, A3 + 1, A4 + 1) k = true := by rw [← L1.out]; have := HL.out 0; unfold sdF at this; exact this
            rw [hl]
            clear hl
            go_wp2_with fail
            go_roundw
            case rel => exact ⟨0 + 1, by first | rfl | go_num, by omega, _, _, rfl⟩
            case measure => simp [intOf]
      · obtain rfl : _ = Value.int .i64 1 := hi
        go_wp2_with fail
        go_loopw [8, 9] (fun l i wr => LostAt W K (A1, A2 + 1, A3 + 1, A4 + 1) l i wr) (fun _ i _ => n - (intOf i).toNat)
        case atStart => exact ⟨0, rfl, by omega, by rw [lost_0], J2, d2, rfl⟩
        case round =>
          obtain ⟨k, rfl, k1, rfl, J3, d3, rfl⟩ := hrel
          rw [L1.out] at k1
          by_cases hlt : k < n
          · obtain ⟨q1, q2⟩ := HC2.out k hlt
            have i2 : (k : Int) < (n : Int) := by omega
            obtain ⟨x, y, hx⟩ : ∃ x y : Int, (K.getD k (0, 0)) = (x, y) := ⟨_, _, rfl⟩
            rw [hx] at q1 q2
            have hk : k < K.length := by rw [L1.out]; exact hlt
            have HI1 := Lib.hid (fun w' => n_ptIn x y A1 A2 (A3 + 1) (A4 + 1) w')
            rw [HIn.out k x y hk hx] at HI1
            have HI2 := Lib.hid (fun w' => n_ptIn x y (A1) (A2 + 1) (A3 + 1) (A4 + 1) w')
            have HS := Lib.hid (lost_step hk hx (A1, A2 + 1, A3 + 1, A4 + 1))
            unfold pt bxV at HI1 HI2
            obtain ⟨io, hio⟩ : ∃ io, inF x y (A1) (A2 + 1) (A3 + 1) (A4 + 1) = io := ⟨_, rfl⟩
            obtain ⟨lo, hlo⟩ : ∃ lo, lostF K (A1, A2 + 1, A3 + 1, A4 + 1) k = lo := ⟨_, rfl⟩
            rw [hio] at HI2
            have HS := Lib.hid (HS.out.trans ((congrArg (· || _) hlo).trans (show (lo || !inF x y (A1) (A2 + 1) (A3 + 1) (A4 + 1)) = (lo || !io) by rw [hio])))
            rw [hlo]
            clear hx hk hio hlo
            go_upto_region 17 with fail
            refine region_quiet_all (C := Cls W) (by kernel_rfl) (by kernel_rfl) ⟨_, _, rfl⟩ ?_
            repeat (first | (refine qw_skip (by rfl) ?_; simp only [Act.put, List.setIfInBounds_toArray, List.set_cons_succ, List.set_cons_zero]) | (refine qw_want (by rfl) (fun K hK => ?_); go_simp; first | (refine hK _ ?_; clear hK K) | (apply Exists.intro; refine ⟨?_, hK _ ?_⟩; (rintro w3_ ⟨J3_, d3_, rfl⟩; first | (with_reducible exact rfl) | (go_simp; with_reducible exact rfl) | (go_simp; (first | (with_reducible refine (HI1.out _).mono ?_)); rintro e_ w_ ⟨rfl, J4_, d4_, rfl⟩; exact ⟨rfl, J3_ ++ J4_, d4_, by simp only [plus_plus, Array.append_assoc]⟩)); clear hK K)))
            refine qw_nil ?_
            rintro w3 ⟨J4, d4, rfl⟩
            go_upto_region 19 with fail
            cases lo with
            | false =>
              refine region_quiet_all (C := Cls W) (by kernel_rfl) (by kernel_rfl) ⟨_, _, rfl⟩ ?_
              repeat (first | (refine qw_skip (by rfl) ?_; simp only [Act.put, List.setIfInBounds_toArray, List.set_cons_succ, List.set_cons_zero]) | (refine qw_want (by rfl) (fun K hK => ?_); go_simp; first | (refine hK _ ?_; clear hK K) | (apply Exists.intro; refine ⟨?_, hK _ ?_⟩; (rintro w3_ ⟨J3_, d3_, rfl⟩; first | (with_reducible exact rfl) | (go_simp; with_reducible exact rfl) | (go_simp; (first | (with_reducible refine (HI2.out _).mono ?_)); rintro e_ w_ ⟨rfl, J4_, d4_, rfl⟩; exact ⟨rfl, J3_ ++ J4_, d4_, by simp only [plus_plus, Array.append_assoc]⟩)); clear hK K)))
              refine qw_nil ?_
              rintro w3 ⟨J5, d5, rfl⟩
              go_wp2_with fail
              go_roundw
              case rel => exact ⟨k + 1, by go_num, by rw [L1.out]; omega, by rw [HS.out]; rfl, _, _, rfl⟩
              case measure => simp [intOf]; omega
            | true =>
              refine region_quiet_all (C := Cls W) (by kernel_rfl) (by kernel_rfl) ⟨_, _, rfl⟩ ?_
              repeat (first | (refine qw_skip (by rfl) ?_; simp only [Act.put, List.setIfInBounds_toArray, List.set_cons_succ, List.set_cons_zero]) | (refine qw_want (by rfl) (fun K hK => ?_); go_simp; first | (refine hK _ ?_; clear hK K) | (apply Exists.intro; refine ⟨?_, hK _ ?_⟩; (rintro w3_ ⟨J3_, d3_, rfl⟩; first | (with_reducible exact rfl) | (go_simp; with_reducible exact rfl) | (go_simp; (first | (with_reducible refine (HI2.out _).mono ?_)); rintro e_ w_ ⟨rfl, J4_, d4_, rfl⟩; exact ⟨rfl, J3_ ++ J4_, d4_, by simp only [plus_plus, Array.append_assoc]⟩)); clear hK K)))
              refine qw_nil ?_
              rintro w3 ⟨J5, d5, rfl⟩
              go_wp2_with fail
              go_roundw
              case rel => exact ⟨k + 1, by go_num, by rw [L1.out]; omega, by rw [HS.out]; rfl, _, _, rfl⟩
              case measure => simp [intOf]; omega
          · obtain rfl : k = n := by omega
            have hl : lostF K (A1, A2 + 1, A3 + 1, A4 + 1) k = true := by rw [← L1.out]; have := HL.out 1; unfold sdF at this; exact this
            rw [hl]
            clear hl
            go_wp2_with fail
            go_roundw
            case rel => exact ⟨1 + 1, by first | rfl | go_num, by omega, _, _, rfl⟩
            case measure => simp [intOf]
      · obtain rfl : _ = Value.int .i64 2 := hi
        go_wp2_with fail
        go_loopw [8, 9] (fun l i wr => LostAt W K (A1, A2, A3, A4 + 1) l i wr) (fun _ i _ => n - (intOf i).toNat)
        case atStart => exact ⟨0, rfl, by omega, by rw [lost_0], J2, d2, rfl⟩
        case round =>
          obtain ⟨k, rfl, k1, rfl, J3, d3, rfl⟩ := hrel
          rw [L1.out] at k1
          by_cases hlt : k < n
          · obtain ⟨q1, q2⟩ := HC2.out k hlt
            have i2 : (k : Int) < (n : Int) := by omega
            obtain ⟨x, y, hx⟩ : ∃ x y : Int, (K.getD k (0, 0)) = (x, y) := ⟨_, _, rfl⟩
            rw [hx] at q1 q2
            have hk : k < K.length := by rw [L1.out]; exact hlt
            have HI1 := Lib.hid (fun w' => n_ptIn x y A1 A2 (A3 + 1) (A4 + 1) w')
            rw [HIn.out k x y hk hx] at HI1
            have HI2 := Lib.hid (fun w' => n_ptIn x y (A1) (A2) (A3) (A4 + 1) w')
            have HS := Lib.hid (lost_step hk hx (A1, A2, A3, A4 + 1))
            unfold pt bxV at HI1 HI2
            obtain ⟨io, hio⟩ : ∃ io, inF x y (A1) (A2) (A3) (A4 + 1) = io := ⟨_, rfl⟩
            obtain ⟨lo, hlo⟩ : ∃ lo, lostF K (A1, A2, A3, A4 + 1) k = lo := ⟨_, rfl⟩
            rw [hio] at HI2
            have HS := Lib.hid (HS.out.trans ((congrArg (· || _) hlo).trans (show (lo || !inF x y (A1) (A2) (A3) (A4 + 1)) = (lo || !io) by rw [hio])))
            rw [hlo]
            clear hx hk hio hlo
            go_upto_region 17 with fail
            refine region_quiet_all (C := Cls W) (by kernel_rfl) (by kernel_rfl) ⟨_, _, rfl⟩ ?_
            repeat (first | (refine qw_skip (by rfl) ?_; simp only [Act.put, List.setIfInBounds_toArray, List.set_cons_succ, List.set_cons_zero]) | (refine qw_want (by rfl) (fun K hK => ?_); go_simp; first | (refine hK _ ?_; clear hK K) | (apply Exists.intro; refine ⟨?_, hK _ ?_⟩; (rintro w3_ ⟨J3_, d3_, rfl⟩; first | (with_reducible exact rfl) | (go_simp; with_reducible exact rfl) | (go_simp; (first | (with_reducible refine (HI1.out _).mono ?_)); rintro e_ w_ ⟨rfl, J4_, d4_, rfl⟩; exact ⟨rfl, J3_ ++ J4_, d4_, by simp only [plus_plus, Array.append_assoc]⟩)); clear hK K)))
            refine qw_nil ?_
            rintro w3 ⟨J4, d4, rfl⟩
            go_upto_region 19 with fail
            cases lo with
            | false =>
              refine region_quiet_all (C := Cls W) (by kernel_rfl) (by kernel_rfl) ⟨_, _, rfl⟩ ?_
              repeat (first | (refine qw_skip (by rfl) ?_; simp only [Act.put, List.setIfInBounds_toArray, List.set_cons_succ, List.set_cons_zero]) | (refine qw_want (by rfl) (fun K hK => ?_); go_simp; first | (refine hK _ ?_; clear hK K) | (apply Exists.intro; refine ⟨?_, hK _ ?_⟩; (rintro w3_ ⟨J3_, d3_, rfl⟩; first | (with_reducible exact rfl) | (go_simp; with_reducible exact rfl) | (go_simp; (first | (with_reducible refine (HI2.out _).mono ?_)); rintro e_ w_ ⟨rfl, J4_, d4_, rfl⟩; exact ⟨rfl, J3_ ++ J4_, d4_, by simp only [plus_plus, Array.append_assoc]⟩)); clear hK K)))
              refine qw_nil ?_
              rintro w3 ⟨J5, d5, rfl⟩
              go_wp2_with fail
              go_roundw
              case rel => exact ⟨k + 1, by go_num, by rw [L1.out]; omega, by rw [HS.out]; rfl, _, _, rfl⟩
              case measure => simp [intOf]; omega
            | true =>
              refine region_quiet_all (C := Cls W) (by kernel_rfl) (by kernel_rfl) ⟨_, _, rfl⟩ ?_
              repeat (first | (refine qw_skip (by rfl) ?_; simp only [Act.put, List.setIfInBounds_toArray, List.set_cons_succ, List.set_cons_zero]) | (refine qw_want (by rfl) (fun K hK => ?_); go_simp; first | (refine hK _ ?_; clear hK K) | (apply Exists.intro; refine ⟨?_, hK _ ?_⟩; (rintro w3_ ⟨J3_, d3_, rfl⟩; first | (with_reducible exact rfl) | (go_simp; with_reducible exact rfl) | (go_simp; (first | (with_reducible refine (HI2.out _).mono ?_)); rintro e_ w_ ⟨rfl, J4_, d4_, rfl⟩; exact ⟨rfl, J3_ ++ J4_, d4_, by simp only [plus_plus, Array.append_assoc]⟩)); clear hK K)))
              refine qw_nil ?_
              rintro w3 ⟨J5, d5, rfl⟩
              go_wp2_with fail
              go_roundw
              case rel => exact ⟨k + 1, by go_num, by rw [L1.out]; omega, by rw [HS.out]; rfl, _, _, rfl⟩
              case measure => simp [intOf]; omega
          · obtain rfl : k = n := by omega
            have hl : lostF K (A1, A2, A3, A4 + 1) k = true := by rw [← L1.out]; have := HL.out 2; unfold sdF at this; rw [show A3 + 1 - 1 = A3 by omega] at this; exact this
            rw [hl]
            clear hl
            go_wp2_with fail
            go_roundw
            case rel => exact ⟨2 + 1, by first | rfl | go_num, by omega, _, _, rfl⟩
            case measure => simp [intOf]
      · obtain rfl : _ = Value.int .i64 3 := hi
        go_wp2_with fail
        go_loopw [8, 9] (fun l i wr => LostAt W K (A1, A2, A3 + 1, A4) l i wr) (fun _ i _ => n - (intOf i).toNat)
        case atStart => exact ⟨0, rfl, by omega, by rw [lost_0], J2, d2, rfl⟩
        case round =>
          obtain ⟨k, rfl, k1, rfl, J3, d3, rfl⟩ := hrel
          rw [L1.out] at k1
          by_cases hlt : k < n
          · obtain ⟨q1, q2⟩ := HC2.out k hlt
            have i2 : (k : Int) < (n : Int) := by omega
            obtain ⟨x, y, hx⟩ : ∃ x y : Int, (K.getD k (0, 0)) = (x, y) := ⟨_, _, rfl⟩
            rw [hx] at q1 q2
            have hk : k < K.length := by rw [L1.out]; exact hlt
            have HI1 := Lib.hid (fun w' => n_ptIn x y A1 A2 (A3 + 1) (A4 + 1) w')
            rw [HIn.out k x y hk hx] at HI1
            have HI2 := Lib.hid (fun w' => n_ptIn x y (A1) (A2) (A3 + 1) (A4) w')
            have HS := Lib.hid (lost_step hk hx (A1, A2, A3 + 1, A4))
            unfold pt bxV at HI1 HI2
            obtain ⟨io, hio⟩ : ∃ io, inF x y (A1) (A2) (A3 + 1) (A4) = io := ⟨_, rfl⟩
            obtain ⟨lo, hlo⟩ : ∃ lo, lostF K (A1, A2, A3 + 1, A4) k = lo := ⟨_, rfl⟩
            rw [hio] at HI2
            have HS := Lib.hid (HS.out.trans ((congrArg (· || _) hlo).trans (show (lo || !inF x y (A1) (A2) (A3 + 1) (A4)) = (lo || !io) by rw [hio])))
            rw [hlo]
            clear hx hk hio hlo
            go_upto_region 17 with fail
            refine region_quiet_all (C := Cls W) (by kernel_rfl) (by kernel_rfl) ⟨_, _, rfl⟩ ?_
            repeat (first | (refine qw_skip (by rfl) ?_; simp only [Act.put, List.setIfInBounds_toArray, List.set_cons_succ, List.set_cons_zero]) | (refine qw_want (by rfl) (fun K hK => ?_); go_simp; first | (refine hK _ ?_; clear hK K) | (apply Exists.intro; refine ⟨?_, hK _ ?_⟩; (rintro w3_ ⟨J3_, d3_, rfl⟩; first | (with_reducible exact rfl) | (go_simp; with_reducible exact rfl) | (go_simp; (first | (with_reducible refine (HI1.out _).mono ?_)); rintro e_ w_ ⟨rfl, J4_, d4_, rfl⟩; exact ⟨rfl, J3_ ++ J4_, d4_, by simp only [plus_plus, Array.append_assoc]⟩)); clear hK K)))
            refine qw_nil ?_
            rintro w3 ⟨J4, d4, rfl⟩
            go_upto_region 19 with fail
            cases lo with
            | false =>
              refine region_quiet_all (C := Cls W) (by kernel_rfl) (by kernel_rfl) ⟨_, _, rfl⟩ ?_
              repeat (first | (refine qw_skip (by rfl) ?_; simp only [Act.put, List.setIfInBounds_toArray, List.set_cons_succ, List.set_cons_zero]) | (refine qw_want (by rfl) (fun K hK => ?_); go_simp; first | (refine hK _ ?_; clear hK K) | (apply Exists.intro; refine ⟨?_, hK _ ?_⟩; (rintro w3_ ⟨J3_, d3_, rfl⟩; first | (with_reducible exact rfl) | (go_simp; with_reducible exact rfl) | (go_simp; (first | (with_reducible refine (HI2.out _).mono ?_)); rintro e_ w_ ⟨rfl, J4_, d4_, rfl⟩; exact ⟨rfl, J3_ ++ J4_, d4_, by simp only [plus_plus, Array.append_assoc]⟩)); clear hK K)))
              refine qw_nil ?_
              rintro w3 ⟨J5, d5, rfl⟩
              go_wp2_with fail
              go_roundw
              case rel => exact ⟨k + 1, by go_num, by rw [L1.out]; omega, by rw [HS.out]; rfl, _, _, rfl⟩
              case measure => simp [intOf]; omega
            | true =>
              refine region_quiet_all (C := Cls W) (by kernel_rfl) (by kernel_rfl) ⟨_, _, rfl⟩ ?_
              repeat (first | (refine qw_skip (by rfl) ?_; simp only [Act.put, List.setIfInBounds_toArray, List.set_cons_succ, List.set_cons_zero]) | (refine qw_want (by rfl) (fun K hK => ?_); go_simp; first | (refine hK _ ?_; clear hK K) | (apply Exists.intro; refine ⟨?_, hK _ ?_⟩; (rintro w3_ ⟨J3_, d3_, rfl⟩; first | (with_reducible exact rfl) | (go_simp; with_reducible exact rfl) | (go_simp; (first | (with_reducible refine (HI2.out _).mono ?_)); rintro e_ w_ ⟨rfl, J4_, d4_, rfl⟩; exact ⟨rfl, J3_ ++ J4_, d4_, by simp only [plus_plus, Array.append_assoc]⟩)); clear hK K)))
              refine qw_nil ?_
              rintro w3 ⟨J5, d5, rfl⟩
              go_wp2_with fail
              go_roundw
              case rel => exact ⟨k + 1, by go_num, by rw [L1.out]; omega, by rw [HS.out]; rfl, _, _, rfl⟩
              case measure => simp [intOf]; omega
          · obtain rfl : k = n := by omega
            have hl : lostF K (A1, A2, A3 + 1, A4) k = true := by rw [← L1.out]; have := HL.out 3; unfold sdF at this; rw [show A4 + 1 - 1 = A4 by omega] at this; exact this
            rw [hl]
            clear hl
            go_wp2_with fail
            go_roundw
            case rel => exact ⟨3 + 1, by first | rfl | go_num, by omega, _, _, rfl⟩
            case measure => simp [intOf]
      · obtain rfl : _ = Value.int .i64 4 := hi
        go_wp2_with (go_at_call 27; refine (HM.out _).mono ?_; rintro e w1 ⟨rfl, J6, d6, rfl⟩)
        go_ret
        exact ⟨rfl, junk_of_below (by (repeat' (first | (with_reducible exact Below.refl _ _) | (with_reducible assumption) | (with_reducible refine Below.alloc ?_ ?_ _) | (with_reducible refine Below.drew ?_) | (with_reducible refine below_drewN ?_ _) | (with_reducible refine below_plus ?_ ?_ _ _) | (with_reducible refine Below.setCell ?_ ?_ _) | (with_reducible refine Below.setRow ?_ ?_ _) | go_size)))⟩
end Go.Proofs.Ytlfjbbelanccbaa

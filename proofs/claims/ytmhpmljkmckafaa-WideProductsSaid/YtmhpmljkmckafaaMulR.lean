/- Contract of apportionref01's Mul: a product in two words, and its sign. Conditions: the arguments are ints. -/
import Derived.Test.YtmhpmljkmckafaaSumR
namespace Go.Proofs.Ytmhpmljkmckafaa
set_option linter.unusedVariables false
set_option linter.unusedSimpArgs false
open Go.RowKit

def loK (N : Int) (k : Nat) : Int := N % 65536 ^ (min k 4)
def hiK (N : Int) (k : Nat) : Int := N / 65536 ^ 4 % 65536 ^ (k - 4)

theorem lo_step (N : Int) (k : Nat) (p : Int) (h : k < 4) (hp : p = N / 65536 ^ k % 65536) : loK N (k + 1) = loK N k + p * 2 ^ (16 * k) := by
  subst hp; unfold loK
  rcases (by omega : k = 0 ∨ k = 1 ∨ k = 2 ∨ k = 3) with rfl | rfl | rfl | rfl <;> simp <;> omega
theorem hi_step (N : Int) (k : Nat) (p : Int) (h : k < 4) (hp : p = N / 65536 ^ (k + 4) % 65536) : hiK N (k + 4 + 1) = hiK N (k + 4) + p * 2 ^ (16 * k) := by
  subst hp; unfold hiK
  rcases (by omega : k = 0 ∨ k = 1 ∨ k = 2 ∨ k = 3) with rfl | rfl | rfl | rfl <;> simp <;> omega
theorem hi_same (N : Int) (k : Nat) (h : k < 4) : hiK N (k + 1) = hiK N k := by
  unfold hiK; rw [show k + 1 - 4 = 0 by omega, show k - 4 = 0 by omega]
theorem lo_same (N : Int) (k : Nat) : loK N (k + 4 + 1) = loK N (k + 4) := by
  unfold loK; rw [show min (k + 4 + 1) 4 = 4 by omega, show min (k + 4) 4 = 4 by omega]
theorem lo_room (N : Int) (k : Nat) (p : Int) (h : k < 4) (hN : 0 ≤ N) (p0 : 0 ≤ p) (p1 : p < 65536) : 0 ≤ p * 2 ^ (16 * k) ∧ loK N k + p * 2 ^ (16 * k) < 18446744073709551616 ∧ 0 ≤ loK N k := by
  unfold loK
  rcases (by omega : k = 0 ∨ k = 1 ∨ k = 2 ∨ k = 3) with rfl | rfl | rfl | rfl <;> simp <;> omega
theorem hi_room (N : Int) (k : Nat) (p : Int) (h : k < 4) (p0 : 0 ≤ p) (p1 : p < 65536) : 0 ≤ p * 2 ^ (16 * k) ∧ hiK N (k + 4) + p * 2 ^ (16 * k) < 18446744073709551616 ∧ 0 ≤ hiK N (k + 4) := by
  unfold hiK
  rcases (by omega : k = 0 ∨ k = 1 ∨ k = 2 ∨ k = 3) with rfl | rfl | rfl | rfl <;> simp <;> omega

set_option maxRecDepth 100000 in
set_option maxHeartbeats 8000000 in
theorem r_MulW (a b : Int) (a0 : -9223372036854775808 ≤ a) (a1 : a ≤ 9223372036854775807) (b0 : -9223372036854775808 ≤ b) (b1 : b ≤ 9223372036854775807) (w : World) :
    Calls Try.prog 11 #[.int .i64 a, .int .i64 b] w fun e w' => e = .returned (.tuple #[.int .u64 (mulHi a b), .int .u64 (mulLo a b), .int .i64 (sgn (a * b))]) ∧ Junk w w' := by
  have hab := prod_abs a b (i64_abs a a0 a1) (i64_abs b b0 b1)
  have O1 := Lib.hid (r_Of' a a0 a1); have O2 := Lib.hid (r_Of' b b0 b1)
  have M1 := r_Mul a b (by omega) (by omega)
  rw [num_agg, num_agg, num_agg] at M1
  unfold mulHi mulLo
  have FZ := Lib.hid (r_Sgn (a * b) (fits_of (a * b) (by omega)))
  rw [num_agg] at FZ
  generalize a * b = Z at *
  have M := Lib.hid M1; clear M1
  obtain ⟨N, hN⟩ : ∃ N : Int, N = Z.natAbs := ⟨_, rfl⟩
  have N0 : 0 ≤ N := by omega
  have N1 := Lib.hid (show N < 340282366920938463463374607431768211456 by omega)
  have HG := Lib.hid (fun k (h : k < 12) => show (cellsOf Z)[1 + k]? = some (.int .i64 ((digs 12 N).getD k 0)) by rw [hN]; exact numCells_get _ _ _ (by rw [digs_len]; exact h))
  have HD := Lib.hid (fun k (h : k < 12) => digs_getD 12 N k h)
  have HN := Lib.hid hN; clear hN hab a0 a1 b0 b1
  generalize cellsOf a = A at *
  generalize cellsOf b = B at *
  have hR : (Z.natAbs / 18446744073709551616 : Nat) = hiK N 8 ∧ ((Z.natAbs % 18446744073709551616 : Nat) : Int) = loK N 8 := by
    have h2 := N1.out
    rw [hiK, loK, show min 8 4 = 4 from rfl, show 8 - 4 = 4 from rfl, show (65536 : Int) ^ 4 = 18446744073709551616 by decide]
    have := HN.out
    omega
  rw [hR.1, hR.2]
  clear hR
  generalize sgn Z = sg at *
  clear HN N1
  go_enter Try.func11, Try.ntmps11
  go_wp2_with (first | (refine wpList_num_load rfl _ rfl _ rfl (by first | (simp [go_sem]; done) | (simp [go_sem, *]; done)) ?_; intro c_ hc_; simp [go_sem] at hc_; subst hc_; try simp only [Act.put, List.setIfInBounds_toArray, List.set_cons_succ, List.set_cons_zero]) | (refine wpList_cells_store rfl _ _ rfl _ rfl _ rfl (by first | (simp [go_sem]; done) | (simp [go_sem, *]; done)) ?_; intro w1_ hw1_; simp [go_sem] at hw1_; subst hw1_; try simp only [Act.put, List.setIfInBounds_toArray, List.set_cons_succ, List.set_cons_zero]))
  refine (O1.out _).mono ?_; rintro e w' ⟨rfl, J1, d1, rfl⟩
  go_wp2_with (first | (refine wpList_num_load rfl _ rfl _ rfl (by first | (simp [go_sem]; done) | (simp [go_sem, *]; done)) ?_; intro c_ hc_; simp [go_sem] at hc_; subst hc_; try simp only [Act.put, List.setIfInBounds_toArray, List.set_cons_succ, List.set_cons_zero]) | (refine wpList_cells_store rfl _ _ rfl _ rfl _ rfl (by first | (simp [go_sem]; done) | (simp [go_sem, *]; done)) ?_; intro w1_ hw1_; simp [go_sem] at hw1_; subst hw1_; try simp only [Act.put, List.setIfInBounds_toArray, List.set_cons_succ, List.set_cons_zero]))
  refine (O2.out _).mono ?_; rintro e w' ⟨rfl, J2, d2, rfl⟩
  go_wp2_with (first | (refine wpList_num_load rfl _ rfl _ rfl (by first | (simp [go_sem]; done) | (simp [go_sem, *]; done)) ?_; intro c_ hc_; simp [go_sem] at hc_; subst hc_; try simp only [Act.put, List.setIfInBounds_toArray, List.set_cons_succ, List.set_cons_zero]) | (refine wpList_cells_store rfl _ _ rfl _ rfl _ rfl (by first | (simp [go_sem]; done) | (simp [go_sem, *]; done)) ?_; intro w1_ hw1_; simp [go_sem] at hw1_; subst hw1_; try simp only [Act.put, List.setIfInBounds_toArray, List.set_cons_succ, List.set_cons_zero]))
  refine (M.out _).mono ?_; rintro e w' ⟨rfl, J3, d3, rfl⟩
  go_wp2_with (first | (refine wpList_num_load rfl _ rfl _ rfl (by first | (simp [go_sem]; done) | (simp [go_sem, *]; done)) ?_; intro c_ hc_; simp [go_sem] at hc_; subst hc_; try simp only [Act.put, List.setIfInBounds_toArray, List.set_cons_succ, List.set_cons_zero]) | (refine wpList_cells_store rfl _ _ rfl _ rfl _ rfl (by first | (simp [go_sem]; done) | (simp [go_sem, *]; done)) ?_; intro w1_ hw1_; simp [go_sem] at hw1_; subst hw1_; try simp only [Act.put, List.setIfInBounds_toArray, List.set_cons_succ, List.set_cons_zero]))
  generalize hX : cellsOf Z = X at *
  have hXs : X.size = 13 := by rw [← hX, cellsOf_size]
  clear hX
  obtain ⟨w0, hw0⟩ : ∃ w0, w0 = w.plus (J1 ++ (J2 ++ J3)) d3 := ⟨_, rfl⟩
  have hs0 : w.heap.size + (J1.size + (J2.size + J3.size)) = w0.heap.size := by rw [hw0]; simp [go_sem]
  rw [← hw0, hs0]
  have HW := Lib.hid hw0; clear hw0 hs0
  go_loopw [9] (fun i wr => ∃ (k : Nat) (J : Array Obj) (d : Nat), i = .int .i64 k ∧ k ≤ 8 ∧ wr = ((w0.alloc (.cells (X) 44)).alloc (.cells #[.int .u64 (loK N k), .int .u64 (hiK N k)] 47)).plus J d) (fun i _ => 8 - (intOf i).toNat)
  case atStart => exact ⟨0, #[], w0.drawn, rfl, by omega, by rw [show loK N 0 = 0 by simp [loK, Int.emod_one], show hiK N 0 = 0 by simp [hiK, Int.emod_one]]; exact (plus_nil _).symm⟩
  case round =>
    obtain ⟨k, J, d, rfl, hk, rfl⟩ := hrel
    by_cases hlt : k < 8
    · go_upto_region 6 with fail
      have g1 := HG.out k (by omega)
      have p01 := digs_bd 12 N k
      have hp := Lib.hid (HD.out k (by omega))
      obtain ⟨p0, p1⟩ := p01
      generalize (digs 12 N).getD k 0 = p at *
      have wr4 : IntKind.u64.wrap p = p := by rw [IntKind.wrap_u64]; omega
      by_cases h4 : k < 4
      · have wr1 : IntKind.i64.wrap ((k : Int) / 4) = 0 := by rw [show (k : Int) / 4 = 0 by omega]; rfl
        have wr2 : (k : Int).tmod 4 = k := by rw [Int.tmod_eq_emod_of_nonneg (by omega)]; omega
        have wr3 : IntKind.i64.wrap (16 * (k : Int)) = 16 * k := by rw [IntKind.wrap_i64]; omega
        obtain ⟨y, hy⟩ : ∃ y : Int, y = p * 2 ^ (16 * k) := ⟨_, rfl⟩
        have s1 := Lib.hid (show loK N (k + 1) = loK N k + y by rw [hy]; exact lo_step N k p h4 hp.out)
        have s2 := Lib.hid (hi_same N k h4)
        obtain ⟨y0, y1, lb0⟩ := lo_room N k p h4 N0 p0 (by omega)
        rw [← hy] at y0 y1
        have wr5 : IntKind.u64.wrap (p * 2 ^ (16 * (k : Int)).toNat) = y := by rw [show (16 * (k : Int)).toNat = 16 * k by omega, ← hy, IntKind.wrap_u64]; omega
        have wr6 : IntKind.u64.wrap (loK N k + y) = loK N k + y := by rw [IntKind.wrap_u64]; omega
        clear hy
        generalize loK N k = lo at *
        generalize hiK N k = hi at *
        refine region_quiet_tail (C := Cls ((w0.alloc (.cells X 44)).alloc (.cells #[.int .u64 lo, .int .u64 hi] 47))) 17 (by kernel_rfl) (by kernel_rfl) ⟨_, _, rfl⟩ ?_
        simp only [List.take_succ_cons, List.take_zero, List.drop_succ_cons, List.drop_zero]
        refine q_move rfl _ rfl (.int .i64 k) rfl ?_
        try simp only [Act.put, List.setIfInBounds_toArray, List.set_cons_succ, List.set_cons_zero]
        refine q_val rfl (.int .i64 0) (fun w1 _ => by simp [execOp, Act.eval, go_sem, wr1, wr2, wr3, wr4, wr5, wr6]; done) ?_
        try simp only [Act.put, List.setIfInBounds_toArray, List.set_cons_succ, List.set_cons_zero]
        refine q_move rfl _ rfl (.int .i64 k) rfl ?_
        try simp only [Act.put, List.setIfInBounds_toArray, List.set_cons_succ, List.set_cons_zero]
        refine q_val rfl (.int .i64 0) (fun w1 _ => by simp [execOp, Act.eval, go_sem, wr1, wr2, wr3, wr4, wr5, wr6]; done) ?_
        try simp only [Act.put, List.setIfInBounds_toArray, List.set_cons_succ, List.set_cons_zero]
        refine q_val rfl (.pointer (some ⟨w0.heap.size + 1, 0, none⟩)) (fun w1 _ => by simp [execOp, Act.eval, go_sem, wr1, wr2, wr3, wr4, wr5, wr6]; done) ?_
        try simp only [Act.put, List.setIfInBounds_toArray, List.set_cons_succ, List.set_cons_zero]
        refine q_val rfl (.int .u64 lo) (by rintro w1 ⟨J1, d1, rfl⟩; simp [execOp, Act.eval, go_sem]; done) ?_
        try simp only [Act.put, List.setIfInBounds_toArray, List.set_cons_succ, List.set_cons_zero]
        refine q_move rfl _ rfl (.int .i64 k) rfl ?_
        try simp only [Act.put, List.setIfInBounds_toArray, List.set_cons_succ, List.set_cons_zero]
        refine q_val rfl (.pointer (some ⟨w0.heap.size, 1, none⟩)) (fun w1 _ => by simp [execOp, Act.eval, go_sem, wr1, wr2, wr3, wr4, wr5, wr6]; done) ?_
        try simp only [Act.put, List.setIfInBounds_toArray, List.set_cons_succ, List.set_cons_zero]
        refine q_val rfl (.pointer (some ⟨w0.heap.size, 1 + k, none⟩)) (fun w1 _ => by simp [execOp, Act.eval, go_sem]; intro h; omega) ?_
        try simp only [Act.put, List.setIfInBounds_toArray, List.set_cons_succ, List.set_cons_zero]
        refine q_val rfl (.int .i64 p) (by rintro w1 ⟨J1, d1, rfl⟩; simp [execOp, Act.eval, go_sem, g1]; done) ?_
        try simp only [Act.put, List.setIfInBounds_toArray, List.set_cons_succ, List.set_cons_zero]
        refine q_val rfl (.int .u64 p) (fun w1 _ => by simp [execOp, Act.eval, go_sem, wr1, wr2, wr3, wr4, wr5, wr6]; done) ?_
        try simp only [Act.put, List.setIfInBounds_toArray, List.set_cons_succ, List.set_cons_zero]
        refine q_move rfl _ rfl (.int .i64 k) rfl ?_
        try simp only [Act.put, List.setIfInBounds_toArray, List.set_cons_succ, List.set_cons_zero]
        refine q_val rfl (.int .i64 k) (fun w1 _ => by simp [execOp, Act.eval, go_sem, wr1, wr2, wr3, wr4, wr5, wr6]; done) ?_
        try simp only [Act.put, List.setIfInBounds_toArray, List.set_cons_succ, List.set_cons_zero]
        refine q_val rfl (.int .i64 (16 * k)) (fun w1 _ => by simp [execOp, Act.eval, go_sem, wr1, wr2, wr3, wr4, wr5, wr6]; done) ?_
        try simp only [Act.put, List.setIfInBounds_toArray, List.set_cons_succ, List.set_cons_zero]
        refine q_val rfl (.int .u64 y) (fun w1 _ => by simp [execOp, Act.eval, go_sem, wr1, wr2, wr3, wr4, wr5, wr6]; done) ?_
        try simp only [Act.put, List.setIfInBounds_toArray, List.set_cons_succ, List.set_cons_zero]
        refine q_val rfl (.int .u64 (lo + y)) (fun w1 _ => by simp [execOp, Act.eval, go_sem, wr1, wr2, wr3, wr4, wr5, wr6]; done) ?_
        try simp only [Act.put, List.setIfInBounds_toArray, List.set_cons_succ, List.set_cons_zero]
        refine q_val rfl (.pointer (some ⟨w0.heap.size + 1, 0, none⟩)) (fun w1 _ => by simp [execOp, Act.eval, go_sem, wr1, wr2, wr3, wr4, wr5, wr6]; done) ?_
        try simp only [Act.put, List.setIfInBounds_toArray, List.set_cons_succ, List.set_cons_zero]
        refine wpQuiet_nil ?_
        rintro w3 ⟨J3, d3, rfl⟩
        try simp only [Act.put, List.setIfInBounds_toArray, List.set_cons_succ, List.set_cons_zero]
        go_wp2_with fail
        go_round
        case rel => exact ⟨k + 1, J3, d3, by go_num, by omega, by rw [s1.out, s2.out]⟩
        case measure => simp [intOf]; omega
      · obtain ⟨m, hm⟩ : ∃ m, k = m + 4 := ⟨k - 4, by omega⟩
        have m4 : m < 4 := by omega
        have wr1 : IntKind.i64.wrap ((k : Int) / 4) = 1 := by rw [show (k : Int) / 4 = 1 by omega]; rfl
        have wr2 : (k : Int).tmod 4 = m := by rw [Int.tmod_eq_emod_of_nonneg (by omega)]; omega
        have wr3 : IntKind.i64.wrap (16 * (m : Int)) = 16 * m := by rw [IntKind.wrap_i64]; omega
        obtain ⟨y, hy⟩ : ∃ y : Int, y = p * 2 ^ (16 * m) := ⟨_, rfl⟩
        have s1 := Lib.hid (show hiK N (k + 1) = hiK N k + y by rw [hy, hm]; exact hi_step N m p m4 (by rw [← hm]; exact hp.out))
        have s2 := Lib.hid (show loK N (k + 1) = loK N k by rw [hm]; exact lo_same N m)
        obtain ⟨y0, y1, lb0⟩ := hi_room N m p m4 p0 (by omega)
        rw [← hm] at y1 lb0
        rw [← hy] at y0 y1
        have wr5 : IntKind.u64.wrap (p * 2 ^ (16 * (m : Int)).toNat) = y := by rw [show (16 * (m : Int)).toNat = 16 * m by omega, ← hy, IntKind.wrap_u64]; omega
        have wr6 : IntKind.u64.wrap (hiK N k + y) = hiK N k + y := by rw [IntKind.wrap_u64]; omega
        clear hy
        generalize loK N k = lo at *
        generalize hiK N k = hi at *
        refine region_quiet_tail (C := Cls ((w0.alloc (.cells X 44)).alloc (.cells #[.int .u64 lo, .int .u64 hi] 47))) 17 (by kernel_rfl) (by kernel_rfl) ⟨_, _, rfl⟩ ?_
        simp only [List.take_succ_cons, List.take_zero, List.drop_succ_cons, List.drop_zero]
        refine q_move rfl _ rfl (.int .i64 k) rfl ?_
        try simp only [Act.put, List.setIfInBounds_toArray, List.set_cons_succ, List.set_cons_zero]
        refine q_val rfl (.int .i64 1) (fun w1 _ => by simp [execOp, Act.eval, go_sem, wr1, wr2, wr3, wr4, wr5, wr6]; done) ?_
        try simp only [Act.put, List.setIfInBounds_toArray, List.set_cons_succ, List.set_cons_zero]
        refine q_move rfl _ rfl (.int .i64 k) rfl ?_
        try simp only [Act.put, List.setIfInBounds_toArray, List.set_cons_succ, List.set_cons_zero]
        refine q_val rfl (.int .i64 1) (fun w1 _ => by simp [execOp, Act.eval, go_sem, wr1, wr2, wr3, wr4, wr5, wr6]; done) ?_
        try simp only [Act.put, List.setIfInBounds_toArray, List.set_cons_succ, List.set_cons_zero]
        refine q_val rfl (.pointer (some ⟨w0.heap.size + 1, 1, none⟩)) (fun w1 _ => by simp [execOp, Act.eval, go_sem, wr1, wr2, wr3, wr4, wr5, wr6]; done) ?_
        try simp only [Act.put, List.setIfInBounds_toArray, List.set_cons_succ, List.set_cons_zero]
        refine q_val rfl (.int .u64 hi) (by rintro w1 ⟨J1, d1, rfl⟩; simp [execOp, Act.eval, go_sem]; done) ?_
        try simp only [Act.put, List.setIfInBounds_toArray, List.set_cons_succ, List.set_cons_zero]
        refine q_move rfl _ rfl (.int .i64 k) rfl ?_
        try simp only [Act.put, List.setIfInBounds_toArray, List.set_cons_succ, List.set_cons_zero]
        refine q_val rfl (.pointer (some ⟨w0.heap.size, 1, none⟩)) (fun w1 _ => by simp [execOp, Act.eval, go_sem, wr1, wr2, wr3, wr4, wr5, wr6]; done) ?_
        try simp only [Act.put, List.setIfInBounds_toArray, List.set_cons_succ, List.set_cons_zero]
        refine q_val rfl (.pointer (some ⟨w0.heap.size, 1 + k, none⟩)) (fun w1 _ => by simp [execOp, Act.eval, go_sem]; intro h; omega) ?_
        try simp only [Act.put, List.setIfInBounds_toArray, List.set_cons_succ, List.set_cons_zero]
        refine q_val rfl (.int .i64 p) (by rintro w1 ⟨J1, d1, rfl⟩; simp [execOp, Act.eval, go_sem, g1]; done) ?_
        try simp only [Act.put, List.setIfInBounds_toArray, List.set_cons_succ, List.set_cons_zero]
        refine q_val rfl (.int .u64 p) (fun w1 _ => by simp [execOp, Act.eval, go_sem, wr1, wr2, wr3, wr4, wr5, wr6]; done) ?_
        try simp only [Act.put, List.setIfInBounds_toArray, List.set_cons_succ, List.set_cons_zero]
        refine q_move rfl _ rfl (.int .i64 k) rfl ?_
        try simp only [Act.put, List.setIfInBounds_toArray, List.set_cons_succ, List.set_cons_zero]
        refine q_val rfl (.int .i64 m) (fun w1 _ => by simp [execOp, Act.eval, go_sem, wr1, wr2, wr3, wr4, wr5, wr6]; done) ?_
        try simp only [Act.put, List.setIfInBounds_toArray, List.set_cons_succ, List.set_cons_zero]
        refine q_val rfl (.int .i64 (16 * m)) (fun w1 _ => by simp [execOp, Act.eval, go_sem, wr1, wr2, wr3, wr4, wr5, wr6]; done) ?_
        try simp only [Act.put, List.setIfInBounds_toArray, List.set_cons_succ, List.set_cons_zero]
        refine q_val rfl (.int .u64 y) (fun w1 _ => by simp [execOp, Act.eval, go_sem, wr1, wr2, wr3, wr4, wr5, wr6]; done) ?_
        try simp only [Act.put, List.setIfInBounds_toArray, List.set_cons_succ, List.set_cons_zero]
        refine q_val rfl (.int .u64 (hi + y)) (fun w1 _ => by simp [execOp, Act.eval, go_sem, wr1, wr2, wr3, wr4, wr5, wr6]; done) ?_
        try simp only [Act.put, List.setIfInBounds_toArray, List.set_cons_succ, List.set_cons_zero]
        refine q_val rfl (.pointer (some ⟨w0.heap.size + 1, 1, none⟩)) (fun w1 _ => by simp [execOp, Act.eval, go_sem, wr1, wr2, wr3, wr4, wr5, wr6]; done) ?_
        try simp only [Act.put, List.setIfInBounds_toArray, List.set_cons_succ, List.set_cons_zero]
        refine wpQuiet_nil ?_
        rintro w3 ⟨J3, d3, rfl⟩
        try simp only [Act.put, List.setIfInBounds_toArray, List.set_cons_succ, List.set_cons_zero]
        go_wp2_with fail
        go_round
        case rel => exact ⟨k + 1, J3, d3, by go_num, by omega, by rw [s1.out, s2.out]⟩
        case measure => simp [intOf]; omega
    · obtain rfl : k = 8 := by omega
      clear hk hlt
      generalize hl : loK N 8 = lo at *
      generalize hh : hiK N 8 = hi at *
      have HL := Lib.hid hl; have HH := Lib.hid hh; clear hl hh
      go_upto_region 7 with fail
      refine wp_region_quiet (C := Cls ((w0.alloc (.cells X 44)).alloc (.cells #[.int .u64 lo, .int .u64 hi] 47))) (by kernel_rfl) (by kernel_rfl) ⟨_, _, rfl⟩ ?_
      refine q_val rfl (.pointer (some ⟨w0.heap.size + 1, 1, none⟩)) (fun w1 _ => by simp [execOp, Act.eval, go_sem]; done) ?_
      try simp only [Act.put, List.setIfInBounds_toArray, List.set_cons_succ, List.set_cons_zero]
      refine q_val rfl (.int .u64 hi) (by rintro w1 ⟨J1, d1, rfl⟩; simp [execOp, Act.eval, go_sem]; done) ?_
      try simp only [Act.put, List.setIfInBounds_toArray, List.set_cons_succ, List.set_cons_zero]
      refine q_val rfl (.pointer (some ⟨w0.heap.size + 1, 0, none⟩)) (fun w1 _ => by simp [execOp, Act.eval, go_sem]; done) ?_
      try simp only [Act.put, List.setIfInBounds_toArray, List.set_cons_succ, List.set_cons_zero]
      refine q_val rfl (.int .u64 lo) (by rintro w1 ⟨J1, d1, rfl⟩; simp [execOp, Act.eval, go_sem]; done) ?_
      try simp only [Act.put, List.setIfInBounds_toArray, List.set_cons_succ, List.set_cons_zero]
      refine q_load rfl _ _ rfl _ Try.underlying44 rfl 13 (by kernel_rfl) _ rfl (by simp [go_sem]) X (by simp [go_sem]) hXs ?_
      try simp only [Act.put, List.setIfInBounds_toArray, List.set_cons_succ, List.set_cons_zero]
      refine q_call rfl 30 _ _ rfl #[.agg X] (by simp [Act.eval]) (fun _ => by kernel_rfl) _ FZ.out ?_
      try simp only [Act.put, List.setIfInBounds_toArray, List.set_cons_succ, List.set_cons_zero]
      refine q_assign rfl _ rfl (.int .u64 hi) rfl ?_
      try simp only [Act.put, List.setIfInBounds_toArray, List.set_cons_succ, List.set_cons_zero]
      refine q_assign rfl _ rfl (.int .u64 lo) rfl ?_
      try simp only [Act.put, List.setIfInBounds_toArray, List.set_cons_succ, List.set_cons_zero]
      refine q_assign rfl _ rfl (.int .i64 sg) rfl ?_
      try simp only [Act.put, List.setIfInBounds_toArray, List.set_cons_succ, List.set_cons_zero]
      refine wpQuiet_nil ?_
      rintro w3 ⟨J3, d3, rfl⟩
      try simp only [Act.put, List.setIfInBounds_toArray, List.set_cons_succ, List.set_cons_zero]
      go_wp2_with fail
      go_ret3
      exact ⟨by rw [HL.out, HH.out]; rfl, by rw [HW.out]; exact junk_of_below (by (repeat' (first | (with_reducible exact Below.refl _ _) | (with_reducible assumption) | (with_reducible refine Below.alloc ?_ ?_ _) | (with_reducible refine Below.drew ?_) | (with_reducible refine below_drewN ?_ _) | (with_reducible refine below_plus ?_ ?_ _ _) | (with_reducible refine Below.setCell ?_ ?_ _) | (with_reducible refine Below.setRow ?_ ?_ _) | go_size)))⟩
end Go.Proofs.Ytmhpmljkmckafaa

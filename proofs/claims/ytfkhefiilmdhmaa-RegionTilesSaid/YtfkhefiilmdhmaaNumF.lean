/- Contract of apportionref01's Num.Mul: the product. Condition: both numbers are below 2^64 in size. -/
import Derived.Test.YtfkhefiilmdhmaaNumE
import Derived.Test.YtfkhefiilmdhmaaNumMath
namespace Go.Proofs.Ytfkhefiilmdhmaa
set_option linter.unusedVariables false
set_option linter.unusedSimpArgs false
open Go.RowKit

set_option maxRecDepth 100000 in
set_option maxHeartbeats 2000000 in
theorem r_Mul0 (s t : Bool) (X Y : Int) (x0 : 0 ≤ X) (x1 : X < 65536 ^ 4) (y0 : 0 ≤ Y) (y1 : Y < 65536 ^ 4) (hXY : 0 ≤ X * Y ∧ X * Y < 65536 ^ 12) (w : World) :
    Calls Try.prog 94 #[numOf s (digs 12 X), numOf t (digs 12 Y)] w fun e w' => e = .returned (numOf ((s != t) && decide (X * Y ≠ 0)) (digs 12 (X * Y))) ∧ Junk w w' := by
  have HE := Lib.hid (minv_end X Y x0 x1 y0 y1)
  have HXL := Lib.hid (digs_len 12 X)
  have HYL := Lib.hid (digs_len 12 Y)
  have HXB := Lib.hid (digs_bd 12 X)
  have HYB := Lib.hid (digs_bd 12 Y)
  have HCA := Lib.hid (fun es (h : CInv (X * Y) 0 es) => r_carried (s != t) es (X * Y) hXY.1 hXY.2 h)
  have HRES := Lib.hid (digs_len 12 (X * Y))
  unfold numOf at HCA
  unfold numOf
  generalize digs 12 (X * Y) = rs at *
  generalize ((s != t) && decide (X * Y ≠ 0)) = rb at *
  generalize digs 12 X = xs at *
  generalize digs 12 Y = ys at *
  clear x0 x1 y0 y1 hXY
  have hxl := HXL.out
  have hyl := HYL.out
  generalize hst0 : (s != t) = st at *
  have hst : (!(s == t)) = st := hst0
  clear hst0
  go_enter Try.func94, Try.ntmps94
  go_wp2_with fail
  clear hst
  go_loopw [6] (fun i wr => ∃ (k n : Nat) (es : List Int), i = .int .i64 k ∧ k ≤ 4 ∧ MInv xs ys k 0 es ∧ wr = ((((w.alloc (.cells (numCells s xs) 114)).alloc (.cells (numCells t ys) 114)).alloc (.cells (numCells false (List.replicate 12 0)) 114)).alloc (.cells (numCells st es) 114)).drewN n) (fun i _ => 4 - (intOf i).toNat)
  case atStart => exact ⟨0, 0, List.replicate 12 0, rfl, by omega, minv_start xs ys, rfl⟩
  case round =>
    obtain ⟨i, n, es, rfl, hi, hin, rfl⟩ := hrel
    by_cases hlt : i < 4
    · have HIN := Lib.hid hin; clear hin
      go_wp2_with fail
      go_loopw [7] (fun k wr => ∃ (m n : Nat) (es : List Int), k = .int .i64 m ∧ m ≤ 4 ∧ MInv xs ys i m es ∧ wr = ((((w.alloc (.cells (numCells s xs) 114)).alloc (.cells (numCells t ys) 114)).alloc (.cells (numCells false (List.replicate 12 0)) 114)).alloc (.cells (numCells st es) 114)).drewN n) (fun k _ => 4 - (intOf k).toNat)
      case atStart => exact ⟨0, n, es, rfl, by omega, HIN.out, rfl⟩
      case round =>
        clear HIN
        obtain ⟨k, n2, es, rfl, hk, hin, rfl⟩ := hrel
        by_cases hkt : k < 4
        · have hp := prod_bd _ _ (HXB.out i).1 (HXB.out i).2 (HYB.out k).1 (HYB.out k).2
          have HS := Lib.hid (minv_step xs ys HYL.out i k hlt hkt hp es hin)
          obtain ⟨hp1, hp2⟩ := hp
          have q1 : 0 ≤ es.getD (i + k) 0 := (hin.2.2 (i + k)).1
          have q2 : es.getD (i + k) 0 ≤ 68719476736000 := by have := (hin.2.2 (i + k)).2; omega
          have q3 := (HXB.out i).1
          have q4 := (HXB.out i).2
          have q5 := (HYB.out k).1
          have q6 := (HYB.out k).2
          have q7 : i < 12 := by omega
          have q8 : k < 12 := by omega
          have q9 : i + k < 12 := by omega
          have g1 := numCells_get s xs i (by omega)
          have g2 := numCells_get t ys k (by omega)
          have g3 := numCells_get st es (i + k) (by rw [hin.1]; omega)
          have HC := Lib.hid (show ∀ v, (numCells st es).setIfInBounds (1 + (i + k)) (.int .i64 v) = numCells st (es.set (i + k) v) from fun v => numCells_set _ _ _ _)
          clear hin hxl hyl
          generalize xs.getD i 0 = p at *
          generalize ys.getD k 0 = q at *
          generalize es.getD (i + k) 0 = r at *
          generalize numCells st es = C at *
          generalize hD : numCells s xs = D at *
          generalize hF : numCells t ys = F at *
          have HD := Lib.hid hD; clear hD
          have HF := Lib.hid hF; clear hF
          go_wp2_with fail
          go_region
          go_wp2_with fail
          go_roundw
          case rel => exact ⟨k + 1, n2 + 1, _, by go_num, by omega, HS.out, by rw [← HC.out]; rfl⟩
          case measure => simp [intOf]; omega
        · obtain rfl : k = 4 := by omega
          have HN := Lib.hid (minv_next xs ys HXL.out i hlt es hin)
          clear hin
          go_wp2_with fail
          go_roundw
          case rel => exact ⟨i + 1, n2, _, by go_num, by omega, HN.out, rfl⟩
          case measure => simp [intOf]; omega
    · obtain rfl : i = 4 := by omega
      have hel := hin.1
      have HR := Lib.hid (HCA.out es (HE.out es hin))
      clear hin
      have hrs := HRES.out
      go_wp2_with (first | (refine wpList_num_load rfl _ rfl _ rfl (by first | (simp [go_sem]; done) | (simp [go_sem, *]; done)) ?_; intro c hc; simp [go_sem] at hc; subst hc) | (refine wpList_num_store rfl _ _ rfl _ rfl _ _ rfl (by first | (simp [go_sem]; done) | (simp [go_sem, *]; done)) (by first | (simp [go_sem]; done) | (simp [go_sem, *]; done)) ?_))
      refine (HR.out _).mono ?_
      rintro e w' ⟨rfl, J, d, rfl⟩
      go_wp2_with (first | (refine wpList_num_load rfl _ rfl _ rfl (by first | (simp [go_sem]; done) | (simp [go_sem, *]; done)) ?_; intro c hc; simp [go_sem] at hc; subst hc) | (refine wpList_num_store rfl _ _ rfl _ rfl _ _ rfl (by first | (simp [go_sem]; done) | (simp [go_sem, *]; done)) (by first | (simp [go_sem]; done) | (simp [go_sem, *]; done)) ?_))
      refine bodyPost_num 4 rfl _ rfl (by first | (simp [go_sem]; done) | (simp [go_sem, *]; done)) rfl ?_; intro c hc; simp [go_sem] at hc; subst hc
      exact ⟨rfl, junk_of_below (by (repeat' (first | (with_reducible exact Below.refl _ _) | (with_reducible assumption) | (with_reducible refine Below.alloc ?_ ?_ _) | (with_reducible refine Below.drew ?_) | (with_reducible refine below_drewN ?_ _) | (with_reducible refine below_plus ?_ ?_ _ _) | (with_reducible refine Below.setCell ?_ ?_ _) | (with_reducible refine Below.setRow ?_ ?_ _) | go_size)))⟩

theorem num_prod (x y : Int) : num (x * y) = numOf ((decide (x < 0) != decide (y < 0)) && decide ((x.natAbs : Int) * y.natAbs ≠ 0)) (digs 12 ((x.natAbs : Int) * y.natAbs)) := by
  unfold num
  rw [Int.natAbs_mul, Int.natCast_mul]
  congr 1
  rcases Int.lt_trichotomy x 0 with hx | hx | hx
  · rcases Int.lt_trichotomy y 0 with hy | hy | hy
    · have := Int.mul_pos_of_neg_of_neg hx hy
      simp [hx, hy]; omega
    · subst hy; simp
    · have := Int.mul_neg_of_neg_of_pos hx hy
      simp [hx, this, show ¬ y < 0 by omega]; omega
  · subst hx; simp
  · rcases Int.lt_trichotomy y 0 with hy | hy | hy
    · have := Int.mul_neg_of_pos_of_neg hx hy
      simp [hy, this, show ¬ x < 0 by omega]; omega
    · subst hy; simp
    · have := Int.mul_pos hx hy
      simp [show ¬ x < 0 by omega, show ¬ y < 0 by omega]; omega

theorem nat_prod_bd (a b : Nat) (ha : a < 18446744073709551616) (hb : b < 18446744073709551616) : a * b < 340282366920938463463374607431768211456 := by
  rcases Nat.eq_zero_or_pos b with h | h
  · subst h; simp
  · have := Nat.mul_lt_mul_of_lt_of_le ha (Nat.le_of_lt hb) (by decide)
    exact this

theorem r_Mul (x y : Int) (hx : x.natAbs < 18446744073709551616) (hy : y.natAbs < 18446744073709551616) (w : World) :
    Calls Try.prog 94 #[num x, num y] w fun e w' => e = .returned (num (x * y)) ∧ Junk w w' := by
  rw [num_prod]
  refine r_Mul0 _ _ x.natAbs y.natAbs (by omega) ?_ (by omega) ?_ ⟨Int.mul_nonneg (by omega) (by omega), ?_⟩ w
  · rw [show (65536 : Int) ^ 4 = 18446744073709551616 by decide]; omega
  · rw [show (65536 : Int) ^ 4 = 18446744073709551616 by decide]; omega
  · have := nat_prod_bd _ _ hx hy
    rw [show (65536 : Int) ^ 12 = 6277101735386680763835789423207666416102355444464034512896 by decide, ← Int.natCast_mul]
    omega

theorem fits_of (z : Int) (h : z.natAbs < 340282366920938463463374607431768211456) : Fits z := by
  unfold Fits
  rw [show (65536 : Int) ^ 12 = 6277101735386680763835789423207666416102355444464034512896 by decide]
  omega
end Go.Proofs.Ytfkhefiilmdhmaa

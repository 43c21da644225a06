/- Contract of apportionref01's Num.Plus: the sum. Condition: both numbers and their sum are below 2^192 in size. -/
import Derived.Test.YtfkhefiilmdhmaaNumD
import Derived.Test.YtfkhefiilmdhmaaNumMath
namespace Go.Proofs.Ytfkhefiilmdhmaa
set_option linter.unusedVariables false
set_option linter.unusedSimpArgs false
open Go.RowKit

set_option maxRecDepth 100000 in
set_option maxHeartbeats 1000000 in
theorem r_Plus_same (s : Bool) (X Y : Int) (x0 : 0 ≤ X) (x1 : X < 65536 ^ 12) (y0 : 0 ≤ Y) (y1 : Y < 65536 ^ 12) (hs : X + Y < 65536 ^ 12) (w : World) :
    Calls Try.prog 95 #[numOf s (digs 12 X), numOf s (digs 12 Y)] w fun e w' => e = .returned (numOf (s && decide (X + Y ≠ 0)) (digs 12 (X + Y))) ∧ Junk w w' := by
  have HST := Lib.hid (pinv_start X (digs 12 Y) x0 x1)
  have hyl := digs_len 12 Y
  have HBD := Lib.hid (digs_bd 12 Y)
  have HY := Lib.hid (horner_digs 12 Y y0 y1)
  have HCA := Lib.hid (fun es (h : CInv (X + Y) 0 es) => r_carried s es (X + Y) (by omega) hs h)
  have hxl := digs_len 12 X
  have HRES := Lib.hid (digs_len 12 (X + Y))
  unfold numOf at HCA
  unfold numOf
  generalize digs 12 (X + Y) = rs at *
  generalize (s && decide (X + Y ≠ 0)) = rb at *
  generalize digs 12 X = xs at *
  generalize digs 12 Y = ys at *
  clear x1 y1 hs
  have HYL := Lib.hid hyl
  go_enter Try.func95, Try.ntmps95
  go_wp2_with fail
  go_loopw [5] (fun i wr => ∃ (k n : Nat) (es : List Int), i = .int .i64 k ∧ k ≤ 12 ∧ PInv X ys k es ∧ wr = (((w.alloc (.cells (numCells s es) 114)).alloc (.cells (numCells s ys) 114)).alloc (.cells (numCells false (List.replicate 12 0)) 114)).drewN n) (fun i _ => 12 - (intOf i).toNat)
  case atStart => exact ⟨0, 0, xs, rfl, by omega, HST.out, rfl⟩
  case round =>
    obtain ⟨k, n, es, rfl, hk, hin, rfl⟩ := hrel
    by_cases hlt : k < 12
    · have HS := Lib.hid (pinv_step X ys HYL.out HBD.out k hlt es hin)
      have q4 : 0 ≤ es.getD k 0 := (hin.2.2.1 k).1
      have q5 : es.getD k 0 < 131072 := (hin.2.2.1 k).2
      have q6 : 0 ≤ ys.getD k 0 := (HBD.out k).1
      have q7 : ys.getD k 0 < 65536 := (HBD.out k).2
      have g1 := numCells_get s es k (by rw [hin.1]; omega)
      have g2 := numCells_get s ys k (by rw [HYL.out]; omega)
      have HC := Lib.hid (show ∀ v, (numCells s es).setIfInBounds (1 + k) (.int .i64 v) = numCells s (es.set k v) from fun v => numCells_set _ _ _ _)
      clear hin hyl
      generalize es.getD k 0 = p at *
      generalize ys.getD k 0 = q at *
      generalize numCells s es = C at *
      generalize hD : numCells s ys = D at *
      have HD := Lib.hid hD; clear hD
      go_wp2_with fail
      go_region
      go_wp2_with fail
      go_roundw
      case rel => exact ⟨k + 1, n + 1, _, by go_num, by omega, HS.out, by rw [← HC.out]; rfl⟩
      case measure => simp [intOf]; omega
    · obtain rfl : k = 12 := by omega
      have hc := pinv_end X ys HYL.out es hin
      rw [HY.out] at hc
      have hel := hin.1
      have HR := Lib.hid (HCA.out es hc)
      clear hin hc
      have hrs := HRES.out
      go_wp2_with (first | (refine wpList_num_load rfl _ rfl _ rfl (by first | (simp [go_sem]; done) | (simp [go_sem, *]; done)) ?_; intro c hc; simp [go_sem] at hc; subst hc) | (refine wpList_num_store rfl _ _ rfl _ rfl _ _ rfl (by first | (simp [go_sem]; done) | (simp [go_sem, *]; done)) (by first | (simp [go_sem]; done) | (simp [go_sem, *]; done)) ?_))
      refine (HR.out _).mono ?_
      rintro e w' ⟨rfl, J, d, rfl⟩
      go_wp2_with (first | (refine wpList_num_load rfl _ rfl _ rfl (by first | (simp [go_sem]; done) | (simp [go_sem, *]; done)) ?_; intro c hc; simp [go_sem] at hc; subst hc) | (refine wpList_num_store rfl _ _ rfl _ rfl _ _ rfl (by first | (simp [go_sem]; done) | (simp [go_sem, *]; done)) (by first | (simp [go_sem]; done) | (simp [go_sem, *]; done)) ?_))
      refine bodyPost_num 4 rfl _ rfl (by first | (simp [go_sem]; done) | (simp [go_sem, *]; done)) rfl ?_; intro c hc; simp [go_sem] at hc; subst hc
      exact ⟨rfl, junk_of_below (by (repeat' (first | (with_reducible exact Below.refl _ _) | (with_reducible assumption) | (with_reducible refine Below.alloc ?_ ?_ _) | (with_reducible refine Below.drew ?_) | (with_reducible refine below_drewN ?_ _) | (with_reducible refine below_plus ?_ ?_ _ _) | (with_reducible refine Below.setCell ?_ ?_ _) | (with_reducible refine Below.setRow ?_ ?_ _) | go_size)))⟩

set_option maxRecDepth 100000 in
set_option maxHeartbeats 2000000 in
theorem r_Plus_sub (s t : Bool) (hst : s ≠ t) (X Y : Int) (x0 : 0 ≤ X) (x1 : X < 65536 ^ 12) (y0 : 0 ≤ Y) (y1 : Y < 65536 ^ 12) (hge : Y ≤ X) (w : World) :
    Calls Try.prog 95 #[numOf s (digs 12 X), numOf t (digs 12 Y)] w fun e w' => e = .returned (numOf (s && decide (X - Y ≠ 0)) (digs 12 (X - Y))) ∧ Junk w w' := by
  have HST := Lib.hid (sinv_start X (digs 12 Y) x0 x1)
  have hyl := digs_len 12 Y
  have HBD := Lib.hid (digs_bd 12 Y)
  have HY := Lib.hid (horner_digs 12 Y y0 y1)
  have HCA := Lib.hid (fun es (h : CInv (X - Y) 0 es) => r_carried s es (X - Y) (by omega) (by omega) h)
  have HSZ := Lib.hid (r_size s t X Y x0 x1 y0 y1)
  have hxl := digs_len 12 X
  have HRES := Lib.hid (digs_len 12 (X - Y))
  have hsg : 0 ≤ sgn (X - Y) := by rcases sgn_cases (X - Y) with h | h | h <;> omega
  have hb : (s == t) = false := by simp [hst]
  unfold numOf at HCA HSZ
  unfold numOf
  generalize digs 12 (X - Y) = rs at *
  generalize (s && decide (X - Y ≠ 0)) = rb at *
  generalize digs 12 X = xs at *
  generalize digs 12 Y = ys at *
  have HGE := Lib.hid (show horner ys ≤ X by rw [HY.out]; exact hge)
  generalize sgn (X - Y) = g at *
  clear x1 y1 hge hst
  have HYL := Lib.hid hyl
  go_enter Try.func95, Try.ntmps95
  go_wp2_with (first | (refine wpList_num_load rfl _ rfl _ rfl (by first | (simp [go_sem]; done) | (simp [go_sem, *]; done)) ?_; intro c hc; simp [go_sem] at hc; subst hc) | (refine wpList_num_store rfl _ _ rfl _ rfl _ _ rfl (by first | (simp [go_sem]; done) | (simp [go_sem, *]; done)) (by first | (simp [go_sem]; done) | (simp [go_sem, *]; done)) ?_))
  refine (HSZ.out _).mono ?_
  rintro e w' ⟨rfl, J, d, rfl⟩
  go_wp2_with (first | (refine wpList_num_load rfl _ rfl _ rfl (by first | (simp [go_sem]; done) | (simp [go_sem, *]; done)) ?_; intro c hc; simp [go_sem] at hc; subst hc) | (refine wpList_num_store rfl _ _ rfl _ rfl _ _ rfl (by first | (simp [go_sem]; done) | (simp [go_sem, *]; done)) (by first | (simp [go_sem]; done) | (simp [go_sem, *]; done)) ?_))
  clear HSZ hsg
  go_loopw [6] (fun i wr => ∃ (k d : Nat) (es : List Int), i = .int .i64 k ∧ k ≤ 12 ∧ SInv X ys k es ∧ wr = (((w.alloc (.cells (numCells s es) 114)).alloc (.cells (numCells t ys) 114)).alloc (.cells (numCells false (List.replicate 12 0)) 114)).plus J d) (fun i _ => 12 - (intOf i).toNat)
  case atStart => exact ⟨0, d, xs, rfl, by omega, HST.out, rfl⟩
  case round =>
    obtain ⟨k, n, es, rfl, hk, hin, rfl⟩ := hrel
    by_cases hlt : k < 12
    · have q4 : -1 ≤ es.getD k 0 := hin.2.2.2.1.1
      have q5 : es.getD k 0 < 65536 := hin.2.2.2.1.2
      have q6 : 0 ≤ ys.getD k 0 := (HBD.out k).1
      have q7 : ys.getD k 0 < 65536 := (HBD.out k).2
      have hel := hin.1
      have g1 := numCells_get s es k (by omega)
      have g2 := numCells_get t ys k (by rw [HYL.out]; omega)
      by_cases hneg : es.getD k 0 - ys.getD k 0 < 0 ∧ k < 11
      · obtain ⟨hn1, hn2⟩ := hneg
        have HS := Lib.hid (sinv_borrow X ys HYL.out HBD.out k hn2 es hin hn1)
        have q8 := (hin.2.2.2.2 (k + 1) (by omega)).1
        have q9 := (hin.2.2.2.2 (k + 1) (by omega)).2
        have g3 := numCells_get s es (k + 1) (by omega)
        have HC := Lib.hid (show ∀ u z, ((numCells s es).setIfInBounds (1 + k) (.int .i64 u)).setIfInBounds (1 + (k + 1)) (.int .i64 z) = numCells s ((es.set k u).set (k + 1) z) from fun u z => by rw [numCells_set, numCells_set])
        have hsz : (numCells s es).size = 13 := by rw [numCells_size, hel]
        clear hin hyl hel
        generalize es.getD k 0 = p at *
        generalize ys.getD k 0 = q at *
        generalize es.getD (k + 1) 0 = r at *
        generalize numCells s es = C at *
        generalize hD : numCells t ys = D at *
        have HD := Lib.hid hD; clear hD
        have q10 : k + 1 < 12 := by omega
        have g4 : (C.setIfInBounds (1 + k) (.int .i64 (p - q)))[1 + k]? = some (.int .i64 (p - q)) := by
          rw [Array.getElem?_setIfInBounds_self_of_lt (by omega)]
        have g5 : ((C.setIfInBounds (1 + k) (.int .i64 (p - q))).setIfInBounds (1 + k) (.int .i64 (p - q + 65536)))[1 + (k + 1)]? = some (.int .i64 r) := by
          rw [Array.getElem?_setIfInBounds_ne (by omega), Array.getElem?_setIfInBounds_ne (by omega)]; exact g3
        clear hsz
        go_wp2_with fail
        go_region
        go_wp2_with fail
        go_roundw
        case rel => exact ⟨k + 1, n + 1, _, by go_num, by omega, HS.out, by rw [← HC.out]; rfl⟩
        case measure => simp [intOf]; omega
      · have hs := sinv_plain X ys HYL.out HBD.out k hlt es hin HGE.out (by omega)
        have hpos := (hs.2.2.1 k (by omega)).1
        rw [getD_set _ _ _ _ (by omega), if_pos rfl] at hpos
        have HS := Lib.hid hs
        have HC := Lib.hid (show ∀ u, (numCells s es).setIfInBounds (1 + k) (.int .i64 u) = numCells s (es.set k u) from fun u => by rw [numCells_set])
        have hsz : (numCells s es).size = 13 := by rw [numCells_size, hel]
        clear hin hyl hel hs hneg
        generalize es.getD k 0 = p at *
        generalize ys.getD k 0 = q at *
        generalize numCells s es = C at *
        generalize hD : numCells t ys = D at *
        have HD := Lib.hid hD; clear hD
        have g4 : (C.setIfInBounds (1 + k) (.int .i64 (p - q)))[1 + k]? = some (.int .i64 (p - q)) := by
          rw [Array.getElem?_setIfInBounds_self_of_lt (by omega)]
        clear hsz
        go_wp2_with fail
        go_region
        go_wp2_with fail
        go_roundw
        case rel => exact ⟨k + 1, n + 1, _, by go_num, by omega, HS.out, by rw [← HC.out]; rfl⟩
        case measure => simp [intOf]; omega
    · obtain rfl : k = 12 := by omega
      have hc := sinv_end X ys HYL.out es hin
      rw [HY.out] at hc
      have hel := hin.1
      have HR := Lib.hid (HCA.out es hc)
      clear hin hc
      have hrs := HRES.out
      go_wp2_with (first | (refine wpList_num_load rfl _ rfl _ rfl (by first | (simp [go_sem]; done) | (simp [go_sem, *]; done)) ?_; intro c hc; simp [go_sem] at hc; subst hc) | (refine wpList_num_store rfl _ _ rfl _ rfl _ _ rfl (by first | (simp [go_sem]; done) | (simp [go_sem, *]; done)) (by first | (simp [go_sem]; done) | (simp [go_sem, *]; done)) ?_))
      refine (HR.out _).mono ?_
      rintro e w' ⟨rfl, J2, d2, rfl⟩
      go_wp2_with (first | (refine wpList_num_load rfl _ rfl _ rfl (by first | (simp [go_sem]; done) | (simp [go_sem, *]; done)) ?_; intro c hc; simp [go_sem] at hc; subst hc) | (refine wpList_num_store rfl _ _ rfl _ rfl _ _ rfl (by first | (simp [go_sem]; done) | (simp [go_sem, *]; done)) (by first | (simp [go_sem]; done) | (simp [go_sem, *]; done)) ?_))
      refine bodyPost_num 4 rfl _ rfl (by first | (simp [go_sem]; done) | (simp [go_sem, *]; done)) rfl ?_; intro c hc; simp [go_sem] at hc; subst hc
      exact ⟨rfl, junk_of_below (by (repeat' (first | (with_reducible exact Below.refl _ _) | (with_reducible assumption) | (with_reducible refine Below.alloc ?_ ?_ _) | (with_reducible refine Below.drew ?_) | (with_reducible refine below_drewN ?_ _) | (with_reducible refine below_plus ?_ ?_ _ _) | (with_reducible refine Below.setCell ?_ ?_ _) | (with_reducible refine Below.setRow ?_ ?_ _) | go_size)))⟩

theorem num_sum_same (x y : Int) (h : decide (x < 0) = decide (y < 0)) : num (x + y) = numOf (decide (x < 0) && decide ((x.natAbs : Int) + y.natAbs ≠ 0)) (digs 12 ((x.natAbs : Int) + y.natAbs)) := by
  unfold num
  have : ((x + y).natAbs : Int) = x.natAbs + y.natAbs := by
    by_cases hx : x < 0 <;> by_cases hy : y < 0 <;> simp_all <;> omega
  rw [this]
  congr 1
  have h' := decide_eq_decide.1 h
  rw [Bool.eq_iff_iff]; simp only [Bool.and_eq_true, decide_eq_true_eq]; omega

theorem num_sum_sub (x y : Int) (h : decide (x < 0) ≠ decide (y < 0)) (hge : y.natAbs ≤ x.natAbs) : num (x + y) = numOf (decide (x < 0) && decide ((x.natAbs : Int) - y.natAbs ≠ 0)) (digs 12 ((x.natAbs : Int) - y.natAbs)) := by
  unfold num
  have : ((x + y).natAbs : Int) = x.natAbs - y.natAbs := by
    by_cases hx : x < 0 <;> by_cases hy : y < 0 <;> simp_all <;> omega
  rw [this]
  congr 1
  have h' : ¬ (x < 0 ↔ y < 0) := fun k => h (decide_eq_decide.2 k)
  rw [Bool.eq_iff_iff]; simp only [Bool.and_eq_true, decide_eq_true_eq]; omega

theorem r_Plus_ge (x y : Int) (hx : Fits x) (hy : Fits y) (h : decide (x < 0) ≠ decide (y < 0)) (hge : y.natAbs ≤ x.natAbs) (w : World) :
    Calls Try.prog 95 #[num x, num y] w fun e w' => e = .returned (num (x + y)) ∧ Junk w w' := by
  rw [num_sum_sub x y h hge]
  exact r_Plus_sub _ _ h x.natAbs y.natAbs (by omega) hx (by omega) hy (by omega) w

set_option maxRecDepth 100000 in
set_option maxHeartbeats 1000000 in
theorem r_Plus_lt (x y : Int) (hx : Fits x) (hy : Fits y) (h : decide (x < 0) ≠ decide (y < 0)) (hlt : x.natAbs < y.natAbs) (w : World) :
    Calls Try.prog 95 #[num x, num y] w fun e w' => e = .returned (num (x + y)) ∧ Junk w w' := by
  have hp := r_Plus_ge y x hy hx (Ne.symm h) (by omega)
  rw [Int.add_comm y x] at hp
  have HP := Lib.hid hp; clear hp
  have HSZ := Lib.hid (r_size (decide (x < 0)) (decide (y < 0)) x.natAbs y.natAbs (by omega) hx (by omega) hy)
  have hsg : sgn ((x.natAbs : Int) - y.natAbs) < 0 := by rw [sgn_neg (by omega)]; decide
  generalize sgn ((x.natAbs : Int) - y.natAbs) = g at *
  have HRL := Lib.hid (digs_len 12 (x + y).natAbs)
  unfold num numOf at HP
  unfold numOf at HSZ
  unfold num numOf
  have hxl := digs_len 12 (x.natAbs : Int)
  have hyl := digs_len 12 (y.natAbs : Int)
  have hb : (decide (x < 0) == decide (y < 0)) = false := by simpa using h
  generalize decide (x < 0) = s at *
  generalize decide (y < 0) = t at *
  generalize decide (x + y < 0) = rb at *
  generalize digs 12 ((x + y).natAbs : Int) = rs at *
  generalize digs 12 (x.natAbs : Int) = xs at *
  generalize digs 12 (y.natAbs : Int) = ys at *
  have hrl := HRL.out
  clear h hlt
  go_enter Try.func95, Try.ntmps95
  go_wp2_with (first | (refine wpList_num_load rfl _ rfl _ rfl (by first | (simp [go_sem]; done) | (simp [go_sem, *]; done)) ?_; intro c hc; simp [go_sem] at hc; subst hc) | (refine wpList_num_store rfl _ _ rfl _ rfl _ _ rfl (by first | (simp [go_sem]; done) | (simp [go_sem, *]; done)) (by first | (simp [go_sem]; done) | (simp [go_sem, *]; done)) ?_))
  refine (HSZ.out _).mono ?_
  rintro e w' ⟨rfl, J, d, rfl⟩
  go_wp2_with (first | (refine wpList_num_load rfl _ rfl _ rfl (by first | (simp [go_sem]; done) | (simp [go_sem, *]; done)) ?_; intro c hc; simp [go_sem] at hc; subst hc) | (refine wpList_num_store rfl _ _ rfl _ rfl _ _ rfl (by first | (simp [go_sem]; done) | (simp [go_sem, *]; done)) (by first | (simp [go_sem]; done) | (simp [go_sem, *]; done)) ?_))
  refine (HP.out _).mono ?_
  rintro e w' ⟨rfl, J2, d2, rfl⟩
  go_wp2_with (first | (refine wpList_num_load rfl _ rfl _ rfl (by first | (simp [go_sem]; done) | (simp [go_sem, *]; done)) ?_; intro c hc; simp [go_sem] at hc; subst hc) | (refine wpList_num_store rfl _ _ rfl _ rfl _ _ rfl (by first | (simp [go_sem]; done) | (simp [go_sem, *]; done)) (by first | (simp [go_sem]; done) | (simp [go_sem, *]; done)) ?_))
  refine bodyPost_num 4 rfl _ rfl (by first | (simp [go_sem]; done) | (simp [go_sem, *]; done)) rfl ?_; intro c hc; simp [go_sem] at hc; subst hc
  exact ⟨rfl, junk_of_below (by (repeat' (first | (with_reducible exact Below.refl _ _) | (with_reducible assumption) | (with_reducible refine Below.alloc ?_ ?_ _) | (with_reducible refine Below.drew ?_) | (with_reducible refine below_drewN ?_ _) | (with_reducible refine below_plus ?_ ?_ _ _) | (with_reducible refine Below.setCell ?_ ?_ _) | (with_reducible refine Below.setRow ?_ ?_ _) | go_size)))⟩

/-- The sum of two numbers. -/
theorem r_Plus (x y : Int) (hx : Fits x) (hy : Fits y) (hs : Fits (x + y)) (w : World) :
    Calls Try.prog 95 #[num x, num y] w fun e w' => e = .returned (num (x + y)) ∧ Junk w w' := by
  by_cases h : decide (x < 0) = decide (y < 0)
  · rw [num_sum_same x y h]
    unfold num
    rw [← h]
    refine r_Plus_same _ x.natAbs y.natAbs (by omega) hx (by omega) hy ?_ w
    have : ((x + y).natAbs : Int) = x.natAbs + y.natAbs := by
      by_cases hx : x < 0 <;> by_cases hy : y < 0 <;> simp_all <;> omega
    rw [← this]; exact hs
  · by_cases hge : y.natAbs ≤ x.natAbs
    · exact r_Plus_ge x y hx hy h hge w
    · exact r_Plus_lt x y hx hy h (by omega) w
end Go.Proofs.Ytfkhefiilmdhmaa

/- Contract of apportionref01's Even. Conditions: the arguments are ints. -/
import Derived.Test.YtgnmoneiiogoaaaNumH
import Derived.Test.YtgnmoneiiogoaaaPlus2
namespace Go.Proofs.Ytgnmoneiiogoaaa
set_option linter.unusedVariables false
set_option linter.unusedSimpArgs false
open Go.RowKit

/-- Behind the parting: x's block first, q's behind it, others between and behind. -/
def EvR (W0 : World) (xc qc : Array Value) (g : Int) (z : Bool) (s9 s10 s11 : Value) (w' : World) : Prop :=
  ∃ J1 J2 d1 d2, s9 = .pointer (some ⟨W0.heap.size + 1 + J1.size, 0, none⟩) ∧ s10 = .int .i64 g ∧ s11 = .bool z ∧ w' = ((((W0.alloc (.cells xc 49)).plus J1 d1).alloc (.cells qc 49)).plus J2 d2)

section
variable (W0 : World) (xc qc : Array Value) (g : Int) (z : Bool)
theorem evR_b (n : Nat) (J J2 : Array Obj) (d d2 : Nat) (hn : n = W0.heap.size + 1 + J.size) : EvR W0 xc qc g z (.pointer (some ⟨n, 0, none⟩)) (.int .i64 g) (.bool z) ((((W0.alloc (.cells xc 49)).plus J d).alloc (.cells qc 49)).plus J2 d2) :=
  ⟨J, J2, d, d2, by rw [hn], rfl, rfl, rfl⟩
theorem evR_a (n : Nat) (J : Array Obj) (d : Nat) (hn : n = W0.heap.size + 1 + J.size) : EvR W0 xc qc g z (.pointer (some ⟨n, 0, none⟩)) (.int .i64 g) (.bool z) (((W0.alloc (.cells xc 49)).plus J d).alloc (.cells qc 49)) := by
  have := evR_b W0 xc qc g z n J #[] d (((W0.alloc (.cells xc 49)).plus J d).alloc (.cells qc 49)).drawn hn
  rwa [plus_nil] at this
theorem evR_c (n : Nat) (J2 : Array Obj) (d2 : Nat) (hn : n = W0.heap.size + 1) : EvR W0 xc qc g z (.pointer (some ⟨n, 0, none⟩)) (.int .i64 g) (.bool z) (((W0.alloc (.cells xc 49)).alloc (.cells qc 49)).plus J2 d2) := by
  have := evR_b W0 xc qc g z n #[] J2 (W0.alloc (.cells xc 49)).drawn d2 hn
  rwa [plus_nil] at this
end

def tripV (C : Array Value) (g : Int) (z : Bool) : Value := .tuple #[.agg C, .int .i64 g, .bool z]

theorem absZ (Z : Int) (h : 0 ≤ Z) : (Z.natAbs : Int) = Z := by omega

/-- What stands behind the parting, told of a number with a sign of its own. -/
theorem r_signed_told (s : Bool) (Z : Int) (z0 : 0 ≤ Z) (z1 : Z < 340282366920938463463374607431768211456) :
    (∀ w : World, Calls Try.prog 38 #[.agg (numCells s (digs 12 Z))] w fun e w' => e = .returned (.agg (cellsOf (if s then -Z else Z))) ∧ Junk w w')
    ∧ (∀ w : World, Calls Try.prog 37 #[.agg (cellsOf (if s then -Z else Z))] w fun e w' => e = .returned (.tuple #[.int .i64 (intRes (if s then -Z else Z)).1, .int .i64 (intRes (if s then -Z else Z)).2]) ∧ Junk w w') := by
  have hf : Fits (if s then -Z else Z) := fits_of _ (by split <;> omega)
  refine ⟨fun w => ?_, fun w => r_told _ hf w⟩
  have hz : Z < 65536 ^ 12 := by rw [show (65536 : Int) ^ 12 = 6277101735386680763835789423207666416102355444464034512896 by decide]; omega
  have e : (.agg (cellsOf (if s then -Z else Z)) : Value) = numOf (s && decide (Z ≠ 0)) (digs 12 Z) := by
    unfold cellsOf numOf
    rw [show ((if s = true then -Z else Z).natAbs : Int) = Z by split <;> omega]
    congr 2
    rw [Bool.eq_iff_iff]; simp only [Bool.and_eq_true, decide_eq_true_eq]; split <;> simp_all <;> omega
  rw [e]
  exact r_carried s (digs 12 Z) Z z0 hz (cinv_digs Z z0 hz) w

set_option maxRecDepth 100000 in
set_option maxHeartbeats 1000000 in
theorem r_Even_core (a b c g : Int) (z : Bool) (w : World) (na nb nc : Value) (xb qb : Bool) (x0 x1 x2 x3 x4 x5 x6 x7 x8 x9 x10 x11 q0 q1 q2 q3 q4 q5 q6 q7 q8 q9 q10 q11 : Int) (hcz : (c == 0) = false)
    (O1 : Hid (∀ w, Calls Try.prog 33 #[.int .i64 a] w fun e w' => e = .returned na ∧ Junk w w'))
    (O2 : Hid (∀ w, Calls Try.prog 33 #[.int .i64 b] w fun e w' => e = .returned nb ∧ Junk w w'))
    (O3 : Hid (∀ w, Calls Try.prog 33 #[.int .i64 c] w fun e w' => e = .returned nc ∧ Junk w w'))
    (M1 : Hid (∀ w, Calls Try.prog 34 #[na, nb] w fun e w' => e = .returned (.agg #[.bool xb, .int .i64 x0, .int .i64 x1, .int .i64 x2, .int .i64 x3, .int .i64 x4, .int .i64 x5, .int .i64 x6, .int .i64 x7, .int .i64 x8, .int .i64 x9, .int .i64 x10, .int .i64 x11]) ∧ Junk w w'))
    (P1 : Hid (∀ w, Calls Try.prog 35 #[.agg #[.bool xb, .int .i64 x0, .int .i64 x1, .int .i64 x2, .int .i64 x3, .int .i64 x4, .int .i64 x5, .int .i64 x6, .int .i64 x7, .int .i64 x8, .int .i64 x9, .int .i64 x10, .int .i64 x11], nc] w fun e w' => e = .returned (.tuple #[.agg #[.bool qb, .int .i64 q0, .int .i64 q1, .int .i64 q2, .int .i64 q3, .int .i64 q4, .int .i64 q5, .int .i64 q6, .int .i64 q7, .int .i64 q8, .int .i64 q9, .int .i64 q10, .int .i64 q11], .int .i64 g, .bool z]) ∧ Junk w w'))
    (Q : Int) (Q0 : 0 ≤ Q) (Q1 : Hid (Q < 170141183460469231731687303715884105728)) (HQ : Hid (#[.bool qb, .int .i64 q0, .int .i64 q1, .int .i64 q2, .int .i64 q3, .int .i64 q4, .int .i64 q5, .int .i64 q6, .int .i64 q7, .int .i64 q8, .int .i64 q9, .int .i64 q10, .int .i64 q11] = cellsOf Q)) (q00 : 0 ≤ q0)
    (s : Bool) (hs : (!(xb == decide (c < 0))) = s) (up : Bool) (hup : Hid (up = (decide (0 < g) || (decide (g = 0) && decide (q0 % 2 = 1))))) (R : Int × Int) (hR : Hid (intRes (if s then -(Q + if up then 1 else 0) else (Q + if up then 1 else 0)) = R)) :
    Calls Try.prog 21 #[.int .i64 a, .int .i64 b, .int .i64 c] w fun e w' => e = .returned (.tuple #[.int .i64 R.1, .int .i64 R.2]) ∧ Junk w w' := by
  go_enter Try.func21, Try.ntmps21
  go_wp2_with fail
  refine (O1.out _).mono ?_
  rintro e w' ⟨rfl, J1, d1, rfl⟩
  go_wp2_with fail
  refine (O2.out _).mono ?_
  rintro e w' ⟨rfl, J2, d2, rfl⟩
  go_wp2_with fail
  refine (M1.out _).mono ?_
  rintro e w' ⟨rfl, J3, d3, rfl⟩
  simp only [plus_plus]
  have HB := Lib.hid (Junk.below (w := w) ⟨J1 ++ J2 ++ J3, d3, rfl⟩)
  generalize w.plus (J1 ++ J2 ++ J3) d3 = W0 at *
  go_upto_region 4 with fail
  go_cut [9, 10, 11] from 12 (fun s9 s10 s11 w'' => EvR W0 #[.bool xb, .int .i64 x0, .int .i64 x1, .int .i64 x2, .int .i64 x3, .int .i64 x4, .int .i64 x5, .int .i64 x6, .int .i64 x7, .int .i64 x8, .int .i64 x9, .int .i64 x10, .int .i64 x11] #[.bool qb, .int .i64 q0, .int .i64 q1, .int .i64 q2, .int .i64 q3, .int .i64 q4, .int .i64 q5, .int .i64 q6, .int .i64 q7, .int .i64 q8, .int .i64 q9, .int .i64 q10, .int .i64 q11] g z s9 s10 s11 w'')
  case first =>
    go_region_with (first
      | (go_at_call 33; refine (O3.out _).mono ?_; rintro e w' ⟨rfl, J8, d8, rfl⟩)
      | (go_at_call 35; refine (P1.out _).mono ?_; rintro e w' ⟨rfl, J9, d9, rfl⟩))
    all_goals go_wp2_with fail
    all_goals go_meet
    all_goals first
      | exact evR_a _ _ _ _ _ _ _ _ (by simp [Nat.add_assoc])
      | exact evR_b _ _ _ _ _ _ _ _ _ _ (by simp [Nat.add_assoc])
      | exact evR_c _ _ _ _ _ _ _ _ (by simp [Nat.add_assoc])
  case rest =>
    obtain ⟨Ja, Jb, da, db, rfl, rfl, rfl, rfl⟩ := hcut
    by_cases h1 : 0 < g
    · have hupv : up = true := by rw [hup.out]; simp [h1]
      have hr := r_signed_told s (Q + 1) (by omega) (by have := Q1.out; omega)
      have hRR : intRes (if s then -(Q + 1) else (Q + 1)) = R := by rw [← hR.out, hupv]; rfl
      generalize (if s = true then -(Q + 1) else (Q + 1)) = vv at *
      have HRR := Lib.hid hRR; clear hRR
      have HC := Lib.hid hr.1; have HT := Lib.hid hr.2
      have F1 := Lib.hid (fits_of Q (by have := Q1.out; omega))
      have F2 := Lib.hid (fits_of (Q + 1) (by have := Q1.out; omega))
      have F3 := Lib.hid (fits_of 1 (by decide))
      have HCS := Lib.hid (show ∀ t, (cellsOf (Q + 1)).setIfInBounds 0 (.bool t) = numCells t (digs 12 (Q + 1)) from fun t => by unfold cellsOf; rw [numCells_sign, absZ _ (by omega)])
      have HS := Lib.hid hs
      clear hr hupv hs Q0
      go_upto_region 6 with fail
      rw [HQ.out]
      refine region_quiet_tail (C := Cls ((((W0.alloc (.cells #[.bool xb, .int .i64 x0, .int .i64 x1, .int .i64 x2, .int .i64 x3, .int .i64 x4, .int .i64 x5, .int .i64 x6, .int .i64 x7, .int .i64 x8, .int .i64 x9, .int .i64 x10, .int .i64 x11] 49)).plus Ja da).alloc (.cells (cellsOf Q) 49)))) 3 (by kernel_rfl) (by kernel_rfl) ⟨_, _, rfl⟩ ?_
      simp only [List.take_succ_cons, List.take_zero, List.drop_succ_cons, List.drop_zero]
      (refine q_load rfl _ _ rfl _ Try.underlying49 rfl 13 (by kernel_rfl) _ rfl (by simp [go_sem]) _ (by simp [go_sem]; rfl) (by simp [go_sem]) ?_)
      refine q_call rfl 33 _ _ rfl #[.int .i64 1] (by simp [Act.eval]) (fun _ => by kernel_rfl) _ (r_Of' 1 (by decide) (by decide)) ?_
      refine q_call rfl 36 _ _ rfl #[.agg (cellsOf Q), .agg (cellsOf 1)] (by simp [Act.eval, Act.put]) (fun _ => by kernel_rfl) _ (r_Plus' Q 1 F1.out F3.out F2.out) ?_
      refine wpQuiet_nil ?_
      rintro w6 ⟨J6, d6, rfl⟩
      try simp only [Act.put, List.setIfInBounds_toArray, List.set_cons_succ, List.set_cons_zero]
      go_wp2_with (first | (refine wpList_num_load rfl _ rfl _ rfl (by first | (simp [go_sem]; done) | (simp [go_sem, *]; done)) ?_; intro c_ hc_; simp [go_sem] at hc_; subst hc_; try simp only [Act.put, List.setIfInBounds_toArray, List.set_cons_succ, List.set_cons_zero]) | (refine wpList_cells_store rfl _ _ rfl _ rfl _ rfl (by first | (simp [go_sem]; done) | (simp [go_sem, *]; done)) ?_; intro w1_ hw1_; simp [go_sem] at hw1_; subst hw1_; try simp only [Act.put, List.setIfInBounds_toArray, List.set_cons_succ, List.set_cons_zero]))
      rw [HCS.out, HS.out]
      refine (HC.out _).mono ?_
      rintro e w' ⟨rfl, J11, d11, rfl⟩
      go_wp2_with fail
      refine (HT.out _).mono ?_
      rintro e w' ⟨rfl, J12, d12, rfl⟩
      go_wp2_with fail
      go_ret2
      refine ⟨ret2 (by rw [HRR.out]) (by rw [HRR.out]), junk_of_below (HB.out.trans (Below.mono (B := W0.heap.size) ?_ HB.out.size))⟩
      (repeat' (first | (with_reducible exact Below.refl _ _) | (with_reducible assumption) | (with_reducible refine Below.alloc ?_ ?_ _) | (with_reducible refine Below.drew ?_) | (with_reducible refine below_drewN ?_ _) | (with_reducible refine below_plus ?_ ?_ _ _) | (with_reducible refine Below.setCell ?_ ?_ _) | (with_reducible refine Below.setRow ?_ ?_ _) | go_size))
    · by_cases h2 : g = 0
      · have hg0 : (g == 0) = true := by simp [h2]
        by_cases h3 : q0 % 2 = 1
        · have hupv : up = true := by rw [hup.out]; simp [h1, h2, h3]
          have hq1 : (q0 % 2 == 1) = true := by simp [h3]
          clear h2 h3
          have hr := r_signed_told s (Q + 1) (by omega) (by have := Q1.out; omega)
          have hRR : intRes (if s then -(Q + 1) else (Q + 1)) = R := by rw [← hR.out, hupv]; rfl
          generalize (if s = true then -(Q + 1) else (Q + 1)) = vv at *
          have HRR := Lib.hid hRR; clear hRR
          have HC := Lib.hid hr.1; have HT := Lib.hid hr.2
          have F1 := Lib.hid (fits_of Q (by have := Q1.out; omega))
          have F2 := Lib.hid (fits_of (Q + 1) (by have := Q1.out; omega))
          have F3 := Lib.hid (fits_of 1 (by decide))
          have HCS := Lib.hid (show ∀ t, (cellsOf (Q + 1)).setIfInBounds 0 (.bool t) = numCells t (digs 12 (Q + 1)) from fun t => by unfold cellsOf; rw [numCells_sign, absZ _ (by omega)])
          have HS := Lib.hid hs
          clear hr hupv hs Q0
          go_upto_region 6 with fail
          rw [HQ.out]
          refine region_quiet_tail (C := Cls ((((W0.alloc (.cells #[.bool xb, .int .i64 x0, .int .i64 x1, .int .i64 x2, .int .i64 x3, .int .i64 x4, .int .i64 x5, .int .i64 x6, .int .i64 x7, .int .i64 x8, .int .i64 x9, .int .i64 x10, .int .i64 x11] 49)).plus Ja da).alloc (.cells (cellsOf Q) 49)))) 3 (by kernel_rfl) (by kernel_rfl) ⟨_, _, rfl⟩ ?_
          simp only [List.take_succ_cons, List.take_zero, List.drop_succ_cons, List.drop_zero]
          (refine q_load rfl _ _ rfl _ Try.underlying49 rfl 13 (by kernel_rfl) _ rfl (by simp [go_sem]) _ (by simp [go_sem]; rfl) (by simp [go_sem]) ?_)
          refine q_call rfl 33 _ _ rfl #[.int .i64 1] (by simp [Act.eval]) (fun _ => by kernel_rfl) _ (r_Of' 1 (by decide) (by decide)) ?_
          refine q_call rfl 36 _ _ rfl #[.agg (cellsOf Q), .agg (cellsOf 1)] (by simp [Act.eval, Act.put]) (fun _ => by kernel_rfl) _ (r_Plus' Q 1 F1.out F3.out F2.out) ?_
          refine wpQuiet_nil ?_
          rintro w6 ⟨J6, d6, rfl⟩
          try simp only [Act.put, List.setIfInBounds_toArray, List.set_cons_succ, List.set_cons_zero]
          go_wp2_with (first | (refine wpList_num_load rfl _ rfl _ rfl (by first | (simp [go_sem]; done) | (simp [go_sem, *]; done)) ?_; intro c_ hc_; simp [go_sem] at hc_; subst hc_; try simp only [Act.put, List.setIfInBounds_toArray, List.set_cons_succ, List.set_cons_zero]) | (refine wpList_cells_store rfl _ _ rfl _ rfl _ rfl (by first | (simp [go_sem]; done) | (simp [go_sem, *]; done)) ?_; intro w1_ hw1_; simp [go_sem] at hw1_; subst hw1_; try simp only [Act.put, List.setIfInBounds_toArray, List.set_cons_succ, List.set_cons_zero]))
          rw [HCS.out, HS.out]
          refine (HC.out _).mono ?_
          rintro e w' ⟨rfl, J11, d11, rfl⟩
          go_wp2_with fail
          refine (HT.out _).mono ?_
          rintro e w' ⟨rfl, J12, d12, rfl⟩
          go_wp2_with fail
          go_ret2
          refine ⟨ret2 (by rw [HRR.out]) (by rw [HRR.out]), junk_of_below (HB.out.trans (Below.mono (B := W0.heap.size) ?_ HB.out.size))⟩
          (repeat' (first | (with_reducible exact Below.refl _ _) | (with_reducible assumption) | (with_reducible refine Below.alloc ?_ ?_ _) | (with_reducible refine Below.drew ?_) | (with_reducible refine below_drewN ?_ _) | (with_reducible refine below_plus ?_ ?_ _ _) | (with_reducible refine Below.setCell ?_ ?_ _) | (with_reducible refine Below.setRow ?_ ?_ _) | go_size))

        · have hupv : up = false := by rw [hup.out]; simp [h1, h2, h3]
          have hq1 : (q0 % 2 == 1) = false := by simp [h3]
          clear h2 h3
          have hr := r_signed_told s Q (by omega) (by have := Q1.out; omega)
          have hRR : intRes (if s then -Q else Q) = R := by rw [← hR.out, hupv]; simp
          generalize (if s = true then -Q else Q) = vv at *
          have HRR := Lib.hid hRR; clear hRR
          have HC := Lib.hid hr.1; have HT := Lib.hid hr.2
          have F1 := Lib.hid (fits_of Q (by have := Q1.out; omega))
          have F2 := Lib.hid (fits_of (Q + 1) (by have := Q1.out; omega))
          have F3 := Lib.hid (fits_of 1 (by decide))
          have HCS := Lib.hid (show ∀ t, (cellsOf Q).setIfInBounds 0 (.bool t) = numCells t (digs 12 Q) from fun t => by unfold cellsOf; rw [numCells_sign, absZ _ (by omega)])
          have HS := Lib.hid hs
          clear hr hupv hs Q0
          go_upto_region 7 with fail
          rw [HQ.out]
          go_wp2_with (first | (refine wpList_num_load rfl _ rfl _ rfl (by first | (simp [go_sem]; done) | (simp [go_sem, *]; done)) ?_; intro c_ hc_; simp [go_sem] at hc_; subst hc_; try simp only [Act.put, List.setIfInBounds_toArray, List.set_cons_succ, List.set_cons_zero]) | (refine wpList_cells_store rfl _ _ rfl _ rfl _ rfl (by first | (simp [go_sem]; done) | (simp [go_sem, *]; done)) ?_; intro w1_ hw1_; simp [go_sem] at hw1_; subst hw1_; try simp only [Act.put, List.setIfInBounds_toArray, List.set_cons_succ, List.set_cons_zero]))
          rw [HCS.out, HS.out]
          refine (HC.out _).mono ?_
          rintro e w' ⟨rfl, J11, d11, rfl⟩
          go_wp2_with fail
          refine (HT.out _).mono ?_
          rintro e w' ⟨rfl, J12, d12, rfl⟩
          go_wp2_with fail
          go_ret2
          refine ⟨ret2 (by rw [HRR.out]) (by rw [HRR.out]), junk_of_below (HB.out.trans (Below.mono (B := W0.heap.size) ?_ HB.out.size))⟩
          (repeat' (first | (with_reducible exact Below.refl _ _) | (with_reducible assumption) | (with_reducible refine Below.alloc ?_ ?_ _) | (with_reducible refine Below.drew ?_) | (with_reducible refine below_drewN ?_ _) | (with_reducible refine below_plus ?_ ?_ _ _) | (with_reducible refine Below.setCell ?_ ?_ _) | (with_reducible refine Below.setRow ?_ ?_ _) | go_size))

      · have hupv : up = false := by rw [hup.out]; simp [h1, h2]
        have hg0 : (g == 0) = false := by simp [h2]
        clear h2
        have hr := r_signed_told s Q (by omega) (by have := Q1.out; omega)
        have hRR : intRes (if s then -Q else Q) = R := by rw [← hR.out, hupv]; simp
        generalize (if s = true then -Q else Q) = vv at *
        have HRR := Lib.hid hRR; clear hRR
        have HC := Lib.hid hr.1; have HT := Lib.hid hr.2
        have F1 := Lib.hid (fits_of Q (by have := Q1.out; omega))
        have F2 := Lib.hid (fits_of (Q + 1) (by have := Q1.out; omega))
        have F3 := Lib.hid (fits_of 1 (by decide))
        have HCS := Lib.hid (show ∀ t, (cellsOf Q).setIfInBounds 0 (.bool t) = numCells t (digs 12 Q) from fun t => by unfold cellsOf; rw [numCells_sign, absZ _ (by omega)])
        have HS := Lib.hid hs
        clear hr hupv hs Q0
        go_upto_region 7 with fail
        rw [HQ.out]
        go_wp2_with (first | (refine wpList_num_load rfl _ rfl _ rfl (by first | (simp [go_sem]; done) | (simp [go_sem, *]; done)) ?_; intro c_ hc_; simp [go_sem] at hc_; subst hc_; try simp only [Act.put, List.setIfInBounds_toArray, List.set_cons_succ, List.set_cons_zero]) | (refine wpList_cells_store rfl _ _ rfl _ rfl _ rfl (by first | (simp [go_sem]; done) | (simp [go_sem, *]; done)) ?_; intro w1_ hw1_; simp [go_sem] at hw1_; subst hw1_; try simp only [Act.put, List.setIfInBounds_toArray, List.set_cons_succ, List.set_cons_zero]))
        rw [HCS.out, HS.out]
        refine (HC.out _).mono ?_
        rintro e w' ⟨rfl, J11, d11, rfl⟩
        go_wp2_with fail
        refine (HT.out _).mono ?_
        rintro e w' ⟨rfl, J12, d12, rfl⟩
        go_wp2_with fail
        go_ret2
        refine ⟨ret2 (by rw [HRR.out]) (by rw [HRR.out]), junk_of_below (HB.out.trans (Below.mono (B := W0.heap.size) ?_ HB.out.size))⟩
        (repeat' (first | (with_reducible exact Below.refl _ _) | (with_reducible assumption) | (with_reducible refine Below.alloc ?_ ?_ _) | (with_reducible refine Below.drew ?_) | (with_reducible refine below_drewN ?_ _) | (with_reducible refine below_plus ?_ ?_ _ _) | (with_reducible refine Below.setCell ?_ ?_ _) | (with_reducible refine Below.setRow ?_ ?_ _) | go_size))

end Go.Proofs.Ytgnmoneiiogoaaa

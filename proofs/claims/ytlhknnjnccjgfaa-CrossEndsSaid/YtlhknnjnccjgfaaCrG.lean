/- The laws CrossMeets, CrossKnown: the walks. -/
import Derived.Test.YtlhknnjnccjgfaaCrF
import Derived.Deep.RegionHeld3
namespace Go.Proofs.Ytlhknnjnccjgfaa
set_option linter.unusedVariables false
set_option linter.unusedSimpArgs false
open Go.RowKit

theorem preads_by {w1 w2 : World} {J : Array Obj} {d : Nat} {a : Option Addr} {n : Nat} {K : List (Int × Int)} (h : PReads w1 a n K) (e : w2 = w1.plus J d) : PReads w2 a n K := by
  subst e; exact h.below (Junk.below ⟨_, _, rfl⟩)
theorem preads_eq {w1 w2 : World} {a : Option Addr} {n : Nat} {K : List (Int × Int)} (h : PReads w1 a n K) (e : w2 = w1) : PReads w2 a n K := by rw [e]; exact h
theorem common_len (a b c d : Int × Int) : (commonQ a b c d).length ≤ 4 := by
  cases h : mayQ a b && mayQ c d with
  | false => unfold commonQ; rw [h]; exact Nat.zero_le _
  | true => rw [← out_all h]; exact out_len a b c d 4
theorem preads_more {W : World} {J J' : Array Obj} {d d' : Nat} {a : Option Addr} {n : Nat} {K : List (Int × Int)} (h : PReads (W.plus J d) a n K) : PReads (W.plus (J ++ J') d') a n K := by
  refine h.below ?_
  rw [← plus_plus W J d]
  exact Junk.below ⟨_, _, rfl⟩
set_option maxRecDepth 100000 in
set_option maxHeartbeats 4000000 in
theorem l_crossMeets (w : World) (ax ay bx by_ cx cy dx dy : Int) : Calls Try.prog 3 #[pt ax ay, pt bx by_, pt cx cy, pt dx dy] w fun e w' => e = .returned (.bool true) ∧ Junk w w' := by
  have H9 := Lib.hid l_crAwake
  have HM1 := Lib.hid (fun w' => n_crMeets ax ay bx by_ cx cy dx dy w')
  have HM2 := Lib.hid (fun w' => r_crMeets w' ax ay bx by_ cx cy dx dy)
  have HE1 := Lib.hid (fun w' => n_crEnds ax ay bx by_ cx cy dx dy w')
  have HE2 := Lib.hid (fun w' => r_crEnds w' ax ay bx by_ cx cy dx dy)
  have HS := Lib.hid (fun (w' : World) (a b : Option Addr) (n m ca cb : Nat) (h1 : PReads w' a n (commonQ (ax, ay) (bx, by_) (cx, cy) (dx, dy))) (h2 : PReads w' b m (commonQ (ax, ay) (bx, by_) (cx, cy) (dx, dy))) => (show Calls Try.prog 11 #[.slice a n ca, .slice b m cb] w' fun e w'' => e = .returned (.bool true) ∧ Junk w' w'' from by
    have h := k_SamePoints w' a b n m ca cb _ _ h1 h2 (by rw [← h1.1]; exact Nat.le_trans (common_len (ax, ay) (bx, by_) (cx, cy) (dx, dy)) (by decide))
    rw [decide_eq_true rfl] at h
    exact h))
  generalize meetQ (ax, ay) (bx, by_) (cx, cy) (dx, dy) = n at *
  generalize commonQ (ax, ay) (bx, by_) (cx, cy) (dx, dy) = K at *
  unfold pt at *
  go_enter Try.func3, Try.ntmps3
  go_upto_region 1 with fail
  obtain ⟨W, hW⟩ : ∃ W, ((((w.alloc (.cells #[.int .i64 ax, .int .i64 ay] 23)).alloc (.cells #[.int .i64 bx, .int .i64 by_] 23)).alloc (.cells #[.int .i64 cx, .int .i64 cy] 23)).alloc (.cells #[.int .i64 dx, .int .i64 dy] 23)) = W := ⟨_, rfl⟩
  have c00 : W.cell? ⟨w.heap.size, 0, none⟩ = some (.int .i64 ax) := by rw [← hW]; simp [go_sem]
  have c01 : W.cell? ⟨w.heap.size, 1, none⟩ = some (.int .i64 ay) := by rw [← hW]; simp [go_sem]
  have hb0 : w.heap.size < W.heap.size := by rw [← hW]; simp; try omega
  have c10 : W.cell? ⟨w.heap.size + 1, 0, none⟩ = some (.int .i64 bx) := by rw [← hW]; simp [go_sem]
  have c11 : W.cell? ⟨w.heap.size + 1, 1, none⟩ = some (.int .i64 by_) := by rw [← hW]; simp [go_sem]
  have hb1 : w.heap.size + 1 < W.heap.size := by rw [← hW]; simp; try omega
  have c20 : W.cell? ⟨w.heap.size + 1 + 1, 0, none⟩ = some (.int .i64 cx) := by rw [← hW]; simp [go_sem]
  have c21 : W.cell? ⟨w.heap.size + 1 + 1, 1, none⟩ = some (.int .i64 cy) := by rw [← hW]; simp [go_sem]
  have hb2 : w.heap.size + 1 + 1 < W.heap.size := by rw [← hW]; simp; try omega
  have c30 : W.cell? ⟨w.heap.size + 1 + 1 + 1, 0, none⟩ = some (.int .i64 dx) := by rw [← hW]; simp [go_sem]
  have c31 : W.cell? ⟨w.heap.size + 1 + 1 + 1, 1, none⟩ = some (.int .i64 dy) := by rw [← hW]; simp [go_sem]
  have hb3 : w.heap.size + 1 + 1 + 1 < W.heap.size := by rw [← hW]; simp; try omega
  have hj : Below w.heap.size w W := by rw [← hW]; (repeat' (first | (with_reducible exact Below.refl _ _) | (with_reducible assumption) | (with_reducible refine Below.alloc ?_ ?_ _) | (with_reducible refine Below.drew ?_) | (with_reducible refine below_drewN ?_ _) | (with_reducible refine below_plus ?_ ?_ _ _) | (with_reducible refine Below.setCell ?_ ?_ _) | (with_reducible refine Below.setRow ?_ ?_ _) | go_size))
  have hsz : w.heap.size ≤ W.heap.size := hj.size
  rw [hW]
  clear hW
  go_upto_region 1 with fail
  go_region_held3 (fun w' => w'.cell? ⟨w.heap.size, 0, none⟩ = some (.int .i64 ax) ∧ w'.cell? ⟨w.heap.size, 1, none⟩ = some (.int .i64 ay) ∧ w'.cell? ⟨w.heap.size + 1, 0, none⟩ = some (.int .i64 bx) ∧ w'.cell? ⟨w.heap.size + 1, 1, none⟩ = some (.int .i64 by_) ∧ w'.cell? ⟨w.heap.size + 1 + 1, 0, none⟩ = some (.int .i64 cx) ∧ w'.cell? ⟨w.heap.size + 1 + 1, 1, none⟩ = some (.int .i64 cy) ∧ w'.cell? ⟨w.heap.size + 1 + 1 + 1, 0, none⟩ = some (.int .i64 dx) ∧ w'.cell? ⟨w.heap.size + 1 + 1 + 1, 1, none⟩ = some (.int .i64 dy)) (first | (refine ⟨?_, ?_, ?_, ?_, ?_, ?_, ?_, ?_⟩ <;> (simp [go_sem, *]; done))) (first
    | (go_simp; go_at_call 9; (with_reducible refine (HM1.out _).mono ?_); rintro e w1 ⟨rfl, J1, d1, rfl⟩; go_simp)
    | (go_simp; go_at_call 10; (with_reducible refine (HM2.out _).mono ?_); rintro e w1 ⟨rfl, J2, d2, rfl⟩; go_simp)
    | (go_simp; go_at_call 12; (with_reducible refine (HE1.out _).mono ?_); rintro e w1 ⟨⟨v, rfl, a', n', cap', rfl, hr1, hl1⟩, J3, d3, rfl⟩; have R1 := Lib.hid hr1; have l1 := hr1.1; clear hr1; go_simp)
    | (go_simp; go_at_call 13; (with_reducible refine (HE2.out _).mono ?_); rintro e w1 ⟨⟨v, rfl, a2, n2, cap2, rfl, hr2, hl2⟩, J4, d4, rfl⟩; have R2 := Lib.hid hr2; clear hr2; go_simp)
    | (go_simp; go_at_call 11; refine ((HS.out _ _ _ _ _ _ _ (preads_by (J := J4) (d := d4) R1.out (by simp only [plus_plus, Array.append_assoc])) (preads_eq R2.out (by simp only [plus_plus, Array.append_assoc])))).mono ?_; rintro e w1 ⟨rfl, J5, d5, rfl⟩; go_simp)
    | (go_simp; go_at_call 14; (with_reducible refine (H9.out _).mono ?_); rintro e w1 ⟨rfl, J6, d6, rfl⟩; go_simp))
  all_goals go_wp2
  all_goals go_ret
  all_goals exact ⟨rfl, junk_of_below (by (repeat' (first | (with_reducible exact Below.refl _ _) | (with_reducible assumption) | (with_reducible refine Below.alloc ?_ ?_ _) | (with_reducible refine Below.drew ?_) | (with_reducible refine below_drewN ?_ _) | (with_reducible refine below_plus ?_ ?_ _ _) | (with_reducible refine Below.setCell ?_ ?_ _) | (with_reducible refine Below.setRow ?_ ?_ _) | go_size)))⟩
end Go.Proofs.Ytlhknnjnccjgfaa

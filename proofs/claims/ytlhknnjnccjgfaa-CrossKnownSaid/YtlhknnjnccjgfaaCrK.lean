/- The law CrossKnown: the walk. -/
import Derived.Test.YtlhknnjnccjgfaaCrG
namespace Go.Proofs.Ytlhknnjnccjgfaa
set_option linter.unusedVariables false
set_option linter.unusedSimpArgs false
open Go.RowKit

theorem ce_is {ax ay bx by_ cx cy dx dy : Int} (K : List (Int × Int)) (h : commonQ (ax, ay) (bx, by_) (cx, cy) (dx, dy) = K) (w : World) :
    Calls Try.prog 12 #[.agg #[.int .i64 ax, .int .i64 ay], .agg #[.int .i64 bx, .int .i64 by_], .agg #[.int .i64 cx, .int .i64 cy], .agg #[.int .i64 dx, .int .i64 dy]] w fun e w' => (∃ v, e = .returned v ∧ PRes w' v K) ∧ Junk w w' := by
  rw [← h]; exact n_crEnds ax ay bx by_ cx cy dx dy w
theorem sp_is (K : List (Int × Int)) (hl : K.length ≤ 9) (w' : World) (a b : Option Addr) (n m ca cb : Nat) (h1 : PReads w' a n K) (h2 : PReads w' b m K) : Calls Try.prog 11 #[.slice a n ca, .slice b m cb] w' fun e w'' => e = .returned (.bool true) ∧ Junk w' w'' := by
  have h := k_SamePoints w' a b n m ca cb _ _ h1 h2 (by rw [← h1.1]; exact Nat.le_trans hl (by decide))
  rw [decide_eq_true rfl] at h
  exact h
theorem preads_new1 {w : World} {g : Nat} {x y : Int} (h0 : w.cell? ⟨g, 0, none⟩ = some (.int .i64 x)) (h1 : w.cell? ⟨g, 1, none⟩ = some (.int .i64 y)) : PReads w (some ⟨g, 0, none⟩) 1 [(x, y)] :=
  ⟨rfl, .inr ⟨g, 0, rfl, fun i hi => by
    match i, hi with
    | 0, _ => exact ⟨h0, h1⟩⟩⟩
theorem preads_new2 {w : World} {g : Nat} {x y u v : Int} (h0 : w.cell? ⟨g, 0, none⟩ = some (.int .i64 x)) (h1 : w.cell? ⟨g, 1, none⟩ = some (.int .i64 y)) (h2 : w.cell? ⟨g, 2, none⟩ = some (.int .i64 u)) (h3 : w.cell? ⟨g, 3, none⟩ = some (.int .i64 v)) :
    PReads w (some ⟨g, 0, none⟩) 2 [(x, y), (u, v)] :=
  ⟨rfl, .inr ⟨g, 0, rfl, fun i hi => by
    match i, hi with
    | 0, _ => exact ⟨h0, h1⟩
    | 1, _ => exact ⟨h2, h3⟩⟩⟩

theorem preads_alloc {w1 w : World} {a : Option Addr} {n : Nat} {K : List (Int × Int)} {o : Obj} (h : PReads w1 a n K) (e : ∃ J d, w = w1.plus J d) : PReads (w.alloc o) a n K := by
  obtain ⟨J, d, rfl⟩ := e
  exact h.below (Below.alloc (Junk.below ⟨_, _, rfl⟩) (by simp) _)
set_option maxRecDepth 100000 in
set_option maxHeartbeats 4000000 in
theorem l_crossKnown (w : World) : Calls Try.prog 8 #[] w fun e w' => e = .returned (.bool true) ∧ Junk w w' := by
  have HAt := Lib.hid l_crAt
  have H9 := Lib.hid l_crAwake
  have H1 := Lib.hid (cm_is (ax := 0) (ay := 0) (bx := 3) (by_ := 3) (cx := 0) (cy := 3) (dx := 4) (dy := 0) 2 (by decide))
  have H2 := Lib.hid (cm_is (ax := 0) (ay := 0) (bx := 4) (by_ := 0) (cx := 4) (cy := 0) (dx := 9) (dy := 0) 1 (by decide))
  have H3 := Lib.hid (cm_is (ax := 0) (ay := 0) (bx := 0) (by_ := 0) (cx := 0) (cy := 0) (dx := 4) (dy := 0) 0 (by decide))
  have HE1 := Lib.hid (ce_is (ax := 0) (ay := 0) (bx := 4) (by_ := 0) (cx := 2) (cy := 0) (dx := 2) (dy := 5) [(2, 0)] (by decide))
  have HE2 := Lib.hid (ce_is (ax := 0) (ay := 0) (bx := 4) (by_ := 0) (cx := 3) (cy := 0) (dx := 9) (dy := 0) [(4, 0), (3, 0)] (by decide))
  unfold pt at HAt
  go_enter Try.func8, Try.ntmps8
  go_upto_region 2 with (first | (go_at_call 16; refine (HAt.out _ _ _).mono ?_; rintro e w1 ⟨rfl, J1, d1, rfl⟩) | (go_at_call 9; (first | (with_reducible refine (H1.out _).mono ?_) | (with_reducible refine (H2.out _).mono ?_) | (with_reducible refine (H3.out _).mono ?_)); rintro e w1 ⟨rfl, J2, d2, rfl⟩))
  go_wp2_with (go_at_call 16; refine (HAt.out _ _ _).mono ?_; rintro e w1 ⟨rfl, J1, d1, rfl⟩)
  refine (HE1.out _).mono ?_
  rintro e w1 ⟨⟨v, rfl, a', n', cap', rfl, hr1, hl1⟩, J3, d3, rfl⟩
  have R1 := Lib.hid hr1
  clear hr1 hl1
  go_wp2_with (go_at_call 16; refine (HAt.out _ _ _).mono ?_; rintro e w1 ⟨rfl, J4, d4, rfl⟩)
  refine (sp_is [(2, 0)] (by decide) _ _ _ _ _ _ _ (preads_alloc R1.out ⟨_, _, by simp only [plus_plus, Array.append_assoc]; rfl⟩) (preads_new1 ?_ ?_)).mono ?_
  · simp [go_sem]
  · simp [go_sem]
  rintro e w1 ⟨rfl, J5, d5, rfl⟩
  clear R1
  go_wp2_with (go_at_call 16; refine (HAt.out _ _ _).mono ?_; rintro e w1 ⟨rfl, J1, d1, rfl⟩)
  refine (HE2.out _).mono ?_
  rintro e w1 ⟨⟨v, rfl, a2, n2, cap2, rfl, hr2, hl2⟩, J6, d6, rfl⟩
  have R2 := Lib.hid hr2
  clear hr2 hl2
  go_wp2_with (go_at_call 16; refine (HAt.out _ _ _).mono ?_; rintro e w1 ⟨rfl, J7, d7, rfl⟩)
  refine (sp_is [(4, 0), (3, 0)] (by decide) _ _ _ _ _ _ _ (preads_alloc R2.out ⟨_, _, by simp only [plus_plus, Array.append_assoc]; rfl⟩) (preads_new2 ?_ ?_ ?_ ?_)).mono ?_
  iterate 4 (simp [go_sem])
  rintro e w1 ⟨rfl, J8, d8, rfl⟩
  go_wp2_with (go_at_call 14; refine (H9.out _).mono ?_; rintro e w1 ⟨rfl, J9, d9, rfl⟩)
  go_ret
  exact ⟨rfl, junk_of_below (by (repeat' (first | (with_reducible exact Below.refl _ _) | (with_reducible assumption) | (with_reducible refine Below.alloc ?_ ?_ _) | (with_reducible refine Below.drew ?_) | (with_reducible refine below_drewN ?_ _) | (with_reducible refine below_plus ?_ ?_ _ _) | (with_reducible refine Below.setCell ?_ ?_ _) | (with_reducible refine Below.setRow ?_ ?_ _) | go_size)))⟩
end Go.Proofs.Ytlhknnjnccjgfaa

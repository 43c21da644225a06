/- The law CrossEnds: the walk. -/
import Derived.Test.YtlhknnjnccjgfaaCrK
namespace Go.Proofs.Ytlhknnjnccjgfaa
set_option linter.unusedVariables false
set_option linter.unusedSimpArgs false
open Go.RowKit

set_option maxRecDepth 100000 in
set_option maxHeartbeats 4000000 in
theorem ends1_not (w : World) (ax ay bx by_ cx cy dx dy : Int) (h : (mayQ (ax, ay) (bx, by_) && mayQ (cx, cy) (dx, dy)) = false) :
    Calls Try.prog 5 #[pt ax ay, pt bx by_, pt cx cy, pt dx dy] w fun e w' => e = .returned (.bool true) ∧ Junk w w' := by
  have H9 := Lib.hid l_crAwake
  have HV1 := Lib.hid (fun w' => l_crMay ax ay bx by_ w')
  have HV2 := Lib.hid (fun w' => l_crMay cx cy dx dy w')
  generalize mayQ (ax, ay) (bx, by_) = v1 at *
  generalize mayQ (cx, cy) (dx, dy) = v2 at *
  unfold pt at *
  cases v1 with
  | false =>
    clear h
    go_enter Try.func5, Try.ntmps5
    go_wp2_with (first | (go_at_call 14; refine (H9.out _).mono ?_; rintro e w1 ⟨rfl, J0, dJ0, rfl⟩) | (go_at_call 15; (first | (with_reducible refine (HV1.out _).mono ?_) | (with_reducible refine (HV2.out _).mono ?_)); rintro e w1 ⟨rfl, J1, d1, rfl⟩))
    go_ret
    exact ⟨rfl, junk_of_below (by (repeat' (first | (with_reducible exact Below.refl _ _) | (with_reducible assumption) | (with_reducible refine Below.alloc ?_ ?_ _) | (with_reducible refine Below.drew ?_) | (with_reducible refine below_drewN ?_ _) | (with_reducible refine below_plus ?_ ?_ _ _) | (with_reducible refine Below.setCell ?_ ?_ _) | (with_reducible refine Below.setRow ?_ ?_ _) | go_size)))⟩
  | true =>
    obtain rfl : v2 = false := by simpa using h
    clear h
    go_enter Try.func5, Try.ntmps5
    go_wp2_with (first | (go_at_call 14; refine (H9.out _).mono ?_; rintro e w1 ⟨rfl, J0, dJ0, rfl⟩) | (go_at_call 15; (first | (with_reducible refine (HV1.out _).mono ?_) | (with_reducible refine (HV2.out _).mono ?_)); rintro e w1 ⟨rfl, J1, d1, rfl⟩))
    go_ret
    exact ⟨rfl, junk_of_below (by (repeat' (first | (with_reducible exact Below.refl _ _) | (with_reducible assumption) | (with_reducible refine Below.alloc ?_ ?_ _) | (with_reducible refine Below.drew ?_) | (with_reducible refine below_drewN ?_ _) | (with_reducible refine below_plus ?_ ?_ _ _) | (with_reducible refine Below.setCell ?_ ?_ _) | (with_reducible refine Below.setRow ?_ ?_ _) | go_size)))⟩

def LoopC (W : World) (K : List (Int × Int)) (i : Value) (wr : World) : Prop := ∃ k : Nat, i = .int .i64 (k : Int) ∧ k ≤ K.length ∧ Cls W wr
theorem ne_or {u v x y : Int} (h : (u, v) ≠ (x, y)) : (u == x) = false ∨ ((u == x) = true ∧ (v == y) = false) := by
  by_cases h1 : u = x
  · exact .inr ⟨by simpa using h1, by rw [beq_eq_false_iff_ne]; exact fun k => h (by rw [h1, k])⟩
  · exact .inl (by rw [beq_eq_false_iff_ne]; exact h1)
theorem ne_and {u v x y : Int} (h : (u, v) ≠ (x, y)) : (u == x && v == y) = false := by
  rw [Bool.eq_false_iff]
  intro k
  rw [Bool.and_eq_true, beq_iff_eq, beq_iff_eq] at k
  exact h (by rw [k.1, k.2])
theorem mem_of {K : List (Int × Int)} {i : Nat} {x y : Int} (hi : i < K.length) (h : K.getD i (0, 0) = (x, y)) : (x, y) ∈ K := by
  rw [← h, List.getD_eq_getElem?_getD, List.getElem?_eq_getElem hi]
  exact List.getElem_mem hi

theorem preads_heap {w1 w2 : World} {a : Option Addr} {n : Nat} {K : List (Int × Int)} (h : PReads w1 a n K) (e : w2.heap = w1.heap) : PReads w2 a n K := by
  have c : ∀ x, w2.cell? x = w1.cell? x := fun x => by simp only [World.cell?, e]
  rcases h with ⟨h1, h2 | ⟨b, o, rfl, h2⟩⟩
  · exact ⟨h1, .inl h2⟩
  · exact ⟨h1, .inr ⟨b, o, rfl, fun i hi => by rw [c, c]; exact h2 i hi⟩⟩
theorem preads_alloc2 {w1 w : World} {a : Option Addr} {n : Nat} {K : List (Int × Int)} {o : Obj} (h : PReads w1 a n K) (e : w.heap = w1.heap) : PReads (w.alloc o) a n K :=
  preads_alloc (preads_heap h e) ⟨#[], _, (plus_nil w).symm⟩
theorem tt2 (u v x y : Int) (w : World) : (binOp .neq 23 (.agg #[.int .i64 u, .int .i64 v]) (.agg #[.int .i64 x, .int .i64 y])).run Try.prog w = .ok (.bool (!(u == x && v == y))) w := by
  cases hx : (u == x) <;> cases hy : (v == y) <;> go_simp
theorem ends_four {u v ax ay bx by_ cx cy dx dy : Int} (h : (u, v) = (ax, ay) ∨ (u, v) = (bx, by_) ∨ (u, v) = (cx, cy) ∨ (u, v) = (dx, dy)) :
    (!(u == ax && v == ay) && !(u == bx && v == by_) && !(u == cx && v == cy) && !(u == dx && v == dy)) = false := by
  rcases h with h | h | h | h <;> injection h with h1 h2 <;> subst h1 h2 <;> simp

set_option maxRecDepth 100000 in
set_option maxHeartbeats 16000000 in
theorem ends1_in (w : World) (ax ay bx by_ cx cy dx dy : Int) (h1 : mayQ (ax, ay) (bx, by_) = true) (h2 : mayQ (cx, cy) (dx, dy) = true) :
    Calls Try.prog 5 #[pt ax ay, pt bx by_, pt cx cy, pt dx dy] w fun e w' => e = .returned (.bool true) ∧ Junk w w' := by
  have H9 := Lib.hid l_crAwake
  have HV1 := Lib.hid (fun w' => l_crMay ax ay bx by_ w')
  have HV2 := Lib.hid (fun w' => l_crMay cx cy dx dy w')
  obtain ⟨va, vb, hn⟩ := may_ok h1
  obtain ⟨vc, vd, hn2⟩ := may_ok h2
  simp only at va vb vc vd
  have hm : meetQ (ax, ay) (bx, by_) (cx, cy) (dx, dy) = howQ (ax, ay) (bx, by_) (cx, cy) (dx, dy) := by unfold meetQ; rw [h1, h2]; rfl
  have hcm : commonQ (ax, ay) (bx, by_) (cx, cy) (dx, dy) = endsQ (ax, ay) (bx, by_) (cx, cy) (dx, dy) := by unfold commonQ; rw [h1, h2]; rfl
  have hlen := how_cnt hn hn2
  rw [← ends_len, ← hcm, ← hm] at hlen
  have HMEM := Lib.hid (fun (x y : Int) (h : (x, y) ∈ commonQ (ax, ay) (bx, by_) (cx, cy) (dx, dy)) => by
    rw [hcm] at h
    have k := ends_mem h
    have vx : okP x y = true := by
      rcases k.2.2 with e | e | e | e <;> injection e with e1 e2 <;> subst e1 e2 <;> assumption
    exact (show (onB x y ax ay bx by_ = true ∧ onB x y cx cy dx dy = true) ∧ ((x, y) = (ax, ay) ∨ (x, y) = (bx, by_) ∨ (x, y) = (cx, cy) ∨ (x, y) = (dx, dy)) from ⟨⟨by unfold onB; rw [vx, va, vb]; exact decide_eq_true k.1, by unfold onB; rw [vx, vc, vd]; exact decide_eq_true k.2.1⟩, k.2.2⟩))
  have HM0 := Lib.hid (fun w' => n_crMeets ax ay bx by_ cx cy dx dy w')
  have HE0 := Lib.hid (fun w' => n_crEnds ax ay bx by_ cx cy dx dy w')
  have HM1 := Lib.hid (cm_is (ax := ax) (ay := ay) (bx := bx) (by_ := by_) (cx := ax) (cy := ay) (dx := bx) (dy := by_) 3 (by unfold meetQ; rw [h1]; exact how_self))
  have HM2 := Lib.hid (cm_is (ax := ax) (ay := ay) (bx := bx) (by_ := by_) (cx := bx) (cy := by_) (dx := ax) (dy := ay) 3 (by rw [meet_flip']; unfold meetQ; rw [h1]; exact how_self))
  have HE1 := Lib.hid (ce_is (ax := ax) (ay := ay) (bx := bx) (by_ := by_) (cx := ax) (cy := ay) (dx := bx) (dy := by_) [(ax, ay), (bx, by_)] (by unfold commonQ; rw [h1]; exact ends_self))
  rw [h1] at HV1
  rw [h2] at HV2
  clear h1 h2 va vb vc vd hn hn2 hm hcm
  generalize meetQ (ax, ay) (bx, by_) (cx, cy) (dx, dy) = n at *
  generalize commonQ (ax, ay) (bx, by_) (cx, cy) (dx, dy) = K at *
  have HLEN := Lib.hid hlen
  clear hlen
  unfold pt at *
  go_enter Try.func5, Try.ntmps5
  go_upto_region 1 with fail
  obtain ⟨W, hW⟩ : ∃ W, ((((w.alloc (.cells #[.int .i64 ax, .int .i64 ay] 23)).alloc (.cells #[.int .i64 bx, .int .i64 by_] 23)).alloc (.cells #[.int .i64 cx, .int .i64 cy] 23)).alloc (.cells #[.int .i64 dx, .int .i64 dy] 23)) = W := ⟨_, rfl⟩
  have c00 : W.cell? ⟨w.heap.size, 0, none⟩ = some (.int .i64 ax) := by rw [← hW]; simp [go_sem]
  have c01 : W.cell? ⟨w.heap.size, 1, none⟩ = some (.int .i64 ay) := by rw [← hW]; simp [go_sem]
  have hb0 : w.heap.size < W.heap.size := by rw [← hW]; simp; try omega
  have c10 : W.cell? ⟨w.heap.size + 1, 0, none⟩ = some (.int .i64 bx) := by rw [← hW]; simp [go_sem]
  have c11 : W.cell? ⟨w.heap.size + 1, 1, none⟩ = some (.int .i64 by_) := by rw [← hW]; simp [go_sem]
  have hb1 : w.heap.size + 1 < W.heap.size := by rw [← hW]; simp; try omega
  have c20 : W.cell? ⟨w.heap.size + 1 + 1, 0, none⟩ = some (.int .i64 cx) := by rw [← hW]; simp [go_sem]
  have c21 : W.cell? ⟨w.heap.size + 1 + 1, 1, none⟩ = some (.int .i64 cy) := by rw [← hW]; simp [go_sem]
  have hb2 : w.heap.size + 1 + 1 < W.heap.size := by rw [← hW]; simp; try omega
  have c30 : W.cell? ⟨w.heap.size + 1 + 1 + 1, 0, none⟩ = some (.int .i64 dx) := by rw [← hW]; simp [go_sem]
  have c31 : W.cell? ⟨w.heap.size + 1 + 1 + 1, 1, none⟩ = some (.int .i64 dy) := by rw [← hW]; simp [go_sem]
  have hb3 : w.heap.size + 1 + 1 + 1 < W.heap.size := by rw [← hW]; simp; try omega
  have hj : Below w.heap.size w W := by rw [← hW]; (repeat' (first | (with_reducible exact Below.refl _ _) | (with_reducible assumption) | (with_reducible refine Below.alloc ?_ ?_ _) | (with_reducible refine Below.drew ?_) | (with_reducible refine below_drewN ?_ _) | (with_reducible refine below_plus ?_ ?_ _ _) | (with_reducible refine Below.setCell ?_ ?_ _) | (with_reducible refine Below.setRow ?_ ?_ _) | go_size))
  have hsz : w.heap.size ≤ W.heap.size := hj.size
  rw [hW]
  clear hW
  go_upto_region 4 with (first | (go_at_call 14; refine (H9.out _).mono ?_; rintro e w1 ⟨rfl, J0, dJ0, rfl⟩) | (go_at_call 15; (first | (with_reducible refine (HV1.out _).mono ?_) | (with_reducible refine (HV2.out _).mono ?_)); rintro e w1 ⟨rfl, J1, d1, rfl⟩))
  clear HV1 HV2
  go_region_held3 (fun w' => w'.cell? ⟨w.heap.size, 0, none⟩ = some (.int .i64 ax) ∧ w'.cell? ⟨w.heap.size, 1, none⟩ = some (.int .i64 ay) ∧ w'.cell? ⟨w.heap.size + 1, 0, none⟩ = some (.int .i64 bx) ∧ w'.cell? ⟨w.heap.size + 1, 1, none⟩ = some (.int .i64 by_) ∧ w'.cell? ⟨w.heap.size + 1 + 1, 0, none⟩ = some (.int .i64 cx) ∧ w'.cell? ⟨w.heap.size + 1 + 1, 1, none⟩ = some (.int .i64 cy) ∧ w'.cell? ⟨w.heap.size + 1 + 1 + 1, 0, none⟩ = some (.int .i64 dx) ∧ w'.cell? ⟨w.heap.size + 1 + 1 + 1, 1, none⟩ = some (.int .i64 dy)) (first | (refine ⟨?_, ?_, ?_, ?_, ?_, ?_, ?_, ?_⟩ <;> (simp [go_sem, *]; done))) (first
    | (go_simp; go_at_call 9; (with_reducible refine (HM0.out _).mono ?_); rintro e w1 ⟨rfl, J2, d2, rfl⟩; go_simp)
    | (go_simp; go_at_call 12; (with_reducible refine (HE0.out _).mono ?_); rintro e w1 ⟨⟨v, rfl, a', n', cap', rfl, hr1, hl1⟩, J3, d3, rfl⟩; have R1 := Lib.hid hr1; have l1 := hr1.1; clear hr1; go_simp))
  generalize hW2 : World.plus W _ _ = W2
  have hj2 : Below W.heap.size W W2 := by rw [← hW2]; exact Junk.below ⟨_, _, rfl⟩
  have R2 := Lib.hid (preads_eq R1.out (show W2 = _ by rw [← hW2]; simp only [plus_plus, Array.append_assoc]))
  have r00 := (World.cell?_of_block (a := ⟨w.heap.size, 0, none⟩) (hj2.block _ hb0)).trans c00
  have r01 := (World.cell?_of_block (a := ⟨w.heap.size, 1, none⟩) (hj2.block _ hb0)).trans c01
  have rb0 : w.heap.size < W2.heap.size := Nat.lt_of_lt_of_le hb0 hj2.size
  have r10 := (World.cell?_of_block (a := ⟨w.heap.size + 1, 0, none⟩) (hj2.block _ hb1)).trans c10
  have r11 := (World.cell?_of_block (a := ⟨w.heap.size + 1, 1, none⟩) (hj2.block _ hb1)).trans c11
  have rb1 : w.heap.size + 1 < W2.heap.size := Nat.lt_of_lt_of_le hb1 hj2.size
  have r20 := (World.cell?_of_block (a := ⟨w.heap.size + 1 + 1, 0, none⟩) (hj2.block _ hb2)).trans c20
  have r21 := (World.cell?_of_block (a := ⟨w.heap.size + 1 + 1, 1, none⟩) (hj2.block _ hb2)).trans c21
  have rb2 : w.heap.size + 1 + 1 < W2.heap.size := Nat.lt_of_lt_of_le hb2 hj2.size
  have r30 := (World.cell?_of_block (a := ⟨w.heap.size + 1 + 1 + 1, 0, none⟩) (hj2.block _ hb3)).trans c30
  have r31 := (World.cell?_of_block (a := ⟨w.heap.size + 1 + 1 + 1, 1, none⟩) (hj2.block _ hb3)).trans c31
  have rb3 : w.heap.size + 1 + 1 + 1 < W2.heap.size := Nat.lt_of_lt_of_le hb3 hj2.size
  have hj3 : Below w.heap.size w W2 := hj.trans (hj2.mono hsz)
  have hsz3 : w.heap.size ≤ W2.heap.size := hj3.size
  clear hW2 R1 HM0 HE0 c00 c01 c10 c11 c20 c21 c30 c31
  go_upto_if 37 with fail
  obtain ⟨z0, hz0⟩ : ∃ z0 : Int, (if n = 1 then (1 : Int) else 0) = z0 := ⟨_, rfl⟩
  go_cut [12] from 36 to 37 (fun z wx => z = .int .i64 z0 ∧ Cls W2 wx)
  case first =>
    by_cases k1 : n = 1
    · rw [if_pos k1] at hz0
      subst k1 hz0
      go_wp2_with fail
      go_meet
      case rel => exact ⟨rfl, cls_of (junk_of_below (by (repeat' (first | (with_reducible exact Below.refl _ _) | (with_reducible assumption) | (with_reducible refine Below.alloc ?_ ?_ _) | (with_reducible refine Below.drew ?_) | (with_reducible refine below_drewN ?_ _) | (with_reducible refine below_plus ?_ ?_ _ _) | (with_reducible refine Below.setCell ?_ ?_ _) | (with_reducible refine Below.setRow ?_ ?_ _) | go_size))))⟩
    · rw [if_neg k1] at hz0
      subst hz0
      have k2 : (n == 1) = false := by rw [beq_eq_false_iff_ne]; exact k1
      go_wp2_with fail
      go_meet
      case rel => exact ⟨rfl, cls_of (junk_of_below (by (repeat' (first | (with_reducible exact Below.refl _ _) | (with_reducible assumption) | (with_reducible refine Below.alloc ?_ ?_ _) | (with_reducible refine Below.drew ?_) | (with_reducible refine below_drewN ?_ _) | (with_reducible refine below_plus ?_ ?_ _ _) | (with_reducible refine Below.setCell ?_ ?_ _) | (with_reducible refine Below.setRow ?_ ?_ _) | go_size))))⟩
  case rest =>
  obtain ⟨rfl, J4, d4, rfl⟩ := hcut
  go_upto_if 39 with fail
  go_cut [12] from 38 to 39 (fun z wx => z = .int .i64 (n' : Int) ∧ Cls W2 wx)
  case first =>
    have k := HLEN.out
    by_cases k1 : n = 3
    · rw [if_pos k1] at k
      subst k1
      have k2 : (n' : Int) = 2 := by omega
      go_wp2_with fail
      go_meet
      case rel => exact ⟨by rw [k2], cls_of (junk_of_below (by (repeat' (first | (with_reducible exact Below.refl _ _) | (with_reducible assumption) | (with_reducible refine Below.alloc ?_ ?_ _) | (with_reducible refine Below.drew ?_) | (with_reducible refine below_drewN ?_ _) | (with_reducible refine below_plus ?_ ?_ _ _) | (with_reducible refine Below.setCell ?_ ?_ _) | (with_reducible refine Below.setRow ?_ ?_ _) | go_size))))⟩
    · rw [if_neg k1] at k
      have k2 : (n == 3) = false := by rw [beq_eq_false_iff_ne]; exact k1
      have k3 : z0 = (n' : Int) := by
        rw [← hz0]
        split at k
        · rw [if_pos ‹_›]; omega
        · rw [if_neg ‹_›]; omega
      subst k3
      go_wp2_with fail
      go_meet
      case rel => exact ⟨rfl, cls_of (junk_of_below (by (repeat' (first | (with_reducible exact Below.refl _ _) | (with_reducible assumption) | (with_reducible refine Below.alloc ?_ ?_ _) | (with_reducible refine Below.drew ?_) | (with_reducible refine below_drewN ?_ _) | (with_reducible refine below_plus ?_ ?_ _ _) | (with_reducible refine Below.setCell ?_ ?_ _) | (with_reducible refine Below.setRow ?_ ?_ _) | go_size))))⟩
  case rest =>
  obtain ⟨rfl, J5, d5, rfl⟩ := hcut
  clear hz0
  go_upto_region 10 with fail
  go_cut [59] from 40 to 59 (fun t wx => t = .bool false ∧ Cls W2 wx)
  case first =>
    go_wp2_with (go_at_call 9; (first | (with_reducible refine (HM1.out _).mono ?_) | (with_reducible refine (HM2.out _).mono ?_)); rintro e w1 ⟨rfl, J5, d5, rfl⟩)
    go_meet
    case rel => exact ⟨rfl, cls_of (junk_of_below (by (repeat' (first | (with_reducible exact Below.refl _ _) | (with_reducible assumption) | (with_reducible refine Below.alloc ?_ ?_ _) | (with_reducible refine Below.drew ?_) | (with_reducible refine below_drewN ?_ _) | (with_reducible refine below_plus ?_ ?_ _ _) | (with_reducible refine Below.setCell ?_ ?_ _) | (with_reducible refine Below.setRow ?_ ?_ _) | go_size))))⟩
  case rest =>
  obtain ⟨rfl, J5, d5, rfl⟩ := hcut
  clear HLEN HM1 HM2
  go_wp2_with fail
  go_loopw [13] (fun i wr => LoopC W2 K i wr) (fun i _ => n' - (intOf i).toNat)
  case atStart => exact ⟨0, rfl, by omega, J5, d5, rfl⟩
  case round =>
    obtain ⟨k, rfl, k1, J6, d6, rfl⟩ := hrel
    rw [l1] at k1
    by_cases hlt : k < n'
    · rcases R2.out.2 with h0 | ⟨b', o', rfl, hc⟩
      · omega
      obtain ⟨e1, e2⟩ := hc k hlt
      have hb' : b' < W2.heap.size := World.block_lt_of_cell? _ _ e1
      have i2 : (k : Int) < (n' : Int) := by omega
      obtain ⟨u, v, hx⟩ : ∃ u v : Int, (K.getD k (0, 0)) = (u, v) := ⟨_, _, rfl⟩
      rw [hx] at e1 e2
      obtain ⟨⟨m1, m2⟩, m3⟩ := HMEM.out u v (mem_of (by omega) hx)
      have HO1 := Lib.hid (o_is (ax := u) (ay := v) (bx := ax) (by_ := ay) (cx := bx) (cy := by_) true m1)
      have HO2 := Lib.hid (o_is (ax := u) (ay := v) (bx := cx) (by_ := cy) (cx := dx) (cy := dy) true m2)
      have hcase : ∃ r1 r2 r3 r4 : Bool, (r1 && r2 && r3 && r4) = false ∧ (∀ w, (binOp .neq 23 (.agg #[.int .i64 u, .int .i64 v]) (.agg #[.int .i64 ax, .int .i64 ay])).run Try.prog w = .ok (.bool r1) w) ∧ (∀ w, (binOp .neq 23 (.agg #[.int .i64 u, .int .i64 v]) (.agg #[.int .i64 bx, .int .i64 by_])).run Try.prog w = .ok (.bool r2) w) ∧ (∀ w, (binOp .neq 23 (.agg #[.int .i64 u, .int .i64 v]) (.agg #[.int .i64 cx, .int .i64 cy])).run Try.prog w = .ok (.bool r3) w) ∧ (∀ w, (binOp .neq 23 (.agg #[.int .i64 u, .int .i64 v]) (.agg #[.int .i64 dx, .int .i64 dy])).run Try.prog w = .ok (.bool r4) w) :=
        ⟨_, _, _, _, ends_four m3, tt2 _ _ _ _, tt2 _ _ _ _, tt2 _ _ _ _, tt2 _ _ _ _⟩
      clear hc hx m1 m2 m3
      go_upto_region 15 with fail
      go_cut [115] from 66 to 115 (fun t wx => t = .bool false ∧ Cls W2 wx)
      case first =>
        rcases hcase with ⟨r1, r2, r3, r4, hr, T1, T2, T3, T4⟩
        rcases r1 with _ | _
        · refine region_quiet_all (C := Cls W2) (by kernel_rfl) (by kernel_rfl) ⟨_, _, rfl⟩ ?_
          repeat (first | (refine qw_skip (by rfl) ?_; simp only [Act.put, List.setIfInBounds_toArray, List.set_cons_succ, List.set_cons_zero]) | (refine qw_want (by rfl) (fun K hK => ?_); go_simp; first | (refine hK _ ?_; clear hK K) | (apply Exists.intro; refine ⟨?_, hK _ ?_⟩; (rintro w3_ ⟨J3_, d3_, rfl⟩; first | (with_reducible exact rfl) | (go_simp; with_reducible exact rfl) | (go_simp; (first | (with_reducible refine (HO1.out _).mono ?_) | (with_reducible refine (HO2.out _).mono ?_)); rintro e_ w_ ⟨rfl, J4_, d4_, rfl⟩; exact ⟨rfl, J3_ ++ J4_, d4_, by simp only [plus_plus, Array.append_assoc]⟩)); clear hK K)))
          refine qw_nil ?_
          rintro w3 ⟨J8, d8, rfl⟩
          go_wp2_with fail
          go_meet
          case rel => exact ⟨rfl, _, _, rfl⟩
        rcases r2 with _ | _
        · refine region_quiet_all (C := Cls W2) (by kernel_rfl) (by kernel_rfl) ⟨_, _, rfl⟩ ?_
          repeat (first | (refine qw_skip (by rfl) ?_; simp only [Act.put, List.setIfInBounds_toArray, List.set_cons_succ, List.set_cons_zero]) | (refine qw_want (by rfl) (fun K hK => ?_); go_simp; first | (refine hK _ ?_; clear hK K) | (apply Exists.intro; refine ⟨?_, hK _ ?_⟩; (rintro w3_ ⟨J3_, d3_, rfl⟩; first | (with_reducible exact rfl) | (go_simp; with_reducible exact rfl) | (go_simp; (first | (with_reducible refine (HO1.out _).mono ?_) | (with_reducible refine (HO2.out _).mono ?_)); rintro e_ w_ ⟨rfl, J4_, d4_, rfl⟩; exact ⟨rfl, J3_ ++ J4_, d4_, by simp only [plus_plus, Array.append_assoc]⟩)); clear hK K)))
          refine qw_nil ?_
          rintro w3 ⟨J8, d8, rfl⟩
          go_wp2_with fail
          go_meet
          case rel => exact ⟨rfl, _, _, rfl⟩
        rcases r3 with _ | _
        · refine region_quiet_all (C := Cls W2) (by kernel_rfl) (by kernel_rfl) ⟨_, _, rfl⟩ ?_
          repeat (first | (refine qw_skip (by rfl) ?_; simp only [Act.put, List.setIfInBounds_toArray, List.set_cons_succ, List.set_cons_zero]) | (refine qw_want (by rfl) (fun K hK => ?_); go_simp; first | (refine hK _ ?_; clear hK K) | (apply Exists.intro; refine ⟨?_, hK _ ?_⟩; (rintro w3_ ⟨J3_, d3_, rfl⟩; first | (with_reducible exact rfl) | (go_simp; with_reducible exact rfl) | (go_simp; (first | (with_reducible refine (HO1.out _).mono ?_) | (with_reducible refine (HO2.out _).mono ?_)); rintro e_ w_ ⟨rfl, J4_, d4_, rfl⟩; exact ⟨rfl, J3_ ++ J4_, d4_, by simp only [plus_plus, Array.append_assoc]⟩)); clear hK K)))
          refine qw_nil ?_
          rintro w3 ⟨J8, d8, rfl⟩
          go_wp2_with fail
          go_meet
          case rel => exact ⟨rfl, _, _, rfl⟩
        rcases r4 with _ | _
        · refine region_quiet_all (C := Cls W2) (by kernel_rfl) (by kernel_rfl) ⟨_, _, rfl⟩ ?_
          repeat (first | (refine qw_skip (by rfl) ?_; simp only [Act.put, List.setIfInBounds_toArray, List.set_cons_succ, List.set_cons_zero]) | (refine qw_want (by rfl) (fun K hK => ?_); go_simp; first | (refine hK _ ?_; clear hK K) | (apply Exists.intro; refine ⟨?_, hK _ ?_⟩; (rintro w3_ ⟨J3_, d3_, rfl⟩; first | (with_reducible exact rfl) | (go_simp; with_reducible exact rfl) | (go_simp; (first | (with_reducible refine (HO1.out _).mono ?_) | (with_reducible refine (HO2.out _).mono ?_)); rintro e_ w_ ⟨rfl, J4_, d4_, rfl⟩; exact ⟨rfl, J3_ ++ J4_, d4_, by simp only [plus_plus, Array.append_assoc]⟩)); clear hK K)))
          refine qw_nil ?_
          rintro w3 ⟨J8, d8, rfl⟩
          go_wp2_with fail
          go_meet
          case rel => exact ⟨rfl, _, _, rfl⟩
        cases hr
      case rest =>
      obtain ⟨rfl, J7, d7, rfl⟩ := hcut
      go_wp2_with fail
      go_roundw
      case rel => exact ⟨k + 1, by go_num, by omega, _, _, rfl⟩
      case measure => simp [intOf]; omega
    · obtain rfl : k = n' := by omega
      go_upto_region 17 with fail
      obtain ⟨W3, hW3⟩ : ∃ W3, W2.plus J6 d6 = W3 := ⟨_, rfl⟩
      have hj4 : Below W2.heap.size W2 W3 := by rw [← hW3]; exact Junk.below ⟨_, _, rfl⟩
      have s00 := (World.cell?_of_block (a := ⟨w.heap.size, 0, none⟩) (hj4.block _ rb0)).trans r00
      have s01 := (World.cell?_of_block (a := ⟨w.heap.size, 1, none⟩) (hj4.block _ rb0)).trans r01
      have sb0 : w.heap.size < W3.heap.size := Nat.lt_of_lt_of_le rb0 hj4.size
      have s10 := (World.cell?_of_block (a := ⟨w.heap.size + 1, 0, none⟩) (hj4.block _ rb1)).trans r10
      have s11 := (World.cell?_of_block (a := ⟨w.heap.size + 1, 1, none⟩) (hj4.block _ rb1)).trans r11
      have sb1 : w.heap.size + 1 < W3.heap.size := Nat.lt_of_lt_of_le rb1 hj4.size
      have hj5 : Below w.heap.size w W3 := hj3.trans (hj4.mono hsz3)
      have hsz5 : w.heap.size ≤ W3.heap.size := hj5.size
      rw [hW3]
      clear hW3 r00 r01 r10 r11 r20 r21 r30 r31 rb0 rb1 rb2 rb3 hb0 hb1 hb2 hb3 hj hj2 hj3 hj4 hsz3
      go_region_held3 (fun w' => w'.cell? ⟨w.heap.size, 0, none⟩ = some (.int .i64 ax) ∧ w'.cell? ⟨w.heap.size, 1, none⟩ = some (.int .i64 ay) ∧ w'.cell? ⟨w.heap.size + 1, 0, none⟩ = some (.int .i64 bx) ∧ w'.cell? ⟨w.heap.size + 1, 1, none⟩ = some (.int .i64 by_)) (first | (refine ⟨?_, ?_, ?_, ?_⟩ <;> (simp [go_sem, *]; done))) (first
        | (go_simp; go_at_call 12; (with_reducible refine (HE1.out _).mono ?_); rintro e w1 ⟨⟨v, rfl, a9, n9, cap9, rfl, hr9, hl9⟩, J9, d9, rfl⟩; have R9 := Lib.hid hr9; clear hr9 hl9; go_simp)
        | (go_simp; go_at_call 11; refine (sp_is [(ax, ay), (bx, by_)] (by simp) _ _ _ _ _ _ _ (by first | (refine preads_alloc2 R9.out ?_; with_reducible rfl) | (refine preads_alloc2 R9.out ?_; rfl) | exact preads_heap R9.out rfl) (by refine preads_new2 ?_ ?_ ?_ ?_ <;> (simp [go_sem, *]; done))).mono ?_; rintro e w1 ⟨rfl, J10, d10, rfl⟩; go_simp))
      all_goals go_wp2
      all_goals go_ret
      all_goals exact ⟨rfl, junk_of_below (hj5.trans (by (repeat' (first | (with_reducible exact Below.refl _ _) | (with_reducible assumption) | (with_reducible refine Below.alloc ?_ ?_ _) | (with_reducible refine Below.drew ?_) | (with_reducible refine below_drewN ?_ _) | (with_reducible refine below_plus ?_ ?_ _ _) | (with_reducible refine Below.setCell ?_ ?_ _) | (with_reducible refine Below.setRow ?_ ?_ _) | go_size))))⟩
theorem l_crossEnds (w : World) (ax ay bx by_ cx cy dx dy : Int) : Calls Try.prog 5 #[pt ax ay, pt bx by_, pt cx cy, pt dx dy] w fun e w' => e = .returned (.bool true) ∧ Junk w w' := by
  cases h1 : mayQ (ax, ay) (bx, by_) with
  | false => exact ends1_not w ax ay bx by_ cx cy dx dy (by rw [h1]; rfl)
  | true =>
    cases h2 : mayQ (cx, cy) (dx, dy) with
    | false => exact ends1_not w ax ay bx by_ cx cy dx dy (by rw [h1, h2]; rfl)
    | true => exact ends1_in w ax ay bx by_ cx cy dx dy h1 h2
end Go.Proofs.Ytlhknnjnccjgfaa

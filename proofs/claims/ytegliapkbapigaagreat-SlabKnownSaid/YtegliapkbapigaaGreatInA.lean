/- Contracts of apportionref10: Counts, Crossings, In. -/
import Derived.Test.YtegliapkbapigaaGreatRiMath
import Derived.Test.YtegliapkbapigaaGreatKitTwo
import Derived.Test.YtegliapkbapigaaGreatPtOne
import Derived.Test.YtegliapkbapigaaGreatPtU
import Derived.Test.YtegliapkbapigaaGreatKitOne
namespace Go.Proofs.YtegliapkbapigaaGreat
set_option linter.unusedVariables false
set_option linter.unusedSimpArgs false
open Go.RowKit

theorem le_true {a b : Int} (h : a ≤ b) : decide (a ≤ b) = true := decide_eq_true h
set_option maxRecDepth 100000 in
set_option maxHeartbeats 1000000 in
theorem r_inCounts (px py ax ay bx by_ : Int) (w : World) : Calls Tryz.prog 62 #[pt px py, pt ax ay, pt bx by_] w fun e w' => e = .returned (.bool (countC (px, py) (ax, ay) (bx, by_))) ∧ Junk w w' := by
  unfold countC upC turnC
  simp only
  by_cases h0 : by_ < ay
  · rw [if_pos h0]
    have HT := Lib.hid (fun w' => r_ptTurn bx by_ ax ay px py w')
    generalize turnF bx by_ ax ay px py = t at *
    unfold pt at *
    by_cases h1 : by_ ≤ py
    · by_cases h2 : py < ay
      · rw [decide_eq_true h1, decide_eq_true h2, Bool.true_and, Bool.true_and]
        by_cases h3 : t = 1
        · subst h3
          go_enter Tryz.func62, Tryz.ntmps62
          go_wp2_with (go_at_call 78; (with_reducible refine (HT.out _).mono ?_); rintro e w1 ⟨rfl, J1, d1, rfl⟩)
          go_ret
          exact ⟨rfl, junk_of_below (by (repeat' (first | (with_reducible exact Below.refl _ _) | (with_reducible assumption) | (with_reducible refine Below.alloc ?_ ?_ _) | (with_reducible refine Below.drew ?_) | (with_reducible refine below_drewN ?_ _) | (with_reducible refine below_plus ?_ ?_ _ _) | (with_reducible refine Below.setCell ?_ ?_ _) | (with_reducible refine Below.setRow ?_ ?_ _) | go_size)))⟩
        · have e3 : (t == 1) = false := by rw [beq_eq_false_iff_ne]; exact h3
          rw [decide_eq_false h3]
          clear h3
          go_enter Tryz.func62, Tryz.ntmps62
          go_wp2_with (go_at_call 78; (with_reducible refine (HT.out _).mono ?_); rintro e w1 ⟨rfl, J1, d1, rfl⟩)
          go_ret
          exact ⟨rfl, junk_of_below (by (repeat' (first | (with_reducible exact Below.refl _ _) | (with_reducible assumption) | (with_reducible refine Below.alloc ?_ ?_ _) | (with_reducible refine Below.drew ?_) | (with_reducible refine below_drewN ?_ _) | (with_reducible refine below_plus ?_ ?_ _ _) | (with_reducible refine Below.setCell ?_ ?_ _) | (with_reducible refine Below.setRow ?_ ?_ _) | go_size)))⟩
      · rw [decide_eq_false h2, Bool.and_false, Bool.false_and]
        go_enter Tryz.func62, Tryz.ntmps62
        go_wp2_with fail
        go_ret
        exact ⟨rfl, junk_of_below (by (repeat' (first | (with_reducible exact Below.refl _ _) | (with_reducible assumption) | (with_reducible refine Below.alloc ?_ ?_ _) | (with_reducible refine Below.drew ?_) | (with_reducible refine below_drewN ?_ _) | (with_reducible refine below_plus ?_ ?_ _ _) | (with_reducible refine Below.setCell ?_ ?_ _) | (with_reducible refine Below.setRow ?_ ?_ _) | go_size)))⟩
    · rw [decide_eq_false h1, Bool.false_and, Bool.false_and]
      go_enter Tryz.func62, Tryz.ntmps62
      go_wp2_with fail
      go_ret
      exact ⟨rfl, junk_of_below (by (repeat' (first | (with_reducible exact Below.refl _ _) | (with_reducible assumption) | (with_reducible refine Below.alloc ?_ ?_ _) | (with_reducible refine Below.drew ?_) | (with_reducible refine below_drewN ?_ _) | (with_reducible refine below_plus ?_ ?_ _ _) | (with_reducible refine Below.setCell ?_ ?_ _) | (with_reducible refine Below.setRow ?_ ?_ _) | go_size)))⟩
  · rw [if_neg h0]
    have HT := Lib.hid (fun w' => r_ptTurn ax ay bx by_ px py w')
    generalize turnF ax ay bx by_ px py = t at *
    unfold pt at *
    by_cases h1 : ay ≤ py
    · by_cases h2 : py < by_
      · rw [decide_eq_true h1, decide_eq_true h2, Bool.true_and, Bool.true_and]
        by_cases h3 : t = 1
        · subst h3
          go_enter Tryz.func62, Tryz.ntmps62
          go_wp2_with (go_at_call 78; (with_reducible refine (HT.out _).mono ?_); rintro e w1 ⟨rfl, J1, d1, rfl⟩)
          go_ret
          exact ⟨rfl, junk_of_below (by (repeat' (first | (with_reducible exact Below.refl _ _) | (with_reducible assumption) | (with_reducible refine Below.alloc ?_ ?_ _) | (with_reducible refine Below.drew ?_) | (with_reducible refine below_drewN ?_ _) | (with_reducible refine below_plus ?_ ?_ _ _) | (with_reducible refine Below.setCell ?_ ?_ _) | (with_reducible refine Below.setRow ?_ ?_ _) | go_size)))⟩
        · have e3 : (t == 1) = false := by rw [beq_eq_false_iff_ne]; exact h3
          rw [decide_eq_false h3]
          clear h3
          go_enter Tryz.func62, Tryz.ntmps62
          go_wp2_with (go_at_call 78; (with_reducible refine (HT.out _).mono ?_); rintro e w1 ⟨rfl, J1, d1, rfl⟩)
          go_ret
          exact ⟨rfl, junk_of_below (by (repeat' (first | (with_reducible exact Below.refl _ _) | (with_reducible assumption) | (with_reducible refine Below.alloc ?_ ?_ _) | (with_reducible refine Below.drew ?_) | (with_reducible refine below_drewN ?_ _) | (with_reducible refine below_plus ?_ ?_ _ _) | (with_reducible refine Below.setCell ?_ ?_ _) | (with_reducible refine Below.setRow ?_ ?_ _) | go_size)))⟩
      · rw [decide_eq_false h2, Bool.and_false, Bool.false_and]
        go_enter Tryz.func62, Tryz.ntmps62
        go_wp2_with fail
        go_ret
        exact ⟨rfl, junk_of_below (by (repeat' (first | (with_reducible exact Below.refl _ _) | (with_reducible assumption) | (with_reducible refine Below.alloc ?_ ?_ _) | (with_reducible refine Below.drew ?_) | (with_reducible refine below_drewN ?_ _) | (with_reducible refine below_plus ?_ ?_ _ _) | (with_reducible refine Below.setCell ?_ ?_ _) | (with_reducible refine Below.setRow ?_ ?_ _) | go_size)))⟩
    · rw [decide_eq_false h1, Bool.false_and, Bool.false_and]
      go_enter Tryz.func62, Tryz.ntmps62
      go_wp2_with fail
      go_ret
      exact ⟨rfl, junk_of_below (by (repeat' (first | (with_reducible exact Below.refl _ _) | (with_reducible assumption) | (with_reducible refine Below.alloc ?_ ?_ _) | (with_reducible refine Below.drew ?_) | (with_reducible refine below_drewN ?_ _) | (with_reducible refine below_plus ?_ ?_ _ _) | (with_reducible refine Below.setCell ?_ ?_ _) | (with_reducible refine Below.setRow ?_ ?_ _) | go_size)))⟩

def CrAt (W : World) (p : Pt) (K : List Pt) (x y : Value) (wr : World) : Prop := ∃ k : Nat, y = .int .i64 (k : Int) ∧ x = .int .i64 (crossK p K k : Nat) ∧ k ≤ K.length ∧ Cls W wr
theorem crossK_le (p : Pt) (K : List Pt) : ∀ k, crossK p K k ≤ k
  | 0 => Nat.le_refl _
  | k + 1 => by
    have := crossK_le p K k
    show crossK p K k + oneN _ ≤ _
    unfold oneN; split <;> omega
set_option maxRecDepth 100000 in
set_option maxHeartbeats 2000000 in
theorem r_inCross (px py : Int) (w : World) (a : Option Addr) (n ca : Nat) (K : List Pt) (hK : PReads w a n K) (hs : n ≤ 4611686018427387903) :
    Calls Tryz.prog 41 #[pt px py, .slice a n ca] w fun e w' => e = .returned (.int .i64 (crossN (px, py) K : Nat)) ∧ Junk w w' := by
  have L1 := Lib.hid hK.1
  have HK := Lib.hid hK.2
  rw [← cross_all]
  unfold pt
  clear hK
  go_enter Tryz.func41, Tryz.ntmps41
  go_wp2_with fail
  obtain ⟨W, hW⟩ : ∃ W, w.alloc (.cells #[.int .i64 px, .int .i64 py] 40) = W := ⟨_, rfl⟩
  have c0 : W.cell? ⟨w.heap.size, 0, none⟩ = some (.int .i64 px) := by rw [← hW]; simp [go_sem]
  have c1 : W.cell? ⟨w.heap.size, 1, none⟩ = some (.int .i64 py) := by rw [← hW]; simp [go_sem]
  have hb0 : w.heap.size < W.heap.size := by rw [← hW]; simp
  have hj : Below w.heap.size w W := by rw [← hW]; (repeat' (first | (with_reducible exact Below.refl _ _) | (with_reducible assumption) | (with_reducible refine Below.alloc ?_ ?_ _) | (with_reducible refine Below.drew ?_) | (with_reducible refine below_drewN ?_ _) | (with_reducible refine below_plus ?_ ?_ _ _) | (with_reducible refine Below.setCell ?_ ?_ _) | (with_reducible refine Below.setRow ?_ ?_ _) | go_size))
  rw [hW]
  clear hW
  go_loopw [5, 6] (fun x y wr => CrAt W (px, py) K x y wr) (fun _ y _ => n - (intOf y).toNat)
  case atStart => exact ⟨0, rfl, rfl, by omega, #[], _, (plus_nil _).symm⟩
  case round =>
    obtain ⟨k, rfl, rfl, k1, J, d, rfl⟩ := hrel
    rw [L1.out] at k1
    have hck := crossK_le (px, py) K k
    by_cases hlt : k < n
    · rcases HK.out with h | ⟨b, o, rfl, hc⟩
      · omega
      obtain ⟨j, hjn, ej⟩ : ∃ j : Nat, j < n ∧ (k + 1) % n = j := ⟨_, Nat.mod_lt _ (by omega), rfl⟩
      obtain ⟨p1, p2⟩ := hc k hlt
      obtain ⟨p3, p4⟩ := hc j hjn
      have hN : crossK (px, py) K (k + 1) = crossK (px, py) K k + oneN (countC (px, py) (K.getD k (0, 0)) (K.getD j (0, 0))) := by rw [← ej, ← L1.out]; rfl
      obtain ⟨u, v, hx⟩ : ∃ u v : Int, K.getD k (0, 0) = (u, v) := ⟨_, _, rfl⟩
      obtain ⟨x, y, hy⟩ : ∃ x y : Int, K.getD j (0, 0) = (x, y) := ⟨_, _, rfl⟩
      rw [hx] at p1 p2 hN
      rw [hy] at p3 p4 hN
      simp only at p1 p2 p3 p4
      have hb : b < w.heap.size := World.block_lt_of_cell? _ _ p1
      have s1 := (World.cell?_of_block (hj.block _ hb)).trans p1
      have s2 := (World.cell?_of_block (hj.block _ hb)).trans p2
      have s3 := (World.cell?_of_block (hj.block _ hb)).trans p3
      have s4 := (World.cell?_of_block (hj.block _ hb)).trans p4
      have hbW : b < W.heap.size := by have := hj.size; omega
      have HC := Lib.hid (fun w' => r_inCounts px py u v x y w')
      unfold pt at HC
      generalize countC (px, py) (u, v) (x, y) = c at *
      have i1 : (k : Int) < (n : Int) := by omega
      have i2 : (j : Int) < (n : Int) := by omega
      have e3 : ((k : Int) + 1) % (n : Int) = (j : Int) := by rw [← ej]; push_cast; rfl
      have w1 : IntKind.i64.wrap ((k : Int) + 1) = (k : Int) + 1 := by simp [IntKind.wrap, IntKind.signed, IntKind.bits]; omega
      have w2 : ((k : Int) + 1).tmod (n : Int) = (j : Int) := by rw [Int.tmod_eq_emod_of_nonneg (by omega)]; exact e3
      have w3 : ¬ n = 0 := by omega
      have HNN := Lib.hid hN
      clear hc hx hy hN p1 p2 p3 p4 ej
      generalize crossK (px, py) K k = q at *
      cases c with
      | true =>
        go_upto_region 5 with fail
        refine region_quiet_all (C := Cls W) (by kernel_rfl) (by kernel_rfl) ⟨_, _, rfl⟩ ?_
        repeat (first | (refine qw_skip (by rfl) ?_; simp only [Act.put, List.setIfInBounds_toArray, List.set_cons_succ, List.set_cons_zero]) | (refine qw_want (by rfl) (fun K hK => ?_); go_simp; first | (refine hK _ ?_; clear hK K) | (apply Exists.intro; refine ⟨?_, hK _ ?_⟩; (rintro w3_ ⟨J3_, d3_, rfl⟩; first | (with_reducible exact rfl) | (go_simp; with_reducible exact rfl) | (go_simp; (first | (with_reducible refine (HC.out _).mono ?_)); rintro e_ w_ ⟨rfl, J4_, d4_, rfl⟩; exact ⟨rfl, J3_ ++ J4_, d4_, by simp only [plus_plus, Array.append_assoc]⟩)); clear hK K)))
        refine qw_nil ?_
        rintro w4 ⟨J3, d3, rfl⟩
        go_wp2_with fail
        go_roundw
        case rel => exact ⟨k + 1, by go_num, by rw [HNN.out]; show _ = Value.int .i64 ((q + 1 : Nat) : Int); go_num, by rw [L1.out]; omega, _, _, rfl⟩
        case measure => simp [intOf]; omega
      | false =>
        go_upto_region 5 with fail
        refine region_quiet_all (C := Cls W) (by kernel_rfl) (by kernel_rfl) ⟨_, _, rfl⟩ ?_
        repeat (first | (refine qw_skip (by rfl) ?_; simp only [Act.put, List.setIfInBounds_toArray, List.set_cons_succ, List.set_cons_zero]) | (refine qw_want (by rfl) (fun K hK => ?_); go_simp; first | (refine hK _ ?_; clear hK K) | (apply Exists.intro; refine ⟨?_, hK _ ?_⟩; (rintro w3_ ⟨J3_, d3_, rfl⟩; first | (with_reducible exact rfl) | (go_simp; with_reducible exact rfl) | (go_simp; (first | (with_reducible refine (HC.out _).mono ?_)); rintro e_ w_ ⟨rfl, J4_, d4_, rfl⟩; exact ⟨rfl, J3_ ++ J4_, d4_, by simp only [plus_plus, Array.append_assoc]⟩)); clear hK K)))
        refine qw_nil ?_
        rintro w4 ⟨J3, d3, rfl⟩
        go_wp2_with fail
        go_roundw
        case rel => exact ⟨k + 1, by go_num, by rw [HNN.out]; rfl, by rw [L1.out]; omega, _, _, rfl⟩
        case measure => simp [intOf]; omega
    · obtain rfl : k = n := by omega
      have HE := Lib.hid (show crossK (px, py) K k = crossK (px, py) K K.length by rw [L1.out])
      go_wp2_with fail
      go_ret
      exact ⟨by rw [HE.out]; rfl, junk_of_below (hj.trans ((Junk.below ⟨_, _, rfl⟩).mono hj.size))⟩
set_option maxRecDepth 100000 in
theorem r_inIn (px py : Int) (w : World) (a : Option Addr) (n ca : Nat) (K : List Pt) (hK : PReads w a n K) (hs : n ≤ 4611686018427387903) :
    Calls Tryz.prog 38 #[pt px py, .slice a n ca] w fun e w' => e = .returned (.bool (inQ (px, py) K)) ∧ Junk w w' := by
  have HC := Lib.hid (fun w' (h : PReads w' a n K) => r_inCross px py w' a n ca K h hs)
  have HP := Lib.hid hK
  have hle := cross_le (px, py) K
  rw [hK.1] at hle
  unfold inQ
  generalize crossN (px, py) K = q at *
  unfold pt at *
  have e1 : ((q : Int)).tmod 2 = ((q % 2 : Nat) : Int) := by rw [Int.tmod_eq_emod_of_nonneg (by omega)]; omega
  clear hK
  rcases Nat.mod_two_eq_zero_or_one q with h | h
  · rw [decide_eq_false (by omega)]
    rw [h] at e1
    have e2 : ((q : Int)) % 2 = 0 := by omega
    go_enter Tryz.func38, Tryz.ntmps38
    go_wp2_with (go_at_call 41; refine (HC.out _ (HP.out.below (by (repeat' (first | (with_reducible exact Below.refl _ _) | (with_reducible assumption) | (with_reducible refine Below.alloc ?_ ?_ _) | (with_reducible refine Below.drew ?_) | (with_reducible refine below_drewN ?_ _) | (with_reducible refine below_plus ?_ ?_ _ _) | (with_reducible refine Below.setCell ?_ ?_ _) | (with_reducible refine Below.setRow ?_ ?_ _) | go_size))))).mono ?_; rintro e w1 ⟨rfl, J1, d1, rfl⟩)
    go_ret
    exact ⟨rfl, junk_of_below (by (repeat' (first | (with_reducible exact Below.refl _ _) | (with_reducible assumption) | (with_reducible refine Below.alloc ?_ ?_ _) | (with_reducible refine Below.drew ?_) | (with_reducible refine below_drewN ?_ _) | (with_reducible refine below_plus ?_ ?_ _ _) | (with_reducible refine Below.setCell ?_ ?_ _) | (with_reducible refine Below.setRow ?_ ?_ _) | go_size)))⟩
  · rw [decide_eq_true h]
    rw [h] at e1
    have e2 : ((q : Int)) % 2 = 1 := by omega
    go_enter Tryz.func38, Tryz.ntmps38
    go_wp2_with (go_at_call 41; refine (HC.out _ (HP.out.below (by (repeat' (first | (with_reducible exact Below.refl _ _) | (with_reducible assumption) | (with_reducible refine Below.alloc ?_ ?_ _) | (with_reducible refine Below.drew ?_) | (with_reducible refine below_drewN ?_ _) | (with_reducible refine below_plus ?_ ?_ _ _) | (with_reducible refine Below.setCell ?_ ?_ _) | (with_reducible refine Below.setRow ?_ ?_ _) | go_size))))).mono ?_; rintro e w1 ⟨rfl, J1, d1, rfl⟩)
    go_ret
    exact ⟨rfl, junk_of_below (by (repeat' (first | (with_reducible exact Below.refl _ _) | (with_reducible assumption) | (with_reducible refine Below.alloc ?_ ?_ _) | (with_reducible refine Below.drew ?_) | (with_reducible refine below_drewN ?_ _) | (with_reducible refine below_plus ?_ ?_ _ _) | (with_reducible refine Below.setCell ?_ ?_ _) | (with_reducible refine Below.setRow ?_ ?_ _) | go_size)))⟩
end Go.Proofs.YtegliapkbapigaaGreat

/- Contracts of apportionref09: at, twice, least, back. Contract of apportionref09.back. Contract of apportionref09.meets. Contract of apportionref09.Check. Contracts of apportionref09: Sign, Turned, From, Normal. Contract of apportionref09.From. Contract of apportionref09.Normal. Contract of apportionref09.Same. -/
import Derived.Test.YtegliapkbapigaaGreatRiMath
import Derived.Test.YtegliapkbapigaaGreatKitTwo
import Derived.Test.YtegliapkbapigaaGreatPtOne
import Derived.Test.YtegliapkbapigaaGreatPtJ
import Derived.Test.YtegliapkbapigaaGreatKitOne
import Derived.Deep.RegionHeld3
import Derived.Test.YtegliapkbapigaaGreatCrFive
namespace Go.Proofs.YtegliapkbapigaaGreat
section
set_option linter.unusedVariables false
set_option linter.unusedSimpArgs false
open Go.RowKit

/-- A point as a value. -/
def ptv (p : Pt) : Value := pt p.1 p.2
/-- An index taken round the list. -/
theorem round_at {K : List Pt} {n : Nat} (hl : K.length = n) (h0 : 0 < n) (i : Int) : ∃ (t : Int) (k : Nat), i.tmod (n : Int) = t ∧ -(n : Int) < t ∧ t < (n : Int) ∧ (t + (n : Int)).tmod (n : Int) = (k : Int) ∧ (t + (n : Int)) % (n : Int) = (k : Int) ∧ k < n ∧ K.getD k (0, 0) = cyc K i ∧ (k : Int) = i % (n : Int) := by
  subst hl
  have a1 := Int.lt_tmod_of_pos i (b := (K.length : Int)) (by omega)
  have a2 := Int.tmod_lt_of_pos i (b := (K.length : Int)) (by omega)
  have e : (i.tmod (K.length : Int) + (K.length : Int)) % (K.length : Int) = i % (K.length : Int) := by
    rw [Int.add_emod_right]
    have := Int.mul_tdiv_add_tmod i (K.length : Int)
    conv => rhs; rw [← this]
    rw [Int.mul_add_emod_self_left]
  have b1 := Int.emod_nonneg i (b := (K.length : Int)) (by omega)
  have b2 := Int.emod_lt_of_pos i (b := (K.length : Int)) (by omega)
  refine ⟨_, (i % (K.length : Int)).toNat, rfl, a1, a2, ?_, by rw [e]; omega, by omega, rfl, by omega⟩
  rw [Int.tmod_eq_emod_of_nonneg (by omega), e]; omega
set_option maxRecDepth 100000 in
set_option maxHeartbeats 1000000 in
theorem r_rgAt (w : World) (a : Option Addr) (n ca : Nat) (K : List Pt) (hK : PReads w a n K) (h0 : 0 < n) (hs : n ≤ 4611686018427387903) (i : Int) :
    Calls Tryz.prog 77 #[.slice a n ca, .int .i64 i] w fun e w' => e = .returned (ptv (cyc K i)) ∧ Junk w w' := by
  obtain ⟨t, k, e1, b1, b2, e2, e3, b3, hx, e5⟩ := round_at hK.1 h0 i
  rcases hK.2 with h | ⟨b, o, rfl, hc⟩
  · omega
  obtain ⟨p1, p2⟩ := hc k b3
  rw [hx] at p1 p2
  unfold ptv pt
  generalize cyc K i = p at *
  obtain ⟨u, v⟩ := p
  simp only at p1 p2 ⊢
  have hb : b < w.heap.size := World.block_lt_of_cell? _ _ p1
  have n0 : ((n : Int) == 0) = false := by rw [beq_eq_false_iff_ne]; omega
  have i2 : (k : Int) < (n : Int) := by omega
  have t0 : 0 ≤ t + (n : Int) := by omega
  have e6 : i % (n : Int) = (k : Int) := e5.symm
  have e7 : t % (n : Int) = (k : Int) := by rw [← e3, Int.add_emod_right]
  clear e5
  clear hK hc hx
  go_enter Tryz.func77, Tryz.ntmps77
  go_wp2
  refine bodyPost_ret (results_pt1 rfl _ _ w.heap.size #[.int .i64 u, .int .i64 v] rfl (by simp [go_sem]) rfl) rfl ⟨rfl, junk_of_below (by (repeat' (first | (with_reducible exact Below.refl _ _) | (with_reducible assumption) | (with_reducible refine Below.alloc ?_ ?_ _) | (with_reducible refine Below.drew ?_) | (with_reducible refine below_drewN ?_ _) | (with_reducible refine below_plus ?_ ?_ _ _) | (with_reducible refine Below.setCell ?_ ?_ _) | (with_reducible refine Below.setRow ?_ ?_ _) | go_size)))⟩

theorem not_take {K : List Pt} {i : Nat} (hi : i < K.length) (h : ∀ j, j < i → K.getD j (0, 0) ≠ K.getD i (0, 0)) : twiceAt K i = false := (twice_iff hi).2 h
theorem take_hit {K : List Pt} {i k : Nat} (hi : i < K.length) (hk : k < i) (h : K.getD k (0, 0) = K.getD i (0, 0)) : twiceAt K i = true := by
  cases e : twiceAt K i with
  | true => rfl
  | false => exact absurd h ((twice_iff hi).1 e k hk)
def TwAt (W : World) (K : List Pt) (i : Nat) (x : Value) (wr : World) : Prop := ∃ k : Nat, x = .int .i64 (k : Int) ∧ k ≤ i ∧ (∀ j, j < k → K.getD j (0, 0) ≠ K.getD i (0, 0)) ∧ Cls W wr
set_option maxRecDepth 100000 in
set_option maxHeartbeats 2000000 in
theorem r_rgTwice (W : World) (a : Option Addr) (n ca : Nat) (K : List Pt) (hK : PReads W a n K) (hs : n ≤ 4611686018427387903) (i : Nat) (hi : i < n) :
    Calls Tryz.prog 55 #[.slice a n ca, .int .i64 (i : Int)] W fun e w' => e = .returned (.bool (twiceAt K i)) ∧ Junk W w' := by
  have l1 := hK.1
  rcases hK.2 with h | ⟨b, o, rfl, hc⟩
  · omega
  have HC := Lib.hid hc
  obtain ⟨p1, p2⟩ := hc i hi
  obtain ⟨u, v, hx⟩ : ∃ u v : Int, (K.getD i (0, 0)) = (u, v) := ⟨_, _, rfl⟩
  rw [hx] at p1 p2
  have HX := Lib.hid hx
  have hb : b < W.heap.size := World.block_lt_of_cell? _ _ p1
  have i3 : (i : Int) < (n : Int) := by omega
  have L1 := Lib.hid l1
  obtain ⟨R, hR⟩ : ∃ R, twiceAt K i = R := ⟨_, rfl⟩
  rw [hR]
  have HR := Lib.hid hR
  clear hK hc hR hx l1
  go_enter Tryz.func55, Tryz.ntmps55
  go_wp2_with fail
  go_loopw [5] (fun x wr => TwAt W K i x wr) (fun x _ => i - (intOf x).toNat)
  case atStart => exact ⟨0, rfl, by omega, fun j hj => by omega, #[], _, (plus_nil _).symm⟩
  case round =>
    obtain ⟨k, rfl, k1, hk, J, d, rfl⟩ := hrel
    by_cases hlt : k < i
    · obtain ⟨q1, q2⟩ := HC.out k (by omega)
      have i1 : (k : Int) < (i : Int) := by omega
      have i2 : (k : Int) < (n : Int) := by omega
      obtain ⟨x, y, hy⟩ : ∃ x y : Int, (K.getD k (0, 0)) = (x, y) := ⟨_, _, rfl⟩
      rw [hy] at q1 q2
      have HY := Lib.hid hy
      have HK1 := Lib.hid hk
      clear hy hk
      by_cases h5 : x = u
      · subst h5
        by_cases h6 : y = v
        · subst h6
          have HN := Lib.hid (take_hit (by rw [L1.out]; exact hi) hlt (HY.out.trans HX.out.symm))
          go_upto_region 4 with fail
          refine region_quiet_all (C := Cls W) (by kernel_rfl) (by kernel_rfl) ⟨_, _, rfl⟩ ?_
          repeat (first | (refine qw_skip (by rfl) ?_; simp only [Act.put, List.setIfInBounds_toArray, List.set_cons_succ, List.set_cons_zero]) | (refine qw_want (by rfl) (fun K hK => ?_); go_simp; first | (refine hK _ ?_; clear hK K) | (apply Exists.intro; refine ⟨?_, hK _ ?_⟩; (rintro w3_ ⟨J3_, d3_, rfl⟩; first | (with_reducible exact rfl) | (go_simp; with_reducible exact rfl) | (go_simp; (first | (with_reducible refine (HX.out _).mono ?_)); rintro e_ w_ ⟨rfl, J4_, d4_, rfl⟩; exact ⟨rfl, J3_ ++ J4_, d4_, by simp only [plus_plus, Array.append_assoc]⟩)); clear hK K)))
          refine qw_nil ?_
          rintro w3 ⟨J3, d3, rfl⟩
          go_wp2_with fail
          go_ret
          exact ⟨congrArg (fun z => Ending.returned (.bool z)) (HN.out.symm.trans HR.out), junk_of_below (by (repeat' (first | (with_reducible exact Below.refl _ _) | (with_reducible assumption) | (with_reducible refine Below.alloc ?_ ?_ _) | (with_reducible refine Below.drew ?_) | (with_reducible refine below_drewN ?_ _) | (with_reducible refine below_plus ?_ ?_ _ _) | (with_reducible refine Below.setCell ?_ ?_ _) | (with_reducible refine Below.setRow ?_ ?_ _) | go_size)))⟩
        · have e2 : (y == v) = false := by rw [beq_eq_false_iff_ne]; exact h6
          have HN := Lib.hid (show ∀ j, j < k + 1 → K.getD j (0, 0) ≠ K.getD i (0, 0) from fun j hj => by
            by_cases hjk : j = k
            · subst hjk; rw [HY.out, HX.out]; intro e; injection e with _ e; exact h6 e
            · exact HK1.out j (by omega))
          clear h6
          go_upto_region 4 with fail
          refine region_quiet_all (C := Cls W) (by kernel_rfl) (by kernel_rfl) ⟨_, _, rfl⟩ ?_
          repeat (first | (refine qw_skip (by rfl) ?_; simp only [Act.put, List.setIfInBounds_toArray, List.set_cons_succ, List.set_cons_zero]) | (refine qw_want (by rfl) (fun K hK => ?_); go_simp; first | (refine hK _ ?_; clear hK K) | (apply Exists.intro; refine ⟨?_, hK _ ?_⟩; (rintro w3_ ⟨J3_, d3_, rfl⟩; first | (with_reducible exact rfl) | (go_simp; with_reducible exact rfl) | (go_simp; (first | (with_reducible refine (HX.out _).mono ?_)); rintro e_ w_ ⟨rfl, J4_, d4_, rfl⟩; exact ⟨rfl, J3_ ++ J4_, d4_, by simp only [plus_plus, Array.append_assoc]⟩)); clear hK K)))
          refine qw_nil ?_
          rintro w3 ⟨J3, d3, rfl⟩
          go_wp2_with fail
          go_roundw
          case rel => exact ⟨k + 1, by go_num, by omega, HN.out, _, _, rfl⟩
          case measure => simp [intOf]; omega
      · have e2 : (x == u) = false := by rw [beq_eq_false_iff_ne]; exact h5
        have HN := Lib.hid (show ∀ j, j < k + 1 → K.getD j (0, 0) ≠ K.getD i (0, 0) from fun j hj => by
          by_cases hjk : j = k
          · subst hjk; rw [HY.out, HX.out]; intro e; injection e with e _; exact h5 e
          · exact HK1.out j (by omega))
        clear h5
        go_upto_region 4 with fail
        refine region_quiet_all (C := Cls W) (by kernel_rfl) (by kernel_rfl) ⟨_, _, rfl⟩ ?_
        repeat (first | (refine qw_skip (by rfl) ?_; simp only [Act.put, List.setIfInBounds_toArray, List.set_cons_succ, List.set_cons_zero]) | (refine qw_want (by rfl) (fun K hK => ?_); go_simp; first | (refine hK _ ?_; clear hK K) | (apply Exists.intro; refine ⟨?_, hK _ ?_⟩; (rintro w3_ ⟨J3_, d3_, rfl⟩; first | (with_reducible exact rfl) | (go_simp; with_reducible exact rfl) | (go_simp; (first | (with_reducible refine (HX.out _).mono ?_)); rintro e_ w_ ⟨rfl, J4_, d4_, rfl⟩; exact ⟨rfl, J3_ ++ J4_, d4_, by simp only [plus_plus, Array.append_assoc]⟩)); clear hK K)))
        refine qw_nil ?_
        rintro w3 ⟨J3, d3, rfl⟩
        go_wp2_with fail
        go_roundw
        case rel => exact ⟨k + 1, by go_num, by omega, HN.out, _, _, rfl⟩
        case measure => simp [intOf]; omega
    · obtain rfl : k = i := by omega
      have HE := Lib.hid (show R = false by rw [← HR.out]; exact not_take (by rw [L1.out]; exact hi) hk)
      clear hk
      go_wp2_with fail
      go_ret
      exact ⟨congrArg (fun z => Ending.returned (.bool z)) HE.out.symm, junk_of_below (by (repeat' (first | (with_reducible exact Below.refl _ _) | (with_reducible assumption) | (with_reducible refine Below.alloc ?_ ?_ _) | (with_reducible refine Below.drew ?_) | (with_reducible refine below_drewN ?_ _) | (with_reducible refine below_plus ?_ ?_ _ _) | (with_reducible refine Below.setCell ?_ ?_ _) | (with_reducible refine Below.setRow ?_ ?_ _) | go_size)))⟩

def LsAt (W : World) (K : List Pt) (x y : Value) (wr : World) : Prop := ∃ k : Nat, x = .int .i64 (k : Int) ∧ y = .int .i64 (leastN K k : Nat) ∧ k ≤ K.length ∧ Cls W wr
end

section
set_option linter.unusedVariables false
set_option linter.unusedSimpArgs false
open Go.RowKit

def ThreeAt (w : World) (p q r : Pt) (x y z : Value) (wx : World) : Prop :=
  ∃ g k l, x = .pointer (some ⟨g, 0, none⟩) ∧ y = .pointer (some ⟨k, 0, none⟩) ∧ z = .pointer (some ⟨l, 0, none⟩) ∧ wx.cell? ⟨g, 0, none⟩ = some (.int .i64 p.1) ∧ wx.cell? ⟨g, 1, none⟩ = some (.int .i64 p.2) ∧
    wx.cell? ⟨k, 0, none⟩ = some (.int .i64 q.1) ∧ wx.cell? ⟨k, 1, none⟩ = some (.int .i64 q.2) ∧ wx.cell? ⟨l, 0, none⟩ = some (.int .i64 r.1) ∧ wx.cell? ⟨l, 1, none⟩ = some (.int .i64 r.2) ∧ Below w.heap.size w wx
set_option maxRecDepth 100000 in
set_option maxHeartbeats 8000000 in
theorem r_rgBack (w : World) (a : Option Addr) (n ca : Nat) (K : List Pt) (hK : PReads w a n K) (hs : n ≤ 4611686018427387903) (i : Nat) (hi : i < n) :
    Calls Tryz.prog 56 #[.slice a n ca, .int .i64 (i : Int)] w fun e w' => e = .returned (.bool (backAt K i)) ∧ Junk w w' := by
  have HA1 := Lib.hid (fun (w' : World) (h : PReads w' a n K) => r_rgAt w' a n ca K h (by omega) hs ((i : Int) - 1))
  have HA2 := Lib.hid (fun (w' : World) (h : PReads w' a n K) => r_rgAt w' a n ca K h (by omega) hs ((i : Int) + 1))
  have HP := Lib.hid hK
  rcases hK.2 with h | ⟨b, o, rfl, hc⟩
  · omega
  obtain ⟨p1, p2⟩ := hc i hi
  unfold backAt backC turnC onC
  generalize cyc K ((i : Int) - 1) = p at *
  generalize cyc K ((i : Int) + 1) = r at *
  generalize K.getD i (0, 0) = q at *
  obtain ⟨px, py⟩ := p
  obtain ⟨qx, qy⟩ := q
  obtain ⟨rx, ry⟩ := r
  simp only at p1 p2 ⊢
  have HT := Lib.hid (fun w' => r_ptTurn px py qx qy rx ry w')
  have HO := Lib.hid (fun w' => r_ptOn qx qy px py rx ry w')
  generalize turnF px py qx qy rx ry = t at *
  generalize onB qx qy px py rx ry = v at *
  obtain ⟨R, hR⟩ : ∃ R, (decide (t = 0) && !v) = R := ⟨_, rfl⟩
  rw [hR]
  have HR := Lib.hid hR
  clear hR
  unfold ptv at *
  simp only at HA1 HA2
  unfold pt at *
  have hb : b < w.heap.size := World.block_lt_of_cell? _ _ p1
  have i2 : (i : Int) < (n : Int) := by omega
  have s1 : IntKind.i64.wrap ((i : Int) - 1) = (i : Int) - 1 := by simp [IntKind.wrap, IntKind.signed, IntKind.bits]; omega
  have s2 : IntKind.i64.wrap ((i : Int) + 1) = (i : Int) + 1 := by simp [IntKind.wrap, IntKind.signed, IntKind.bits]; omega
  clear hK hc
  go_enter Tryz.func56, Tryz.ntmps56
  go_upto_region 1 with fail
  go_cut [5, 6, 7] from 5 to 19 (fun x y z wx => ThreeAt w (px, py) (qx, qy) (rx, ry) x y z wx)
  case first =>
    go_region_held3 (fun w' => w'.cell? ⟨b, o + i * 2, none⟩ = some (.int .i64 qx) ∧ w'.cell? ⟨b, o + i * 2 + 1, none⟩ = some (.int .i64 qy)) (first | (refine ⟨?_, ?_⟩ <;> (simp [go_sem, *]; done))) (first
      | (go_simp; go_at_call 77; (with_reducible refine (HA1.out _ (HP.out.below (by (repeat' (first | (with_reducible exact Below.refl _ _) | (with_reducible assumption) | (with_reducible refine Below.alloc ?_ ?_ _) | (with_reducible refine Below.drew ?_) | (with_reducible refine below_drewN ?_ _) | (with_reducible refine below_plus ?_ ?_ _ _) | (with_reducible refine Below.setCell ?_ ?_ _) | (with_reducible refine Below.setRow ?_ ?_ _) | go_size))))).mono ?_); rintro e w1 ⟨rfl, J1, d1, rfl⟩; go_simp)
      | (go_simp; go_at_call 77; (with_reducible refine (HA2.out _ (HP.out.below (by (repeat' (first | (with_reducible exact Below.refl _ _) | (with_reducible assumption) | (with_reducible refine Below.alloc ?_ ?_ _) | (with_reducible refine Below.drew ?_) | (with_reducible refine below_drewN ?_ _) | (with_reducible refine below_plus ?_ ?_ _ _) | (with_reducible refine Below.setCell ?_ ?_ _) | (with_reducible refine Below.setRow ?_ ?_ _) | go_size))))).mono ?_); rintro e w1 ⟨rfl, J2, d2, rfl⟩; go_simp))
    all_goals
      go_wp2_with fail
      go_meet
      case rel => exact ⟨_, _, _, rfl, rfl, rfl, by simp [go_sem], by simp [go_sem], by simp [go_sem], by simp [go_sem], by simp [go_sem], by simp [go_sem], by (repeat' (first | (with_reducible exact Below.refl _ _) | (with_reducible assumption) | (with_reducible refine Below.alloc ?_ ?_ _) | (with_reducible refine Below.drew ?_) | (with_reducible refine below_drewN ?_ _) | (with_reducible refine below_plus ?_ ?_ _ _) | (with_reducible refine Below.setCell ?_ ?_ _) | (with_reducible refine Below.setRow ?_ ?_ _) | go_size))⟩
  case rest =>
  obtain ⟨g, k, l, rfl, rfl, rfl, a0, a1, b0, b1, c0, c1, hj⟩ := hcut
  have gb := World.block_lt_of_cell? _ _ a0
  have kb := World.block_lt_of_cell? _ _ b0
  have lb := World.block_lt_of_cell? _ _ c0
  have hszc := hj.size
  simp only at gb kb lb a0 a1 b0 b1 c0 c1
  have HJ := Lib.hid hj
  clear hj p1 p2
  by_cases ht : t = 0
  · subst ht
    have HE := Lib.hid (show R = !v by rw [← HR.out, decide_eq_true rfl, Bool.true_and])
    go_wp2_with (first | (go_at_call 78; (with_reducible refine (HT.out _).mono ?_); rintro e w1 ⟨rfl, J1, d1, rfl⟩) | (go_at_call 79; (with_reducible refine (HO.out _).mono ?_); rintro e w1 ⟨rfl, J2, d2, rfl⟩))
    go_ret
    exact ⟨congrArg (fun z => Ending.returned (.bool z)) HE.out.symm, junk_of_below (HJ.out.trans (by (repeat' (first | (with_reducible exact Below.refl _ _) | (with_reducible assumption) | (with_reducible refine Below.alloc ?_ ?_ _) | (with_reducible refine Below.drew ?_) | (with_reducible refine below_drewN ?_ _) | (with_reducible refine below_plus ?_ ?_ _ _) | (with_reducible refine Below.setCell ?_ ?_ _) | (with_reducible refine Below.setRow ?_ ?_ _) | go_size))))⟩
  · have HE := Lib.hid (show R = false by rw [← HR.out, decide_eq_false ht, Bool.false_and])
    have e1 : (t == 0) = false := by rw [beq_eq_false_iff_ne]; exact ht
    go_wp2_with (first | (go_at_call 78; (with_reducible refine (HT.out _).mono ?_); rintro e w1 ⟨rfl, J1, d1, rfl⟩) | (go_at_call 79; (with_reducible refine (HO.out _).mono ?_); rintro e w1 ⟨rfl, J2, d2, rfl⟩))
    go_ret
    exact ⟨congrArg (fun z => Ending.returned (.bool z)) HE.out.symm, junk_of_below (HJ.out.trans (by (repeat' (first | (with_reducible exact Below.refl _ _) | (with_reducible assumption) | (with_reducible refine Below.alloc ?_ ?_ _) | (with_reducible refine Below.drew ?_) | (with_reducible refine below_drewN ?_ _) | (with_reducible refine below_plus ?_ ?_ _ _) | (with_reducible refine Below.setCell ?_ ?_ _) | (with_reducible refine Below.setRow ?_ ?_ _) | go_size))))⟩
end

section
set_option linter.unusedVariables false
set_option linter.unusedSimpArgs false
open Go.RowKit

theorem meets_not {K : List Pt} {i : Nat} (h : ∀ k, i + 2 ≤ k → k < K.length → meetTwo K i k = false) : meetsAt K i = false := by
  unfold meetsAt
  rw [List.any_eq_false]
  intro k hk
  rw [List.mem_range] at hk
  by_cases h1 : i + 2 ≤ k
  · rw [h k h1 hk]; simp
  · rw [decide_eq_false h1]; simp
theorem meets_hit {K : List Pt} {i k : Nat} (h1 : i + 2 ≤ k) (hk : k < K.length) (h : meetTwo K i k = true) : meetsAt K i = true := by
  unfold meetsAt
  rw [List.any_eq_true]
  exact ⟨k, by simpa using hk, by rw [h, decide_eq_true h1]; rfl⟩
def MtAt (W : World) (K : List Pt) (i : Nat) (x : Value) (wr : World) : Prop := ∃ k : Nat, x = .int .i64 (k : Int) ∧ i + 2 ≤ k ∧ (k ≤ K.length ∨ k = i + 2) ∧ (∀ j, i + 2 ≤ j → j < k → meetTwo K i j = false) ∧ Cls W wr
set_option maxRecDepth 100000 in
set_option maxHeartbeats 4000000 in
theorem r_rgMeets (W : World) (a : Option Addr) (n ca : Nat) (K : List Pt) (hK : PReads W a n K) (hs : n ≤ 4611686018427387903) (i : Nat) (hi : i < n) :
    Calls Tryz.prog 57 #[.slice a n ca, .int .i64 (i : Int)] W fun e w' => e = .returned (.bool (meetsAt K i)) ∧ Junk W w' := by
  have l1 := hK.1
  have HA := Lib.hid (fun (j : Int) (J : Array Obj) (d : Nat) => r_rgAt (W.plus J d) a n ca K (hK.below (Junk.below ⟨_, _, rfl⟩)) (by omega) hs j)
  rcases hK.2 with h | ⟨b, o, rfl, hc⟩
  · omega
  have HC := Lib.hid hc
  obtain ⟨p1, p2⟩ := hc i hi
  obtain ⟨px, py, hx⟩ : ∃ u v : Int, (K.getD i (0, 0)) = (u, v) := ⟨_, _, rfl⟩
  rw [hx] at p1 p2
  have HX := Lib.hid hx
  have hb : b < W.heap.size := World.block_lt_of_cell? _ _ p1
  have i3 : (i : Int) < (n : Int) := by omega
  have s1 : IntKind.i64.wrap ((i : Int) + 1) = (i : Int) + 1 := by simp [IntKind.wrap, IntKind.signed, IntKind.bits]; omega
  have L1 := Lib.hid l1
  obtain ⟨R, hR⟩ : ∃ R, meetsAt K i = R := ⟨_, rfl⟩
  rw [hR]
  have HR := Lib.hid hR
  have HA1 := Lib.hid (HA.out ((i : Int) + 1))
  obtain ⟨⟨qx, qy⟩, hq⟩ : ∃ q, cyc K ((i : Int) + 1) = q := ⟨_, rfl⟩
  rw [hq] at HA1
  unfold ptv pt at HA1
  simp only at HA1
  have HQ := Lib.hid hq
  clear hK hc hR hx l1 hq
  go_enter Tryz.func57, Tryz.ntmps57
  go_wp2_with fail
  go_loopw [5] (fun x wr => MtAt W K i x wr) (fun x _ => n - (intOf x).toNat)
  case atStart => exact ⟨i + 2, by go_num, by omega, .inr rfl, fun j h1 h2 => by omega, #[], _, (plus_nil _).symm⟩
  case round =>
    obtain ⟨k, rfl, k0, k1, hk, J, d, rfl⟩ := hrel
    rw [L1.out] at k1
    by_cases hlt : k < n
    · have i1 : (k : Int) < (n : Int) := by omega
      have HK1 := Lib.hid hk
      clear hk
      have hxx : ∀ r : Bool, meetTwo K i k = r → r = false → ∀ j, i + 2 ≤ j → j < k + 1 → meetTwo K i j = false := by
        intro r h1 h2 j h3 h4
        by_cases hjk : j = k
        · subst hjk; rw [h1, h2]
        · exact HK1.out j h3 (by omega)
      have HXX := Lib.hid hxx
      clear hxx
      by_cases hskip : i = 0 ∧ k = n - 1
      · obtain ⟨rfl, hkn⟩ := hskip
        have HN := Lib.hid (HXX.out _ rfl (show meetTwo K 0 k = false from by unfold meetTwo; rw [L1.out, decide_eq_true ⟨rfl, hkn⟩]; rfl))
        have e2 : ((k : Int) == (n : Int) - 1) = true := by rw [beq_iff_eq]; omega
        go_wp2_with fail
        go_roundw
        case rel => exact ⟨k + 1, by go_num, by omega, .inl (by rw [L1.out]; omega), HN.out, _, _, rfl⟩
        case measure => simp [intOf]; omega
      · obtain ⟨q1, q2⟩ := HC.out k hlt
        obtain ⟨x, y, hy⟩ : ∃ x y : Int, (K.getD k (0, 0)) = (x, y) := ⟨_, _, rfl⟩
        rw [hy] at q1 q2
        have HA2 := Lib.hid (HA.out ((k : Int) + 1))
        obtain ⟨⟨zx, zy⟩, hz⟩ : ∃ q, cyc K ((k : Int) + 1) = q := ⟨_, rfl⟩
        rw [hz] at HA2
        unfold ptv pt at HA2
        simp only at HA2
        have s2 : IntKind.i64.wrap ((k : Int) + 1) = (k : Int) + 1 := by simp [IntKind.wrap, IntKind.signed, IntKind.bits]; omega
        have HM := Lib.hid (fun w' => r_crMeets w' px py qx qy x y zx zy)
        have hmt : meetTwo K i k = !decide (meetQ (px, py) (qx, qy) (x, y) (zx, zy) = 0) := by
          unfold meetTwo
          rw [L1.out, decide_eq_false hskip, HX.out, HQ.out, hy, hz]; rfl
        generalize meetQ (px, py) (qx, qy) (x, y) (zx, zy) = r at *
        have HMT := Lib.hid hmt
        unfold pt at HM
        have hsk : (((i : Int) == 0) = true ∧ ((k : Int) == (n : Int) - 1) = false) ∨ ((i : Int) == 0) = false := by
          by_cases h : i = 0
          · left; exact ⟨by rw [beq_iff_eq]; omega, by rw [beq_eq_false_iff_ne]; omega⟩
          · right; rw [beq_eq_false_iff_ne]; omega
        clear hy hz hmt hskip
        by_cases h5 : r = 0
        · subst h5
          have HN := Lib.hid (HXX.out _ HMT.out (by simp))
          rcases hsk with ⟨e1, e2⟩ | e2
          all_goals
            go_upto_region 5 with fail
            refine region_quiet_all (C := Cls W) (by kernel_rfl) (by kernel_rfl) ⟨_, _, rfl⟩ ?_
            repeat (first | (refine qw_skip (by rfl) ?_; simp only [Act.put, List.setIfInBounds_toArray, List.set_cons_succ, List.set_cons_zero]) | (refine qw_want (by rfl) (fun K hK => ?_); go_simp; first | (refine hK _ ?_; clear hK K) | (apply Exists.intro; refine ⟨?_, hK _ ?_⟩; (rintro w3_ ⟨J3_, d3_, rfl⟩; first | (with_reducible exact rfl) | (go_simp; with_reducible exact rfl) | (go_simp; (first | (with_reducible refine (HA1.out _ _).mono ?_) | (with_reducible refine (HA2.out _ _).mono ?_) | (with_reducible refine (HM.out _).mono ?_)); rintro e_ w_ ⟨rfl, J4_, d4_, rfl⟩; exact ⟨rfl, J3_ ++ J4_, d4_, by simp only [plus_plus, Array.append_assoc]⟩)); clear hK K)))
            refine qw_nil ?_
            rintro w3 ⟨J3, d3, rfl⟩
            go_wp2_with fail
            go_roundw
            case rel => exact ⟨k + 1, by go_num, by omega, .inl (by rw [L1.out]; omega), HN.out, _, _, rfl⟩
            case measure => simp [intOf]; omega
        · have e5 : (r == 0) = false := by rw [beq_eq_false_iff_ne]; exact h5
          have HN := Lib.hid (show R = true by rw [← HR.out]; exact meets_hit k0 (by rw [L1.out]; exact hlt) (by rw [HMT.out, decide_eq_false h5]; rfl))
          clear h5
          rcases hsk with ⟨e1, e2⟩ | e2
          all_goals
            go_upto_region 5 with fail
            refine region_quiet_all (C := Cls W) (by kernel_rfl) (by kernel_rfl) ⟨_, _, rfl⟩ ?_
            repeat (first | (refine qw_skip (by rfl) ?_; simp only [Act.put, List.setIfInBounds_toArray, List.set_cons_succ, List.set_cons_zero]) | (refine qw_want (by rfl) (fun K hK => ?_); go_simp; first | (refine hK _ ?_; clear hK K) | (apply Exists.intro; refine ⟨?_, hK _ ?_⟩; (rintro w3_ ⟨J3_, d3_, rfl⟩; first | (with_reducible exact rfl) | (go_simp; with_reducible exact rfl) | (go_simp; (first | (with_reducible refine (HA1.out _ _).mono ?_) | (with_reducible refine (HA2.out _ _).mono ?_) | (with_reducible refine (HM.out _).mono ?_)); rintro e_ w_ ⟨rfl, J4_, d4_, rfl⟩; exact ⟨rfl, J3_ ++ J4_, d4_, by simp only [plus_plus, Array.append_assoc]⟩)); clear hK K)))
            refine qw_nil ?_
            rintro w3 ⟨J3, d3, rfl⟩
            go_wp2_with fail
            go_ret
            exact ⟨congrArg (fun z => Ending.returned (.bool z)) HN.out.symm, junk_of_below (by (repeat' (first | (with_reducible exact Below.refl _ _) | (with_reducible assumption) | (with_reducible refine Below.alloc ?_ ?_ _) | (with_reducible refine Below.drew ?_) | (with_reducible refine below_drewN ?_ _) | (with_reducible refine below_plus ?_ ?_ _ _) | (with_reducible refine Below.setCell ?_ ?_ _) | (with_reducible refine Below.setRow ?_ ?_ _) | go_size)))⟩
    · have HE := Lib.hid (show R = false by rw [← HR.out]; exact meets_not (fun j h1 h2 => hk j h1 (by rw [L1.out] at h2; omega)))
      have i1 : ¬ (k : Int) < (n : Int) := by omega
      clear hk
      go_wp2_with fail
      go_ret
      exact ⟨congrArg (fun z => Ending.returned (.bool z)) HE.out.symm, junk_of_below (by (repeat' (first | (with_reducible exact Below.refl _ _) | (with_reducible assumption) | (with_reducible refine Below.alloc ?_ ?_ _) | (with_reducible refine Below.drew ?_) | (with_reducible refine below_drewN ?_ _) | (with_reducible refine below_plus ?_ ?_ _ _) | (with_reducible refine Below.setCell ?_ ?_ _) | (with_reducible refine Below.setRow ?_ ?_ _) | go_size)))⟩
end

section
set_option linter.unusedVariables false
set_option linter.unusedSimpArgs false
open Go.RowKit

theorem results_flt {fn : Func} {p : Tmp} (h : fn.results = #[.cell p 32]) (tmps : Array Value) (w : World) (g : Nat) (c : Array Value)
    (hp : tmps.getD p undef = .pointer (some ⟨g, 0, none⟩)) (hr : w.rowAt g = some c) (hc : c.size = 2) : (results fn tmps).run Tryz.prog w = .ok (.agg c) w := by
  obtain ⟨ty, hg⟩ := rowAt_some hr
  have hp' : tmps[p]?.getD undef = .pointer (some ⟨g, 0, none⟩) := by simpa using hp
  simp [results, h, hp', asAddr, run_loadVar_row w g ty _ c (0, 0) _ hg Tryz.underlying32 rfl (by rw [hc]; kernel_rfl)]
/-- A fault as a value. -/
def fltV (r : Int × Nat) : Value := .agg #[.int .i64 r.1, .int .i64 (r.2 : Int)]
theorem first_some {f : Nat → Bool} {n k : Nat} (hk : k < n) (h : f k = true) (hn : ∀ j, j < k → f j = false) : firstQ f n = some k := by
  unfold firstQ
  rw [List.find?_range_eq_some]
  exact ⟨h, by simpa using hk, fun j hj => by rw [hn j hj]; rfl⟩
def F0 (K : List Pt) (i : Nat) : Bool := !okC (K.getD i (0, 0))
def F1 (K : List Pt) (i : Nat) : Bool := twiceAt K i
def F2 (K : List Pt) (i : Nat) : Bool := backAt K i
def F3 (K : List Pt) (i : Nat) : Bool := meetsAt K i
def Good (K : List Pt) : Prop := ¬ 200 < K.length ∧ ¬ K.length < 3
theorem check_0 {K : List Pt} {k : Nat} (g : Good K) (h : firstQ (F0 K) K.length = some k) : checkF K = (2, k) := by
  unfold checkF; rw [if_neg g.1, if_neg g.2]
  show orFault (firstQ (F0 K) K.length) _ _ = _
  rw [h]; rfl
theorem check_1 {K : List Pt} {k : Nat} (g : Good K) (h0 : firstQ (F0 K) K.length = none) (h : firstQ (F1 K) K.length = some k) : checkF K = (191, k) := by
  unfold checkF; rw [if_neg g.1, if_neg g.2]
  show orFault (firstQ (F0 K) K.length) _ (orFault (firstQ (F1 K) K.length) _ _) = _
  rw [h0, h]; rfl
theorem check_2 {K : List Pt} {k : Nat} (g : Good K) (h0 : firstQ (F0 K) K.length = none) (h1 : firstQ (F1 K) K.length = none) (h : firstQ (F2 K) K.length = some k) : checkF K = (192, k) := by
  unfold checkF; rw [if_neg g.1, if_neg g.2]
  show orFault (firstQ (F0 K) K.length) _ (orFault (firstQ (F1 K) K.length) _ (orFault (firstQ (F2 K) K.length) _ _)) = _
  rw [h0, h1, h]; rfl
theorem check_3 {K : List Pt} {k : Nat} (g : Good K) (h0 : firstQ (F0 K) K.length = none) (h1 : firstQ (F1 K) K.length = none) (h2 : firstQ (F2 K) K.length = none) (h : firstQ (F3 K) K.length = some k) : checkF K = (193, k) := by
  unfold checkF; rw [if_neg g.1, if_neg g.2]
  show orFault (firstQ (F0 K) K.length) _ (orFault (firstQ (F1 K) K.length) _ (orFault (firstQ (F2 K) K.length) _ (orFault (firstQ (F3 K) K.length) _ _))) = _
  rw [h0, h1, h2, h]; rfl
theorem check_none {K : List Pt} (g : Good K) (h0 : firstQ (F0 K) K.length = none) (h1 : firstQ (F1 K) K.length = none) (h2 : firstQ (F2 K) K.length = none) (h : firstQ (F3 K) K.length = none) : checkF K = (0, 0) := by
  unfold checkF; rw [if_neg g.1, if_neg g.2]
  show orFault (firstQ (F0 K) K.length) _ (orFault (firstQ (F1 K) K.length) _ (orFault (firstQ (F2 K) K.length) _ (orFault (firstQ (F3 K) K.length) _ _))) = _
  rw [h0, h1, h2, h]; rfl
def FsAt (W : World) (f : Nat → Bool) (K : List Pt) (x : Value) (wr : World) : Prop := ∃ k : Nat, x = .int .i64 (k : Int) ∧ k ≤ K.length ∧ (∀ j, j < k → f j = false) ∧ Cls W wr
set_option maxRecDepth 100000 in
set_option maxHeartbeats 4000000 in
theorem r_rgCheck (w : World) (a : Option Addr) (n ca : Nat) (K : List Pt) (hK : PReads w a n K) (hs : n ≤ 4611686018427387903) :
    Calls Tryz.prog 35 #[.slice a n ca] w fun e w' => e = .returned (fltV (checkF K)) ∧ Junk w w' := by
  have l1 := hK.1
  have L1 := Lib.hid l1
  obtain ⟨R, hR⟩ : ∃ R, checkF K = R := ⟨_, rfl⟩
  rw [hR]
  have HR := Lib.hid hR
  have HP := Lib.hid hK
  have HPK := Lib.hid hK.2
  by_cases h1 : 200 < n
  · have HE := Lib.hid (show R = (3, 0) by rw [← hR]; unfold checkF; rw [if_pos (by rw [l1]; exact h1)])
    have i1 : (200 : Int) < (n : Int) := by omega
    clear hK hR h1 l1
    go_enter Tryz.func35, Tryz.ntmps35
    go_wp2_with fail
    refine bodyPost_ret (results_flt rfl _ _ w.heap.size #[.int .i64 3, .int .i64 0] rfl (by simp [go_sem]) rfl) rfl ⟨congrArg Ending.returned (show _ = fltV R by rw [HE.out]; rfl), junk_of_below (by (repeat' (first | (with_reducible exact Below.refl _ _) | (with_reducible assumption) | (with_reducible refine Below.alloc ?_ ?_ _) | (with_reducible refine Below.drew ?_) | (with_reducible refine below_drewN ?_ _) | (with_reducible refine below_plus ?_ ?_ _ _) | (with_reducible refine Below.setCell ?_ ?_ _) | (with_reducible refine Below.setRow ?_ ?_ _) | go_size)))⟩
  by_cases h2 : n < 3
  · have HE := Lib.hid (show R = (190, 0) by rw [← hR]; unfold checkF; rw [if_neg (by rw [l1]; exact h1), if_pos (by rw [l1]; exact h2)])
    have i1 : (n : Int) < 3 := by omega
    have i2 : ¬ (200 : Int) < (n : Int) := by omega
    clear hK hR h1 h2 l1
    go_enter Tryz.func35, Tryz.ntmps35
    go_wp2_with fail
    refine bodyPost_ret (results_flt rfl _ _ w.heap.size #[.int .i64 190, .int .i64 0] rfl (by simp [go_sem]) rfl) rfl ⟨congrArg Ending.returned (show _ = fltV R by rw [HE.out]; rfl), junk_of_below (by (repeat' (first | (with_reducible exact Below.refl _ _) | (with_reducible assumption) | (with_reducible refine Below.alloc ?_ ?_ _) | (with_reducible refine Below.drew ?_) | (with_reducible refine below_drewN ?_ _) | (with_reducible refine below_plus ?_ ?_ _ _) | (with_reducible refine Below.setCell ?_ ?_ _) | (with_reducible refine Below.setRow ?_ ?_ _) | go_size)))⟩
  have HG := Lib.hid (show Good K from ⟨by rw [l1]; exact h1, by rw [l1]; exact h2⟩)
  have i1 : ¬ (n : Int) < 3 := by omega
  have i2 : ¬ (200 : Int) < (n : Int) := by omega
  clear hK hR h1 h2 l1
  go_enter Tryz.func35, Tryz.ntmps35
  go_wp2_with fail
  go_loopw [3] (fun x wr => FsAt (w.alloc (.cells #[.int .i64 0, .int .i64 0] 32)) (F0 K) K x wr) (fun x _ => n - (intOf x).toNat)
  case atStart => exact ⟨0, rfl, by omega, fun j hj => by omega, #[], _, (plus_nil _).symm⟩
  case round =>
    obtain ⟨q0, rfl, k1, hk, J0, d0, rfl⟩ := hrel
    rw [L1.out] at k1
    by_cases hlt : q0 < n
    · have i1 : (q0 : Int) < (n : Int) := by omega
      have HK1 := Lib.hid hk
      clear hk
      obtain ⟨v, hv⟩ : ∃ v, F0 K q0 = v := ⟨_, rfl⟩
      have HV := Lib.hid hv
      rcases HPK.out with h | ⟨b, o, rfl, hc⟩
      · omega
      obtain ⟨p1, p2⟩ := hc q0 hlt
      obtain ⟨x, y, hx⟩ : ∃ x y : Int, (K.getD q0 (0, 0)) = (x, y) := ⟨_, _, rfl⟩
      rw [hx] at p1 p2
      have hb : b < w.heap.size := World.block_lt_of_cell? _ _ p1
      have hvv : okP x y = !v := by rw [← hv]; unfold F0 okC; rw [hx, Bool.not_not]
      have HC := Lib.hid (fun w' => r_ptValid x y w')
      rw [hvv] at HC
      unfold pt at HC
      clear hc hx hvv hv
      cases v with
      | true =>
        have HN := Lib.hid (show R = (2, q0) by rw [← HR.out]; exact check_0 HG.out  (first_some (show _ < K.length by rw [L1.out]; exact hlt) HV.out HK1.out))
        go_wp2_with (go_at_call 54; (with_reducible refine (HC.out _).mono ?_); rintro e w1 ⟨rfl, J9, d9, rfl⟩)
        refine bodyPost_ret (results_flt rfl _ _ w.heap.size #[.int .i64 2, .int .i64 (q0 : Int)] rfl (by simp [go_sem]) rfl) rfl ⟨congrArg Ending.returned (show _ = fltV R by rw [HN.out]; rfl), junk_of_below (by (repeat' (first | (with_reducible exact Below.refl _ _) | (with_reducible assumption) | (with_reducible refine Below.alloc ?_ ?_ _) | (with_reducible refine Below.drew ?_) | (with_reducible refine below_drewN ?_ _) | (with_reducible refine below_plus ?_ ?_ _ _) | (with_reducible refine Below.setCell ?_ ?_ _) | (with_reducible refine Below.setRow ?_ ?_ _) | go_size)))⟩
      | false =>
        have HN := Lib.hid (show ∀ j, j < q0 + 1 → F0 K j = false from fun j hj => by
          by_cases hjk : j = q0
          · subst hjk; exact HV.out
          · exact HK1.out j (by omega))
        go_wp2_with (go_at_call 54; (with_reducible refine (HC.out _).mono ?_); rintro e w1 ⟨rfl, J9, d9, rfl⟩)
        go_roundw
        case rel => exact ⟨q0 + 1, by go_num, by rw [L1.out]; omega, HN.out, _, _, rfl⟩
        case measure => simp [intOf]; omega
    · obtain rfl : n = q0 := by omega
      have H0 := Lib.hid (first_none.2 (show ∀ j, j < K.length → F0 K j = false from fun j hj => hk j (by rw [← L1.out]; exact hj)))
      clear hk
      go_wp2_with fail
      go_loopw [4] (fun x wr => FsAt (w.alloc (.cells #[.int .i64 0, .int .i64 0] 32)) (F1 K) K x wr) (fun x _ => n - (intOf x).toNat)
      case atStart => exact ⟨0, rfl, by omega, fun j hj => by omega, _, _, rfl⟩
      case round =>
        obtain ⟨q1, rfl, k1, hk, J1, d1, rfl⟩ := hrel
        rw [L1.out] at k1
        by_cases hlt : q1 < n
        · have i1 : (q1 : Int) < (n : Int) := by omega
          have HK1 := Lib.hid hk
          clear hk
          obtain ⟨v, hv⟩ : ∃ v, F1 K q1 = v := ⟨_, rfl⟩
          have HV := Lib.hid hv
          have HC := Lib.hid (fun (w' : World) (h : PReads w' a n K) => r_rgTwice w' a n ca K h hs q1 hlt)
          rw [show twiceAt K q1 = v from hv] at HC
          clear hv
          cases v with
          | true =>
            have HN := Lib.hid (show R = (191, q1) by rw [← HR.out]; exact check_1 HG.out H0.out (first_some (show _ < K.length by rw [L1.out]; exact hlt) HV.out HK1.out))
            go_wp2_with (go_at_call 55; refine (HC.out _ (HP.out.below (by (repeat' (first | (with_reducible exact Below.refl _ _) | (with_reducible assumption) | (with_reducible refine Below.alloc ?_ ?_ _) | (with_reducible refine Below.drew ?_) | (with_reducible refine below_drewN ?_ _) | (with_reducible refine below_plus ?_ ?_ _ _) | (with_reducible refine Below.setCell ?_ ?_ _) | (with_reducible refine Below.setRow ?_ ?_ _) | go_size))))).mono ?_; rintro e w1 ⟨rfl, J9, d9, rfl⟩)
            refine bodyPost_ret (results_flt rfl _ _ w.heap.size #[.int .i64 191, .int .i64 (q1 : Int)] rfl (by simp [go_sem]) rfl) rfl ⟨congrArg Ending.returned (show _ = fltV R by rw [HN.out]; rfl), junk_of_below (by (repeat' (first | (with_reducible exact Below.refl _ _) | (with_reducible assumption) | (with_reducible refine Below.alloc ?_ ?_ _) | (with_reducible refine Below.drew ?_) | (with_reducible refine below_drewN ?_ _) | (with_reducible refine below_plus ?_ ?_ _ _) | (with_reducible refine Below.setCell ?_ ?_ _) | (with_reducible refine Below.setRow ?_ ?_ _) | go_size)))⟩
          | false =>
            have HN := Lib.hid (show ∀ j, j < q1 + 1 → F1 K j = false from fun j hj => by
              by_cases hjk : j = q1
              · subst hjk; exact HV.out
              · exact HK1.out j (by omega))
            go_wp2_with (go_at_call 55; refine (HC.out _ (HP.out.below (by (repeat' (first | (with_reducible exact Below.refl _ _) | (with_reducible assumption) | (with_reducible refine Below.alloc ?_ ?_ _) | (with_reducible refine Below.drew ?_) | (with_reducible refine below_drewN ?_ _) | (with_reducible refine below_plus ?_ ?_ _ _) | (with_reducible refine Below.setCell ?_ ?_ _) | (with_reducible refine Below.setRow ?_ ?_ _) | go_size))))).mono ?_; rintro e w1 ⟨rfl, J9, d9, rfl⟩)
            go_roundw
            case rel => exact ⟨q1 + 1, by go_num, by rw [L1.out]; omega, HN.out, _, _, rfl⟩
            case measure => simp [intOf]; omega
        · obtain rfl : n = q1 := by omega
          have H1 := Lib.hid (first_none.2 (show ∀ j, j < K.length → F1 K j = false from fun j hj => hk j (by rw [← L1.out]; exact hj)))
          clear hk
          go_wp2_with fail
          go_loopw [5] (fun x wr => FsAt (w.alloc (.cells #[.int .i64 0, .int .i64 0] 32)) (F2 K) K x wr) (fun x _ => n - (intOf x).toNat)
          case atStart => exact ⟨0, rfl, by omega, fun j hj => by omega, _, _, rfl⟩
          case round =>
            obtain ⟨q2, rfl, k1, hk, J2, d2, rfl⟩ := hrel
            rw [L1.out] at k1
            by_cases hlt : q2 < n
            · have i1 : (q2 : Int) < (n : Int) := by omega
              have HK1 := Lib.hid hk
              clear hk
              obtain ⟨v, hv⟩ : ∃ v, F2 K q2 = v := ⟨_, rfl⟩
              have HV := Lib.hid hv
              have HC := Lib.hid (fun (w' : World) (h : PReads w' a n K) => r_rgBack w' a n ca K h hs q2 hlt)
              rw [show backAt K q2 = v from hv] at HC
              clear hv
              cases v with
              | true =>
                have HN := Lib.hid (show R = (192, q2) by rw [← HR.out]; exact check_2 HG.out H0.out H1.out (first_some (show _ < K.length by rw [L1.out]; exact hlt) HV.out HK1.out))
                go_wp2_with (go_at_call 56; refine (HC.out _ (HP.out.below (by (repeat' (first | (with_reducible exact Below.refl _ _) | (with_reducible assumption) | (with_reducible refine Below.alloc ?_ ?_ _) | (with_reducible refine Below.drew ?_) | (with_reducible refine below_drewN ?_ _) | (with_reducible refine below_plus ?_ ?_ _ _) | (with_reducible refine Below.setCell ?_ ?_ _) | (with_reducible refine Below.setRow ?_ ?_ _) | go_size))))).mono ?_; rintro e w1 ⟨rfl, J9, d9, rfl⟩)
                refine bodyPost_ret (results_flt rfl _ _ w.heap.size #[.int .i64 192, .int .i64 (q2 : Int)] rfl (by simp [go_sem]) rfl) rfl ⟨congrArg Ending.returned (show _ = fltV R by rw [HN.out]; rfl), junk_of_below (by (repeat' (first | (with_reducible exact Below.refl _ _) | (with_reducible assumption) | (with_reducible refine Below.alloc ?_ ?_ _) | (with_reducible refine Below.drew ?_) | (with_reducible refine below_drewN ?_ _) | (with_reducible refine below_plus ?_ ?_ _ _) | (with_reducible refine Below.setCell ?_ ?_ _) | (with_reducible refine Below.setRow ?_ ?_ _) | go_size)))⟩
              | false =>
                have HN := Lib.hid (show ∀ j, j < q2 + 1 → F2 K j = false from fun j hj => by
                  by_cases hjk : j = q2
                  · subst hjk; exact HV.out
                  · exact HK1.out j (by omega))
                go_wp2_with (go_at_call 56; refine (HC.out _ (HP.out.below (by (repeat' (first | (with_reducible exact Below.refl _ _) | (with_reducible assumption) | (with_reducible refine Below.alloc ?_ ?_ _) | (with_reducible refine Below.drew ?_) | (with_reducible refine below_drewN ?_ _) | (with_reducible refine below_plus ?_ ?_ _ _) | (with_reducible refine Below.setCell ?_ ?_ _) | (with_reducible refine Below.setRow ?_ ?_ _) | go_size))))).mono ?_; rintro e w1 ⟨rfl, J9, d9, rfl⟩)
                go_roundw
                case rel => exact ⟨q2 + 1, by go_num, by rw [L1.out]; omega, HN.out, _, _, rfl⟩
                case measure => simp [intOf]; omega
            · obtain rfl : n = q2 := by omega
              have H2 := Lib.hid (first_none.2 (show ∀ j, j < K.length → F2 K j = false from fun j hj => hk j (by rw [← L1.out]; exact hj)))
              clear hk
              go_wp2_with fail
              go_loopw [6] (fun x wr => FsAt (w.alloc (.cells #[.int .i64 0, .int .i64 0] 32)) (F3 K) K x wr) (fun x _ => n - (intOf x).toNat)
              case atStart => exact ⟨0, rfl, by omega, fun j hj => by omega, _, _, rfl⟩
              case round =>
                obtain ⟨q3, rfl, k1, hk, J3, d3, rfl⟩ := hrel
                rw [L1.out] at k1
                by_cases hlt : q3 < n
                · have i1 : (q3 : Int) < (n : Int) := by omega
                  have HK1 := Lib.hid hk
                  clear hk
                  obtain ⟨v, hv⟩ : ∃ v, F3 K q3 = v := ⟨_, rfl⟩
                  have HV := Lib.hid hv
                  have HC := Lib.hid (fun (w' : World) (h : PReads w' a n K) => r_rgMeets w' a n ca K h hs q3 hlt)
                  rw [show meetsAt K q3 = v from hv] at HC
                  clear hv
                  cases v with
                  | true =>
                    have HN := Lib.hid (show R = (193, q3) by rw [← HR.out]; exact check_3 HG.out H0.out H1.out H2.out (first_some (show _ < K.length by rw [L1.out]; exact hlt) HV.out HK1.out))
                    go_wp2_with (go_at_call 57; refine (HC.out _ (HP.out.below (by (repeat' (first | (with_reducible exact Below.refl _ _) | (with_reducible assumption) | (with_reducible refine Below.alloc ?_ ?_ _) | (with_reducible refine Below.drew ?_) | (with_reducible refine below_drewN ?_ _) | (with_reducible refine below_plus ?_ ?_ _ _) | (with_reducible refine Below.setCell ?_ ?_ _) | (with_reducible refine Below.setRow ?_ ?_ _) | go_size))))).mono ?_; rintro e w1 ⟨rfl, J9, d9, rfl⟩)
                    refine bodyPost_ret (results_flt rfl _ _ w.heap.size #[.int .i64 193, .int .i64 (q3 : Int)] rfl (by simp [go_sem]) rfl) rfl ⟨congrArg Ending.returned (show _ = fltV R by rw [HN.out]; rfl), junk_of_below (by (repeat' (first | (with_reducible exact Below.refl _ _) | (with_reducible assumption) | (with_reducible refine Below.alloc ?_ ?_ _) | (with_reducible refine Below.drew ?_) | (with_reducible refine below_drewN ?_ _) | (with_reducible refine below_plus ?_ ?_ _ _) | (with_reducible refine Below.setCell ?_ ?_ _) | (with_reducible refine Below.setRow ?_ ?_ _) | go_size)))⟩
                  | false =>
                    have HN := Lib.hid (show ∀ j, j < q3 + 1 → F3 K j = false from fun j hj => by
                      by_cases hjk : j = q3
                      · subst hjk; exact HV.out
                      · exact HK1.out j (by omega))
                    go_wp2_with (go_at_call 57; refine (HC.out _ (HP.out.below (by (repeat' (first | (with_reducible exact Below.refl _ _) | (with_reducible assumption) | (with_reducible refine Below.alloc ?_ ?_ _) | (with_reducible refine Below.drew ?_) | (with_reducible refine below_drewN ?_ _) | (with_reducible refine below_plus ?_ ?_ _ _) | (with_reducible refine Below.setCell ?_ ?_ _) | (with_reducible refine Below.setRow ?_ ?_ _) | go_size))))).mono ?_; rintro e w1 ⟨rfl, J9, d9, rfl⟩)
                    go_roundw
                    case rel => exact ⟨q3 + 1, by go_num, by rw [L1.out]; omega, HN.out, _, _, rfl⟩
                    case measure => simp [intOf]; omega
                · obtain rfl : n = q3 := by omega
                  have H3 := Lib.hid (first_none.2 (show ∀ j, j < K.length → F3 K j = false from fun j hj => hk j (by rw [← L1.out]; exact hj)))
                  clear hk
                  go_wp2_with fail
                  refine bodyPost_ret (results_flt rfl _ _ w.heap.size #[.int .i64 0, .int .i64 0] rfl (by simp [go_sem]) rfl) rfl ⟨congrArg Ending.returned (show _ = fltV R by rw [← HR.out, check_none HG.out H0.out H1.out H2.out H3.out]; rfl), junk_of_below (by (repeat' (first | (with_reducible exact Below.refl _ _) | (with_reducible assumption) | (with_reducible refine Below.alloc ?_ ?_ _) | (with_reducible refine Below.drew ?_) | (with_reducible refine below_drewN ?_ _) | (with_reducible refine below_plus ?_ ?_ _ _) | (with_reducible refine Below.setCell ?_ ?_ _) | (with_reducible refine Below.setRow ?_ ?_ _) | go_size)))⟩
end

section
set_option linter.unusedVariables false
set_option linter.unusedSimpArgs false
open Go.RowKit

/-- The error of a fault. -/
theorem fld_err (x y : Value) (w : World) : (Instr.field 32 (.agg #[x, y]) 0).run Tryz.prog w = .ok x w := by kernel_rfl
theorem powns_base {w : World} {b1 b2 : Nat} {ty : TypeId} {size n : Nat} {v : Value} {xs : List Value} (h : w.ownsRow b1 ty size v n xs) (hb : b2 ≤ b1) : w.ownsRow b2 ty size v n xs := by
  obtain ⟨h1, h2⟩ := h
  refine ⟨h1, ?_⟩
  rcases h2 with h2 | ⟨g, cap, cur, hv, hg, hc, hr⟩
  · exact .inl h2
  · exact .inr ⟨g, cap, cur, hv, Nat.le_trans hb hg, hc, hr⟩
/-- A list of points in new memory. -/
def POwn (w w' : World) (v : Value) (L : List Pt) : Prop := w'.ownsRow w.heap.size 40 2 v L.length (pcells L)
def TnAt (W : World) (K : List Pt) (v i : Value) (wr : World) : Prop := ∃ k : Nat, i = .int .i64 ((K.length : Int) - 1 - (k : Int)) ∧ k ≤ K.length ∧ wr.ownsRow W.heap.size 40 2 v k (pcells (K.reverse.take k)) ∧ Below W.heap.size W wr
theorem take_next {L : List Pt} {k : Nat} {x : Pt} (hk : k < L.length) (h : L.getD k (0, 0) = x) : L.take (k + 1) = L.take k ++ [x] := by
  rw [List.getD_eq_getElem?_getD, List.getElem?_eq_getElem hk] at h
  simp at h
  rw [List.take_succ_eq_append_getElem hk, h]
theorem rev_at {K : List Pt} {k : Nat} (hk : k < K.length) : K.reverse.getD k (0, 0) = K.getD (K.length - 1 - k) (0, 0) := by
  rw [List.getD_eq_getElem?_getD, List.getD_eq_getElem?_getD, List.getElem?_reverse hk]
end

section
set_option linter.unusedVariables false
set_option linter.unusedSimpArgs false
open Go.RowKit

/-- Between two rounds: how many points there are, and the place. -/
def FrAt (W : World) (K : List Pt) (s : Int) (v x i : Value) (wr : World) : Prop := ∃ (k : Nat) (j : Int), x = .int .i64 (k : Int) ∧ i = .int .i64 j ∧ (k = 0 ∧ j = s ∨ 0 ≤ j ∧ j ≤ (K.length : Int) ∧ j % (K.length : Int) = (s + (k : Int)) % (K.length : Int)) ∧
  k ≤ K.length ∧ wr.ownsRow W.heap.size 40 2 v k (pcells ((rotF K s).take k)) ∧ Below W.heap.size W wr
end

section
set_option linter.unusedVariables false
set_option linter.unusedSimpArgs false
open Go.RowKit

theorem own_reads {W w' : World} {v : Value} {L : List Pt} (h : POwn W w' v L) : ∃ a cap, v = .slice a L.length cap ∧ PReads w' a L.length L := by
  obtain ⟨a', cap', e, hR⟩ := preads_of_owns h
  exact ⟨a', cap', e, hR⟩
theorem own_up {W w1 w2 w3 : World} {v : Value} {L : List Pt} (h : POwn w1 w2 v L) (hb : W.heap.size ≤ w1.heap.size) (e : w3 = w2) : POwn W w3 v L := by
  subst e; exact powns_base h hb
theorem preads_eqh {w1 w2 : World} {a : Option Addr} {n : Nat} {K : List Pt} (h : PReads w1 a n K) (e : w2 = w1) : PReads w2 a n K := by subst e; exact h
theorem preads_byp {w1 w2 : World} {J : Array Obj} {d : Nat} {a : Option Addr} {n : Nat} {K : List Pt} (h : PReads w1 a n K) (e : w2 = w1.plus J d) : PReads w2 a n K := by
  subst e; exact h.below (Junk.below ⟨_, _, rfl⟩)
theorem own_readn {W w' : World} {v : Value} {L : List Pt} {n : Nat} (hn : L.length = n) (h : POwn W w' v L) : ∃ a cap, v = .slice a n cap ∧ PReads w' a n L := by
  subst hn; exact own_reads h
theorem own_nil (W w' : World) : POwn W w' (.slice none 0 0) [] := pnil_owns _ _
end

section
set_option linter.unusedVariables false
set_option linter.unusedSimpArgs false
open Go.RowKit

open Classical in
/-- Are two rings the same? -/
noncomputable def sameB (K M : List Pt) : Bool := decide (SameF K M)
theorem same_true {K M : List Pt} : sameB K M = true ↔ SameF K M := by unfold sameB; simp
theorem same_false {K M : List Pt} : sameB K M = false ↔ ¬ SameF K M := by unfold sameB; simp
def seqM (M : List Pt) (t : Nat) : List Pt := if t = 1 then M.reverse else M
theorem same_len {K M : List Pt} (h : SameF K M) : K.length = M.length := by
  obtain ⟨_, _, s, rfl | rfl⟩ := h
  · exact rot_len _ _
  · rw [rot_len, List.length_reverse]
theorem rot_of {K M : List Pt} {i : Nat} (hl : K.length = M.length) : K = rotF M (i : Int) ↔ ∀ k, k < K.length → K.getD k (0, 0) = cyc M ((i : Int) + (k : Int)) := by
  constructor
  · intro h k hk
    conv => lhs; rw [h]
    rw [rot_getD (by omega)]
  · intro h
    refine list_cyc (by rw [rot_len, hl]) fun k hk => ?_
    rw [cyc_nat hk, rot_cyc]; exact h k hk
theorem rot_any {K M : List Pt} (hn : 0 < M.length) : (∃ s, K = rotF M s) ↔ ∃ i : Nat, i < M.length ∧ K = rotF M (i : Int) := by
  constructor
  · rintro ⟨s, h⟩
    obtain ⟨k, hk, _, hm⟩ := cyc_at (K := M) hn s
    exact ⟨k, hk, h.trans (rot_mod (by rw [hm, Int.emod_eq_of_lt (by omega) (by omega)]))⟩
  · rintro ⟨i, _, h⟩
    exact ⟨_, h⟩
theorem same_not {K M : List Pt} (hl : K.length = M.length) (h0 : ∀ i : Nat, i < K.length → K ≠ rotF M (i : Int)) (h1 : ∀ i : Nat, i < K.length → K ≠ rotF M.reverse (i : Int)) : sameB K M = false := by
  rw [same_false]
  rintro ⟨_, f, h⟩
  have hn : 0 < M.length := by have := f.few; omega
  rcases exists_or.1 h with h | h
  · obtain ⟨i, hi, e⟩ := (rot_any hn).1 h
    exact h0 i (by omega) e
  · obtain ⟨i, hi, e⟩ := (rot_any (by simpa using hn)).1 h
    exact h1 i (by simpa [hl] using hi) e
theorem same_hit {K M : List Pt} (h : fineQ K) (h2 : fineQ M) {t : Nat} (ht : t < 2) {i : Nat} (e : K = rotF (seqM M t) (i : Int)) : sameB K M = true := by
  rw [same_true]
  refine ⟨h, h2, (i : Int), ?_⟩
  unfold seqM at e
  split at e
  · exact .inr e
  · exact .inl e
def OutS (W : World) (K M : List Pt) (n : Nat) (x y : Value) (wr : World) : Prop := ∃ (t : Nat) (a' : Option Addr) (ca' : Nat), x = .int .i64 (t : Int) ∧ y = .slice a' n ca' ∧ t ≤ 2 ∧ PReads wr a' n (seqM M t) ∧
  (0 < t → ∀ i : Nat, i < K.length → K ≠ rotF M (i : Int)) ∧ (1 < t → ∀ i : Nat, i < K.length → K ≠ rotF M.reverse (i : Int)) ∧ Cls W wr
def MidS (W : World) (K M : List Pt) (x : Value) (wr : World) : Prop := ∃ i : Nat, x = .int .i64 (i : Int) ∧ i ≤ K.length ∧ (∀ j : Nat, j < i → K ≠ rotF M (j : Int)) ∧ Cls W wr
def InnS (W : World) (K M : List Pt) (i : Nat) (x y : Value) (wr : World) : Prop := ∃ (k : Nat) (s : Bool), x = .int .i64 (k : Int) ∧ y = .bool s ∧ k ≤ K.length ∧ (s = true → ∀ j : Nat, j < k → K.getD j (0, 0) = cyc M ((i : Int) + (j : Int))) ∧ (s = false → K ≠ rotF M (i : Int)) ∧ Cls W wr
theorem seq_len (M : List Pt) (t : Nat) : (seqM M t).length = M.length := by unfold seqM; split <;> simp
end
end Go.Proofs.YtegliapkbapigaaGreat

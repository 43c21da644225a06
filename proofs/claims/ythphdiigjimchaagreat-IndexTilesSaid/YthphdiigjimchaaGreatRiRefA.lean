/- Contracts of apportionref09: at, twice, least, back. Contract of apportionref09.back. -/
import Derived.Test.YthphdiigjimchaaGreatRiMath
import Derived.Test.YthphdiigjimchaaGreatKitTwo
import Derived.Test.YthphdiigjimchaaGreatPtOne
import Derived.Test.YthphdiigjimchaaGreatPtJ
import Derived.Test.YthphdiigjimchaaGreatKitOne
import Derived.Deep.RegionHeld3
namespace Go.Proofs.YthphdiigjimchaaGreat
section
set_option linter.unusedVariables false
set_option linter.unusedSimpArgs false
open Go.RowKit
def ptv (p : Pt) : Value := pt p.1 p.2
theorem round_at {K : List Pt} {n : Nat} (hl : K.length = n) (h0 : 0 < n) (i : Int) : ∃ (t : Int) (k : Nat), i.tmod (n : Int) = t ∧ -(n : Int) < t ∧ t < (n : Int) ∧ (t + (n : Int)).tmod (n : Int) = (k : Int) ∧ (t + (n : Int)) % (n : Int) = (k : Int) ∧ k < n ∧ K.getD k (0, 0) = cyc K i ∧ (k : Int) = i % (n : Int) := by
  subst hl
  have a1 := Int.lt_tmod_of_pos i (b := (K.length : Int)) (by omega)
  have a2 := Int.tmod_lt_of_pos i (b := (K.length : Int)) (by omega)
  have e : (i.tmod (K.length : Int) + (K.length : Int)) % (K.length : Int) = i % (K.length : Int) := by
    rw [Int.add_emod_right]
    have := Int.mul_tdiv_add_tmod i (K.length : Int)
    conv => rhs; rw [← this]
    rw [Int.mul_add_emod_self_left]
  have b1 := Int.emod_nonneg i (b := (K.length : Int)) (by omega)
  have b2 := Int.emod_lt_of_pos i (b := (K.length : Int)) (by omega)
  refine ⟨_, (i % (K.length : Int)).toNat, rfl, a1, a2, ?_, by rw [e]; omega, by omega, rfl, by omega⟩
  rw [Int.tmod_eq_emod_of_nonneg (by omega), e]; omega
set_option maxRecDepth 100000 in
set_option maxHeartbeats 1000000 in
theorem r_rgAt (w : World) (a : Option Addr) (n ca : Nat) (K : List Pt) (hK : PReads w a n K) (h0 : 0 < n) (hs : n ≤ 4611686018427387903) (i : Int) :
    Calls Tryz.prog 108 #[.slice a n ca, .int .i64 i] w fun e w' => e = .returned (ptv (cyc K i)) ∧ Junk w w' := by
  obtain ⟨t, k, e1, b1, b2, e2, e3, b3, hx, e5⟩ := round_at hK.1 h0 i
  rcases hK.2 with h | ⟨b, o, rfl, hc⟩
  · omega
  obtain ⟨p1, p2⟩ := hc k b3
  rw [hx] at p1 p2
  unfold ptv pt
  generalize cyc K i = p at *
  obtain ⟨u, v⟩ := p
  simp only at p1 p2 ⊢
  have hb : b < w.heap.size := World.block_lt_of_cell? _ _ p1
  have n0 : ((n : Int) == 0) = false := by rw [beq_eq_false_iff_ne]; omega
  have i2 : (k : Int) < (n : Int) := by omega
  have t0 : 0 ≤ t + (n : Int) := by omega
  have e6 : i % (n : Int) = (k : Int) := e5.symm
  have e7 : t % (n : Int) = (k : Int) := by rw [← e3, Int.add_emod_right]
  clear e5
  clear hK hc hx
  go_enter Tryz.func108, Tryz.ntmps108
  go_wp2
  refine bodyPost_ret (results_pt1 rfl _ _ w.heap.size #[.int .i64 u, .int .i64 v] rfl (by simp [go_sem]) rfl) rfl ⟨rfl, junk_of_below (by (repeat' first | with_reducible (first | apply Below.refl | assumption | apply bw_a | apply bw_d | apply bw_n | apply bw_p | apply bw_c | apply bw_r) | go_size))⟩
theorem not_take {K : List Pt} {i : Nat} (hi : i < K.length) (h : ∀ j, j < i → K.getD j (0, 0) ≠ K.getD i (0, 0)) : twiceAt K i = false := (twice_iff hi).2 h
theorem take_hit {K : List Pt} {i k : Nat} (hi : i < K.length) (hk : k < i) (h : K.getD k (0, 0) = K.getD i (0, 0)) : twiceAt K i = true := by
  cases e : twiceAt K i with
  | true => rfl
  | false => exact absurd h ((twice_iff hi).1 e k hk)
def TwAt (W : World) (K : List Pt) (i : Nat) (x : Value) (wr : World) : Prop := ∃ k : Nat, x = .int .i64 (k : Int) ∧ k ≤ i ∧ (∀ j, j < k → K.getD j (0, 0) ≠ K.getD i (0, 0)) ∧ Cls W wr
set_option maxRecDepth 100000 in
set_option maxHeartbeats 2000000 in
theorem r_rgTwice (W : World) (a : Option Addr) (n ca : Nat) (K : List Pt) (hK : PReads W a n K) (hs : n ≤ 4611686018427387903) (i : Nat) (hi : i < n) :
    Calls Tryz.prog 83 #[.slice a n ca, .int .i64 (i : Int)] W fun e w' => e = .returned (.bool (twiceAt K i)) ∧ Junk W w' := by
  have l1 := hK.1
  rcases hK.2 with h | ⟨b, o, rfl, hc⟩
  · omega
  have HC := Lib.hid hc
  obtain ⟨p1, p2⟩ := hc i hi
  obtain ⟨u, v, hx⟩ : ∃ u v : Int, (K.getD i (0, 0)) = (u, v) := ⟨_, _, rfl⟩
  rw [hx] at p1 p2
  have HX := Lib.hid hx
  have hb : b < W.heap.size := World.block_lt_of_cell? _ _ p1
  have i3 : (i : Int) < (n : Int) := by omega
  have L1 := Lib.hid l1
  obtain ⟨R, hR⟩ : ∃ R, twiceAt K i = R := ⟨_, rfl⟩
  rw [hR]
  have HR := Lib.hid hR
  clear hK hc hR hx l1
  go_enter Tryz.func83, Tryz.ntmps83
  go_wp2_with fail
  go_loopw [5] (fun x wr => TwAt W K i x wr) (fun x _ => i - (intOf x).toNat)
  case atStart => exact ⟨0, rfl, by omega, fun j hj => by omega, #[], _, (plus_nil _).symm⟩
  case round =>
    obtain ⟨k, rfl, k1, hk, J, d, rfl⟩ := hrel
    by_cases hlt : k < i
    · obtain ⟨q1, q2⟩ := HC.out k (by omega)
      have i1 : (k : Int) < (i : Int) := by omega
      have i2 : (k : Int) < (n : Int) := by omega
      obtain ⟨x, y, hy⟩ : ∃ x y : Int, (K.getD k (0, 0)) = (x, y) := ⟨_, _, rfl⟩
      rw [hy] at q1 q2
      have HY := Lib.hid hy
      have HK1 := Lib.hid hk
      clear hy hk
      by_cases h5 : x = u
      · subst h5
        by_cases h6 : y = v
        · subst h6
          have HN := Lib.hid (take_hit (by rw [L1.out]; exact hi) hlt (HY.out.trans HX.out.symm))
          go_upto_region 4 with fail
          refine region_quiet_all (C := Cls W) (by kernel_rfl) (by kernel_rfl) ⟨_, _, rfl⟩ ?_
          repeat (first | (refine qw_skip (by rfl) ?_; simp only [Act.put, List.setIfInBounds_toArray, List.set_cons_succ, List.set_cons_zero]) | (refine qw_want (by rfl) (fun K hK => ?_); go_simp; first | (refine hK _ ?_; clear hK K) | (apply Exists.intro; refine ⟨?_, hK _ ?_⟩; (rintro w3_ ⟨J3_, d3_, rfl⟩; first | (with_reducible exact rfl) | (go_simp; with_reducible exact rfl) | (go_simp; (first | (with_reducible refine (HX.out _).mono ?_)); rintro e_ w_ ⟨rfl, J4_, d4_, rfl⟩; exact ⟨rfl, J3_ ++ J4_, d4_, by simp only [plus_plus, Array.append_assoc]⟩)); clear hK K)))
          refine qw_nil ?_
          rintro w3 ⟨J3, d3, rfl⟩
          go_wp2_with fail
          go_ret
          exact ⟨congrArg (fun z => Ending.returned (.bool z)) (HN.out.symm.trans HR.out), junk_of_below (by (repeat' first | with_reducible (first | apply Below.refl | assumption | apply bw_a | apply bw_d | apply bw_n | apply bw_p | apply bw_c | apply bw_r) | go_size))⟩
        · have e2 : (y == v) = false := by rw [beq_eq_false_iff_ne]; exact h6
          have HN := Lib.hid (show ∀ j, j < k + 1 → K.getD j (0, 0) ≠ K.getD i (0, 0) from fun j hj => by
            by_cases hjk : j = k
            · subst hjk; rw [HY.out, HX.out]; intro e; injection e with _ e; exact h6 e
            · exact HK1.out j (by omega))
          clear h6
          go_upto_region 4 with fail
          refine region_quiet_all (C := Cls W) (by kernel_rfl) (by kernel_rfl) ⟨_, _, rfl⟩ ?_
          repeat (first | (refine qw_skip (by rfl) ?_; simp only [Act.put, List.setIfInBounds_toArray, List.set_cons_succ, List.set_cons_zero]) | (refine qw_want (by rfl) (fun K hK => ?_); go_simp; first | (refine hK _ ?_; clear hK K) | (apply Exists.intro; refine ⟨?_, hK _ ?_⟩; (rintro w3_ ⟨J3_, d3_, rfl⟩; first | (with_reducible exact rfl) | (go_simp; with_reducible exact rfl) | (go_simp; (first | (with_reducible refine (HX.out _).mono ?_)); rintro e_ w_ ⟨rfl, J4_, d4_, rfl⟩; exact ⟨rfl, J3_ ++ J4_, d4_, by simp only [plus_plus, Array.append_assoc]⟩)); clear hK K)))
          refine qw_nil ?_
          rintro w3 ⟨J3, d3, rfl⟩
          go_wp2_with fail
          go_roundw
          case rel => exact ⟨k + 1, by go_num, by omega, HN.out, _, _, rfl⟩
          case measure => simp [intOf]; omega
      · have e2 : (x == u) = false := by rw [beq_eq_false_iff_ne]; exact h5
        have HN := Lib.hid (show ∀ j, j < k + 1 → K.getD j (0, 0) ≠ K.getD i (0, 0) from fun j hj => by
          by_cases hjk : j = k
          · subst hjk; rw [HY.out, HX.out]; intro e; injection e with e _; exact h5 e
          · exact HK1.out j (by omega))
        clear h5
        go_upto_region 4 with fail
        refine region_quiet_all (C := Cls W) (by kernel_rfl) (by kernel_rfl) ⟨_, _, rfl⟩ ?_
        repeat (first | (refine qw_skip (by rfl) ?_; simp only [Act.put, List.setIfInBounds_toArray, List.set_cons_succ, List.set_cons_zero]) | (refine qw_want (by rfl) (fun K hK => ?_); go_simp; first | (refine hK _ ?_; clear hK K) | (apply Exists.intro; refine ⟨?_, hK _ ?_⟩; (rintro w3_ ⟨J3_, d3_, rfl⟩; first | (with_reducible exact rfl) | (go_simp; with_reducible exact rfl) | (go_simp; (first | (with_reducible refine (HX.out _).mono ?_)); rintro e_ w_ ⟨rfl, J4_, d4_, rfl⟩; exact ⟨rfl, J3_ ++ J4_, d4_, by simp only [plus_plus, Array.append_assoc]⟩)); clear hK K)))
        refine qw_nil ?_
        rintro w3 ⟨J3, d3, rfl⟩
        go_wp2_with fail
        go_roundw
        case rel => exact ⟨k + 1, by go_num, by omega, HN.out, _, _, rfl⟩
        case measure => simp [intOf]; omega
    · obtain rfl : k = i := by omega
      have HE := Lib.hid (show R = false by rw [← HR.out]; exact not_take (by rw [L1.out]; exact hi) hk)
      clear hk
      go_wp2_with fail
      go_ret
      exact ⟨congrArg (fun z => Ending.returned (.bool z)) HE.out.symm, junk_of_below (by (repeat' first | with_reducible (first | apply Below.refl | assumption | apply bw_a | apply bw_d | apply bw_n | apply bw_p | apply bw_c | apply bw_r) | go_size))⟩
def LsAt (W : World) (K : List Pt) (x y : Value) (wr : World) : Prop := ∃ k : Nat, x = .int .i64 (k : Int) ∧ y = .int .i64 (leastN K k : Nat) ∧ k ≤ K.length ∧ Cls W wr
end

section
set_option linter.unusedVariables false
set_option linter.unusedSimpArgs false
open Go.RowKit
def ThreeAt (w : World) (p q r : Pt) (x y z : Value) (wx : World) : Prop :=
  ∃ g k l, x = .pointer (some ⟨g, 0, none⟩) ∧ y = .pointer (some ⟨k, 0, none⟩) ∧ z = .pointer (some ⟨l, 0, none⟩) ∧ wx.cell? ⟨g, 0, none⟩ = some (.int .i64 p.1) ∧ wx.cell? ⟨g, 1, none⟩ = some (.int .i64 p.2) ∧
    wx.cell? ⟨k, 0, none⟩ = some (.int .i64 q.1) ∧ wx.cell? ⟨k, 1, none⟩ = some (.int .i64 q.2) ∧ wx.cell? ⟨l, 0, none⟩ = some (.int .i64 r.1) ∧ wx.cell? ⟨l, 1, none⟩ = some (.int .i64 r.2) ∧ Below w.heap.size w wx
set_option maxRecDepth 100000 in
set_option maxHeartbeats 8000000 in
theorem r_rgBack (w : World) (a : Option Addr) (n ca : Nat) (K : List Pt) (hK : PReads w a n K) (hs : n ≤ 4611686018427387903) (i : Nat) (hi : i < n) :
    Calls Tryz.prog 84 #[.slice a n ca, .int .i64 (i : Int)] w fun e w' => e = .returned (.bool (backAt K i)) ∧ Junk w w' := by
  have HA1 := Lib.hid (fun (w' : World) (h : PReads w' a n K) => r_rgAt w' a n ca K h (by omega) hs ((i : Int) - 1))
  have HA2 := Lib.hid (fun (w' : World) (h : PReads w' a n K) => r_rgAt w' a n ca K h (by omega) hs ((i : Int) + 1))
  have HP := Lib.hid hK
  rcases hK.2 with h | ⟨b, o, rfl, hc⟩
  · omega
  obtain ⟨p1, p2⟩ := hc i hi
  unfold backAt backC turnC onC
  generalize cyc K ((i : Int) - 1) = p at *
  generalize cyc K ((i : Int) + 1) = r at *
  generalize K.getD i (0, 0) = q at *
  obtain ⟨px, py⟩ := p
  obtain ⟨qx, qy⟩ := q
  obtain ⟨rx, ry⟩ := r
  simp only at p1 p2 ⊢
  have HT := Lib.hid (fun w' => r_ptTurn px py qx qy rx ry w')
  have HO := Lib.hid (fun w' => r_ptOn qx qy px py rx ry w')
  generalize turnF px py qx qy rx ry = t at *
  generalize onB qx qy px py rx ry = v at *
  obtain ⟨R, hR⟩ : ∃ R, (decide (t = 0) && !v) = R := ⟨_, rfl⟩
  rw [hR]
  have HR := Lib.hid hR
  clear hR
  unfold ptv at *
  simp only at HA1 HA2
  unfold pt at *
  have hb : b < w.heap.size := World.block_lt_of_cell? _ _ p1
  have i2 : (i : Int) < (n : Int) := by omega
  have s1 : IntKind.i64.wrap ((i : Int) - 1) = (i : Int) - 1 := by simp [IntKind.wrap, IntKind.signed, IntKind.bits]; omega
  have s2 : IntKind.i64.wrap ((i : Int) + 1) = (i : Int) + 1 := by simp [IntKind.wrap, IntKind.signed, IntKind.bits]; omega
  clear hK hc
  go_enter Tryz.func84, Tryz.ntmps84
  go_upto_region 1 with fail
  go_cut [5, 6, 7] from 5 to 19 (fun x y z wx => ThreeAt w (px, py) (qx, qy) (rx, ry) x y z wx)
  case first =>
    go_region_held3 (fun w' => w'.cell? ⟨b, o + i * 2, none⟩ = some (.int .i64 qx) ∧ w'.cell? ⟨b, o + i * 2 + 1, none⟩ = some (.int .i64 qy)) (first | (refine ⟨?_, ?_⟩ <;> (simp [go_sem, *]; done))) (first
      | (go_simp; go_at_call 108; (with_reducible refine (HA1.out _ (HP.out.below (by (repeat' first | with_reducible (first | apply Below.refl | assumption | apply bw_a | apply bw_d | apply bw_n | apply bw_p | apply bw_c | apply bw_r) | go_size)))).mono ?_); rintro e w1 ⟨rfl, J1, d1, rfl⟩; go_simp)
      | (go_simp; go_at_call 108; (with_reducible refine (HA2.out _ (HP.out.below (by (repeat' first | with_reducible (first | apply Below.refl | assumption | apply bw_a | apply bw_d | apply bw_n | apply bw_p | apply bw_c | apply bw_r) | go_size)))).mono ?_); rintro e w1 ⟨rfl, J2, d2, rfl⟩; go_simp))
    all_goals
      go_wp2_with fail
      go_meet
      case rel => exact ⟨_, _, _, rfl, rfl, rfl, by simp [go_sem], by simp [go_sem], by simp [go_sem], by simp [go_sem], by simp [go_sem], by simp [go_sem], by (repeat' first | with_reducible (first | apply Below.refl | assumption | apply bw_a | apply bw_d | apply bw_n | apply bw_p | apply bw_c | apply bw_r) | go_size)⟩
  case rest =>
  obtain ⟨g, k, l, rfl, rfl, rfl, a0, a1, b0, b1, c0, c1, hj⟩ := hcut
  have gb := World.block_lt_of_cell? _ _ a0
  have kb := World.block_lt_of_cell? _ _ b0
  have lb := World.block_lt_of_cell? _ _ c0
  have hszc := hj.size
  simp only at gb kb lb a0 a1 b0 b1 c0 c1
  have HJ := Lib.hid hj
  clear hj p1 p2
  by_cases ht : t = 0
  · subst ht
    have HE := Lib.hid (show R = !v by rw [← HR.out, decide_eq_true rfl, Bool.true_and])
    go_wp2_with (first | (go_at_call 109; (with_reducible refine (HT.out _).mono ?_); rintro e w1 ⟨rfl, J1, d1, rfl⟩) | (go_at_call 110; (with_reducible refine (HO.out _).mono ?_); rintro e w1 ⟨rfl, J2, d2, rfl⟩))
    go_ret
    exact ⟨congrArg (fun z => Ending.returned (.bool z)) HE.out.symm, junk_of_below (HJ.out.trans (by (repeat' first | with_reducible (first | apply Below.refl | assumption | apply bw_a | apply bw_d | apply bw_n | apply bw_p | apply bw_c | apply bw_r) | go_size)))⟩
  · have HE := Lib.hid (show R = false by rw [← HR.out, decide_eq_false ht, Bool.false_and])
    have e1 : (t == 0) = false := by rw [beq_eq_false_iff_ne]; exact ht
    go_wp2_with (first | (go_at_call 109; (with_reducible refine (HT.out _).mono ?_); rintro e w1 ⟨rfl, J1, d1, rfl⟩) | (go_at_call 110; (with_reducible refine (HO.out _).mono ?_); rintro e w1 ⟨rfl, J2, d2, rfl⟩))
    go_ret
    exact ⟨congrArg (fun z => Ending.returned (.bool z)) HE.out.symm, junk_of_below (HJ.out.trans (by (repeat' first | with_reducible (first | apply Below.refl | assumption | apply bw_a | apply bw_d | apply bw_n | apply bw_p | apply bw_c | apply bw_r) | go_size)))⟩
end
end Go.Proofs.YthphdiigjimchaaGreat

/- Contract of apportionref09.meets. Contract of apportionref09.Check. Contracts of apportionref09: Sign, Turned, From, Normal. Contract of apportionref09.From. Contract of apportionref09.Normal. Contract of apportionref09.Same. -/
import Derived.Test.YthphdiigjimchaaGreatRiRefA
import Derived.Test.YthphdiigjimchaaGreatCrFive
namespace Go.Proofs.YthphdiigjimchaaGreat
section
set_option linter.unusedVariables false
set_option linter.unusedSimpArgs false
open Go.RowKit
theorem meets_not {K : List Pt} {i : Nat} (h : ∀ k, i + 2 ≤ k → k < K.length → meetTwo K i k = false) : meetsAt K i = false := by
  unfold meetsAt
  rw [List.any_eq_false]
  intro k hk
  rw [List.mem_range] at hk
  by_cases h1 : i + 2 ≤ k
  · rw [h k h1 hk]; simp
  · rw [decide_eq_false h1]; simp
theorem meets_hit {K : List Pt} {i k : Nat} (h1 : i + 2 ≤ k) (hk : k < K.length) (h : meetTwo K i k = true) : meetsAt K i = true := by
  unfold meetsAt
  rw [List.any_eq_true]
  exact ⟨k, by simpa using hk, by rw [h, decide_eq_true h1]; rfl⟩
def MtAt (W : World) (K : List Pt) (i : Nat) (x : Value) (wr : World) : Prop := ∃ k : Nat, x = .int .i64 (k : Int) ∧ i + 2 ≤ k ∧ (k ≤ K.length ∨ k = i + 2) ∧ (∀ j, i + 2 ≤ j → j < k → meetTwo K i j = false) ∧ Cls W wr
set_option maxRecDepth 100000 in
set_option maxHeartbeats 4000000 in
theorem r_rgMeets (W : World) (a : Option Addr) (n ca : Nat) (K : List Pt) (hK : PReads W a n K) (hs : n ≤ 4611686018427387903) (i : Nat) (hi : i < n) :
    Calls Tryz.prog 85 #[.slice a n ca, .int .i64 (i : Int)] W fun e w' => e = .returned (.bool (meetsAt K i)) ∧ Junk W w' := by
  have l1 := hK.1
  have HA := Lib.hid (fun (j : Int) (J : Array Obj) (d : Nat) => r_rgAt (W.plus J d) a n ca K (hK.below (Junk.below ⟨_, _, rfl⟩)) (by omega) hs j)
  rcases hK.2 with h | ⟨b, o, rfl, hc⟩
  · omega
  have HC := Lib.hid hc
  obtain ⟨p1, p2⟩ := hc i hi
  obtain ⟨px, py, hx⟩ : ∃ u v : Int, (K.getD i (0, 0)) = (u, v) := ⟨_, _, rfl⟩
  rw [hx] at p1 p2
  have HX := Lib.hid hx
  have hb : b < W.heap.size := World.block_lt_of_cell? _ _ p1
  have i3 : (i : Int) < (n : Int) := by omega
  have s1 : IntKind.i64.wrap ((i : Int) + 1) = (i : Int) + 1 := by simp [IntKind.wrap, IntKind.signed, IntKind.bits]; omega
  have L1 := Lib.hid l1
  obtain ⟨R, hR⟩ : ∃ R, meetsAt K i = R := ⟨_, rfl⟩
  rw [hR]
  have HR := Lib.hid hR
  have HA1 := Lib.hid (HA.out ((i : Int) + 1))
  obtain ⟨⟨qx, qy⟩, hq⟩ : ∃ q, cyc K ((i : Int) + 1) = q := ⟨_, rfl⟩
  rw [hq] at HA1
  unfold ptv pt at HA1
  simp only at HA1
  have HQ := Lib.hid hq
  clear hK hc hR hx l1 hq
  go_enter Tryz.func85, Tryz.ntmps85
  go_wp2_with fail
  go_loopw [5] (fun x wr => MtAt W K i x wr) (fun x _ => n - (intOf x).toNat)
  case atStart => exact ⟨i + 2, by go_num, by omega, .inr rfl, fun j h1 h2 => by omega, #[], _, (plus_nil _).symm⟩
  case round =>
    obtain ⟨k, rfl, k0, k1, hk, J, d, rfl⟩ := hrel
    rw [L1.out] at k1
    by_cases hlt : k < n
    · have i1 : (k : Int) < (n : Int) := by omega
      have HK1 := Lib.hid hk
      clear hk
      have hxx : ∀ r : Bool, meetTwo K i k = r → r = false → ∀ j, i + 2 ≤ j → j < k + 1 → meetTwo K i j = false := by
        intro r h1 h2 j h3 h4
        by_cases hjk : j = k
        · subst hjk; rw [h1, h2]
        · exact HK1.out j h3 (by omega)
      have HXX := Lib.hid hxx
      clear hxx
      by_cases hskip : i = 0 ∧ k = n - 1
      · obtain ⟨rfl, hkn⟩ := hskip
        have HN := Lib.hid (HXX.out _ rfl (show meetTwo K 0 k = false from by unfold meetTwo; rw [L1.out, decide_eq_true ⟨rfl, hkn⟩]; rfl))
        have e2 : ((k : Int) == (n : Int) - 1) = true := by rw [beq_iff_eq]; omega
        go_wp2_with fail
        go_roundw
        case rel => exact ⟨k + 1, by go_num, by omega, .inl (by rw [L1.out]; omega), HN.out, _, _, rfl⟩
        case measure => simp [intOf]; omega
      · obtain ⟨q1, q2⟩ := HC.out k hlt
        obtain ⟨x, y, hy⟩ : ∃ x y : Int, (K.getD k (0, 0)) = (x, y) := ⟨_, _, rfl⟩
        rw [hy] at q1 q2
        have HA2 := Lib.hid (HA.out ((k : Int) + 1))
        obtain ⟨⟨zx, zy⟩, hz⟩ : ∃ q, cyc K ((k : Int) + 1) = q := ⟨_, rfl⟩
        rw [hz] at HA2
        unfold ptv pt at HA2
        simp only at HA2
        have s2 : IntKind.i64.wrap ((k : Int) + 1) = (k : Int) + 1 := by simp [IntKind.wrap, IntKind.signed, IntKind.bits]; omega
        have HM := Lib.hid (fun w' => r_crMeets w' px py qx qy x y zx zy)
        have hmt : meetTwo K i k = !decide (meetQ (px, py) (qx, qy) (x, y) (zx, zy) = 0) := by
          unfold meetTwo
          rw [L1.out, decide_eq_false hskip, HX.out, HQ.out, hy, hz]; rfl
        generalize meetQ (px, py) (qx, qy) (x, y) (zx, zy) = r at *
        have HMT := Lib.hid hmt
        unfold pt at HM
        have hsk : (((i : Int) == 0) = true ∧ ((k : Int) == (n : Int) - 1) = false) ∨ ((i : Int) == 0) = false := by
          by_cases h : i = 0
          · left; exact ⟨by rw [beq_iff_eq]; omega, by rw [beq_eq_false_iff_ne]; omega⟩
          · right; rw [beq_eq_false_iff_ne]; omega
        clear hy hz hmt hskip
        by_cases h5 : r = 0
        · subst h5
          have HN := Lib.hid (HXX.out _ HMT.out (by simp))
          rcases hsk with ⟨e1, e2⟩ | e2
          all_goals
            go_upto_region 5 with fail
            refine region_quiet_all (C := Cls W) (by kernel_rfl) (by kernel_rfl) ⟨_, _, rfl⟩ ?_
            repeat (first | (refine qw_skip (by rfl) ?_; simp only [Act.put, List.setIfInBounds_toArray, List.set_cons_succ, List.set_cons_zero]) | (refine qw_want (by rfl) (fun K hK => ?_); go_simp; first | (refine hK _ ?_; clear hK K) | (apply Exists.intro; refine ⟨?_, hK _ ?_⟩; (rintro w3_ ⟨J3_, d3_, rfl⟩; first | (with_reducible exact rfl) | (go_simp; with_reducible exact rfl) | (go_simp; (first | (with_reducible refine (HA1.out _ _).mono ?_) | (with_reducible refine (HA2.out _ _).mono ?_) | (with_reducible refine (HM.out _).mono ?_)); rintro e_ w_ ⟨rfl, J4_, d4_, rfl⟩; exact ⟨rfl, J3_ ++ J4_, d4_, by simp only [plus_plus, Array.append_assoc]⟩)); clear hK K)))
            refine qw_nil ?_
            rintro w3 ⟨J3, d3, rfl⟩
            go_wp2_with fail
            go_roundw
            case rel => exact ⟨k + 1, by go_num, by omega, .inl (by rw [L1.out]; omega), HN.out, _, _, rfl⟩
            case measure => simp [intOf]; omega
        · have e5 : (r == 0) = false := by rw [beq_eq_false_iff_ne]; exact h5
          have HN := Lib.hid (show R = true by rw [← HR.out]; exact meets_hit k0 (by rw [L1.out]; exact hlt) (by rw [HMT.out, decide_eq_false h5]; rfl))
          clear h5
          rcases hsk with ⟨e1, e2⟩ | e2
          all_goals
            go_upto_region 5 with fail
            refine region_quiet_all (C := Cls W) (by kernel_rfl) (by kernel_rfl) ⟨_, _, rfl⟩ ?_
            repeat (first | (refine qw_skip (by rfl) ?_; simp only [Act.put, List.setIfInBounds_toArray, List.set_cons_succ, List.set_cons_zero]) | (refine qw_want (by rfl) (fun K hK => ?_); go_simp; first | (refine hK _ ?_; clear hK K) | (apply Exists.intro; refine ⟨?_, hK _ ?_⟩; (rintro w3_ ⟨J3_, d3_, rfl⟩; first | (with_reducible exact rfl) | (go_simp; with_reducible exact rfl) | (go_simp; (first | (with_reducible refine (HA1.out _ _).mono ?_) | (with_reducible refine (HA2.out _ _).mono ?_) | (with_reducible refine (HM.out _).mono ?_)); rintro e_ w_ ⟨rfl, J4_, d4_, rfl⟩; exact ⟨rfl, J3_ ++ J4_, d4_, by simp only [plus_plus, Array.append_assoc]⟩)); clear hK K)))
            refine qw_nil ?_
            rintro w3 ⟨J3, d3, rfl⟩
            go_wp2_with fail
            go_ret
            exact ⟨congrArg (fun z => Ending.returned (.bool z)) HN.out.symm, junk_of_below (by (repeat' first | with_reducible (first | apply Below.refl | assumption | apply bw_a | apply bw_d | apply bw_n | apply bw_p | apply bw_c | apply bw_r) | go_size))⟩
    · have HE := Lib.hid (show R = false by rw [← HR.out]; exact meets_not (fun j h1 h2 => hk j h1 (by rw [L1.out] at h2; omega)))
      have i1 : ¬ (k : Int) < (n : Int) := by omega
      clear hk
      go_wp2_with fail
      go_ret
      exact ⟨congrArg (fun z => Ending.returned (.bool z)) HE.out.symm, junk_of_below (by (repeat' first | with_reducible (first | apply Below.refl | assumption | apply bw_a | apply bw_d | apply bw_n | apply bw_p | apply bw_c | apply bw_r) | go_size))⟩
end

section
set_option linter.unusedVariables false
set_option linter.unusedSimpArgs false
open Go.RowKit
theorem results_flt {fn : Func} {p : Tmp} (h : fn.results = #[.cell p 33]) (tmps : Array Value) (w : World) (g : Nat) (c : Array Value)
    (hp : tmps.getD p undef = .pointer (some ⟨g, 0, none⟩)) (hr : w.rowAt g = some c) (hc : c.size = 2) : (results fn tmps).run Tryz.prog w = .ok (.agg c) w := by
  obtain ⟨ty, hg⟩ := rowAt_some hr
  have hp' : tmps[p]?.getD undef = .pointer (some ⟨g, 0, none⟩) := by simpa using hp
  simp [results, h, hp', asAddr, run_loadVar_row w g ty _ c (0, 0) _ hg Tryz.underlying33 rfl (by rw [hc]; kernel_rfl)]
def fltV (r : Int × Nat) : Value := .agg #[.int .i64 r.1, .int .i64 (r.2 : Int)]
theorem first_some {f : Nat → Bool} {n k : Nat} (hk : k < n) (h : f k = true) (hn : ∀ j, j < k → f j = false) : firstQ f n = some k := by
  unfold firstQ
  rw [List.find?_range_eq_some]
  exact ⟨h, by simpa using hk, fun j hj => by rw [hn j hj]; rfl⟩
def F0 (K : List Pt) (i : Nat) : Bool := !okC (K.getD i (0, 0))
def F1 (K : List Pt) (i : Nat) : Bool := twiceAt K i
def F2 (K : List Pt) (i : Nat) : Bool := backAt K i
def F3 (K : List Pt) (i : Nat) : Bool := meetsAt K i
def Good (K : List Pt) : Prop := ¬ 200 < K.length ∧ ¬ K.length < 3
theorem check_0 {K : List Pt} {k : Nat} (g : Good K) (h : firstQ (F0 K) K.length = some k) : checkF K = (2, k) := by
  unfold checkF; rw [if_neg g.1, if_neg g.2]
  show orFault (firstQ (F0 K) K.length) _ _ = _
  rw [h]; rfl
theorem check_1 {K : List Pt} {k : Nat} (g : Good K) (h0 : firstQ (F0 K) K.length = none) (h : firstQ (F1 K) K.length = some k) : checkF K = (191, k) := by
  unfold checkF; rw [if_neg g.1, if_neg g.2]
  show orFault (firstQ (F0 K) K.length) _ (orFault (firstQ (F1 K) K.length) _ _) = _
  rw [h0, h]; rfl
theorem check_2 {K : List Pt} {k : Nat} (g : Good K) (h0 : firstQ (F0 K) K.length = none) (h1 : firstQ (F1 K) K.length = none) (h : firstQ (F2 K) K.length = some k) : checkF K = (192, k) := by
  unfold checkF; rw [if_neg g.1, if_neg g.2]
  show orFault (firstQ (F0 K) K.length) _ (orFault (firstQ (F1 K) K.length) _ (orFault (firstQ (F2 K) K.length) _ _)) = _
  rw [h0, h1, h]; rfl
theorem check_3 {K : List Pt} {k : Nat} (g : Good K) (h0 : firstQ (F0 K) K.length = none) (h1 : firstQ (F1 K) K.length = none) (h2 : firstQ (F2 K) K.length = none) (h : firstQ (F3 K) K.length = some k) : checkF K = (193, k) := by
  unfold checkF; rw [if_neg g.1, if_neg g.2]
  show orFault (firstQ (F0 K) K.length) _ (orFault (firstQ (F1 K) K.length) _ (orFault (firstQ (F2 K) K.length) _ (orFault (firstQ (F3 K) K.length) _ _))) = _
  rw [h0, h1, h2, h]; rfl
theorem check_none {K : List Pt} (g : Good K) (h0 : firstQ (F0 K) K.length = none) (h1 : firstQ (F1 K) K.length = none) (h2 : firstQ (F2 K) K.length = none) (h : firstQ (F3 K) K.length = none) : checkF K = (0, 0) := by
  unfold checkF; rw [if_neg g.1, if_neg g.2]
  show orFault (firstQ (F0 K) K.length) _ (orFault (firstQ (F1 K) K.length) _ (orFault (firstQ (F2 K) K.length) _ (orFault (firstQ (F3 K) K.length) _ _))) = _
  rw [h0, h1, h2, h]; rfl
def FsAt (W : World) (f : Nat → Bool) (K : List Pt) (x : Value) (wr : World) : Prop := ∃ k : Nat, x = .int .i64 (k : Int) ∧ k ≤ K.length ∧ (∀ j, j < k → f j = false) ∧ Cls W wr
set_option maxRecDepth 100000 in
set_option maxHeartbeats 4000000 in
theorem r_rgCheck (w : World) (a : Option Addr) (n ca : Nat) (K : List Pt) (hK : PReads w a n K) (hs : n ≤ 4611686018427387903) :
    Calls Tryz.prog 50 #[.slice a n ca] w fun e w' => e = .returned (fltV (checkF K)) ∧ Junk w w' := by
  have l1 := hK.1
  have L1 := Lib.hid l1
  obtain ⟨R, hR⟩ : ∃ R, checkF K = R := ⟨_, rfl⟩
  rw [hR]
  have HR := Lib.hid hR
  have HP := Lib.hid hK
  have HPK := Lib.hid hK.2
  by_cases h1 : 200 < n
  · have HE := Lib.hid (show R = (3, 0) by rw [← hR]; unfold checkF; rw [if_pos (by rw [l1]; exact h1)])
    have i1 : (200 : Int) < (n : Int) := by omega
    clear hK hR h1 l1
    go_enter Tryz.func50, Tryz.ntmps50
    go_wp2_with fail
    refine bodyPost_ret (results_flt rfl _ _ w.heap.size #[.int .i64 3, .int .i64 0] rfl (by simp [go_sem]) rfl) rfl ⟨congrArg Ending.returned (show _ = fltV R by rw [HE.out]; rfl), junk_of_below (by (repeat' first | with_reducible (first | apply Below.refl | assumption | apply bw_a | apply bw_d | apply bw_n | apply bw_p | apply bw_c | apply bw_r) | go_size))⟩
  by_cases h2 : n < 3
  · have HE := Lib.hid (show R = (190, 0) by rw [← hR]; unfold checkF; rw [if_neg (by rw [l1]; exact h1), if_pos (by rw [l1]; exact h2)])
    have i1 : (n : Int) < 3 := by omega
    have i2 : ¬ (200 : Int) < (n : Int) := by omega
    clear hK hR h1 h2 l1
    go_enter Tryz.func50, Tryz.ntmps50
    go_wp2_with fail
    refine bodyPost_ret (results_flt rfl _ _ w.heap.size #[.int .i64 190, .int .i64 0] rfl (by simp [go_sem]) rfl) rfl ⟨congrArg Ending.returned (show _ = fltV R by rw [HE.out]; rfl), junk_of_below (by (repeat' first | with_reducible (first | apply Below.refl | assumption | apply bw_a | apply bw_d | apply bw_n | apply bw_p | apply bw_c | apply bw_r) | go_size))⟩
  have HG := Lib.hid (show Good K from ⟨by rw [l1]; exact h1, by rw [l1]; exact h2⟩)
  have i1 : ¬ (n : Int) < 3 := by omega
  have i2 : ¬ (200 : Int) < (n : Int) := by omega
  clear hK hR h1 h2 l1
  go_enter Tryz.func50, Tryz.ntmps50
  go_wp2_with fail
  go_loopw [3] (fun x wr => FsAt (w.alloc (.cells #[.int .i64 0, .int .i64 0] 33)) (F0 K) K x wr) (fun x _ => n - (intOf x).toNat)
  case atStart => exact ⟨0, rfl, by omega, fun j hj => by omega, #[], _, (plus_nil _).symm⟩
  case round =>
    obtain ⟨q0, rfl, k1, hk, J0, d0, rfl⟩ := hrel
    rw [L1.out] at k1
    by_cases hlt : q0 < n
    · have i1 : (q0 : Int) < (n : Int) := by omega
      have HK1 := Lib.hid hk
      clear hk
      obtain ⟨v, hv⟩ : ∃ v, F0 K q0 = v := ⟨_, rfl⟩
      have HV := Lib.hid hv
      rcases HPK.out with h | ⟨b, o, rfl, hc⟩
      · omega
      obtain ⟨p1, p2⟩ := hc q0 hlt
      obtain ⟨x, y, hx⟩ : ∃ x y : Int, (K.getD q0 (0, 0)) = (x, y) := ⟨_, _, rfl⟩
      rw [hx] at p1 p2
      have hb : b < w.heap.size := World.block_lt_of_cell? _ _ p1
      have hvv : okP x y = !v := by rw [← hv]; unfold F0 okC; rw [hx, Bool.not_not]
      have HC := Lib.hid (fun w' => r_ptValid x y w')
      rw [hvv] at HC
      unfold pt at HC
      clear hc hx hvv hv
      cases v with
      | true =>
        have HN := Lib.hid (show R = (2, q0) by rw [← HR.out]; exact check_0 HG.out  (first_some (show _ < K.length by rw [L1.out]; exact hlt) HV.out HK1.out))
        go_wp2_with (go_at_call 82; (with_reducible refine (HC.out _).mono ?_); rintro e w1 ⟨rfl, J9, d9, rfl⟩)
        refine bodyPost_ret (results_flt rfl _ _ w.heap.size #[.int .i64 2, .int .i64 (q0 : Int)] rfl (by simp [go_sem]) rfl) rfl ⟨congrArg Ending.returned (show _ = fltV R by rw [HN.out]; rfl), junk_of_below (by (repeat' first | with_reducible (first | apply Below.refl | assumption | apply bw_a | apply bw_d | apply bw_n | apply bw_p | apply bw_c | apply bw_r) | go_size))⟩
      | false =>
        have HN := Lib.hid (show ∀ j, j < q0 + 1 → F0 K j = false from fun j hj => by
          by_cases hjk : j = q0
          · subst hjk; exact HV.out
          · exact HK1.out j (by omega))
        go_wp2_with (go_at_call 82; (with_reducible refine (HC.out _).mono ?_); rintro e w1 ⟨rfl, J9, d9, rfl⟩)
        go_roundw
        case rel => exact ⟨q0 + 1, by go_num, by rw [L1.out]; omega, HN.out, _, _, rfl⟩
        case measure => simp [intOf]; omega
    · obtain rfl : n = q0 := by omega
      have H0 := Lib.hid (first_none.2 (show ∀ j, j < K.length → F0 K j = false from fun j hj => hk j (by rw [← L1.out]; exact hj)))
      clear hk
      go_wp2_with fail
      go_loopw [4] (fun x wr => FsAt (w.alloc (.cells #[.int .i64 0, .int .i64 0] 33)) (F1 K) K x wr) (fun x _ => n - (intOf x).toNat)
      case atStart => exact ⟨0, rfl, by omega, fun j hj => by omega, _, _, rfl⟩
      case round =>
        obtain ⟨q1, rfl, k1, hk, J1, d1, rfl⟩ := hrel
        rw [L1.out] at k1
        by_cases hlt : q1 < n
        · have i1 : (q1 : Int) < (n : Int) := by omega
          have HK1 := Lib.hid hk
          clear hk
          obtain ⟨v, hv⟩ : ∃ v, F1 K q1 = v := ⟨_, rfl⟩
          have HV := Lib.hid hv
          have HC := Lib.hid (fun (w' : World) (h : PReads w' a n K) => r_rgTwice w' a n ca K h hs q1 hlt)
          rw [show twiceAt K q1 = v from hv] at HC
          clear hv
          cases v with
          | true =>
            have HN := Lib.hid (show R = (191, q1) by rw [← HR.out]; exact check_1 HG.out H0.out (first_some (show _ < K.length by rw [L1.out]; exact hlt) HV.out HK1.out))
            go_wp2_with (go_at_call 83; refine (HC.out _ (HP.out.below (by (repeat' first | with_reducible (first | apply Below.refl | assumption | apply bw_a | apply bw_d | apply bw_n | apply bw_p | apply bw_c | apply bw_r) | go_size)))).mono ?_; rintro e w1 ⟨rfl, J9, d9, rfl⟩)
            refine bodyPost_ret (results_flt rfl _ _ w.heap.size #[.int .i64 191, .int .i64 (q1 : Int)] rfl (by simp [go_sem]) rfl) rfl ⟨congrArg Ending.returned (show _ = fltV R by rw [HN.out]; rfl), junk_of_below (by (repeat' first | with_reducible (first | apply Below.refl | assumption | apply bw_a | apply bw_d | apply bw_n | apply bw_p | apply bw_c | apply bw_r) | go_size))⟩
          | false =>
            have HN := Lib.hid (show ∀ j, j < q1 + 1 → F1 K j = false from fun j hj => by
              by_cases hjk : j = q1
              · subst hjk; exact HV.out
              · exact HK1.out j (by omega))
            go_wp2_with (go_at_call 83; refine (HC.out _ (HP.out.below (by (repeat' first | with_reducible (first | apply Below.refl | assumption | apply bw_a | apply bw_d | apply bw_n | apply bw_p | apply bw_c | apply bw_r) | go_size)))).mono ?_; rintro e w1 ⟨rfl, J9, d9, rfl⟩)
            go_roundw
            case rel => exact ⟨q1 + 1, by go_num, by rw [L1.out]; omega, HN.out, _, _, rfl⟩
            case measure => simp [intOf]; omega
        · obtain rfl : n = q1 := by omega
          have H1 := Lib.hid (first_none.2 (show ∀ j, j < K.length → F1 K j = false from fun j hj => hk j (by rw [← L1.out]; exact hj)))
          clear hk
          go_wp2_with fail
          go_loopw [5] (fun x wr => FsAt (w.alloc (.cells #[.int .i64 0, .int .i64 0] 33)) (F2 K) K x wr) (fun x _ => n - (intOf x).toNat)
          case atStart => exact ⟨0, rfl, by omega, fun j hj => by omega, _, _, rfl⟩
          case round =>
            obtain ⟨q2, rfl, k1, hk, J2, d2, rfl⟩ := hrel
            rw [L1.out] at k1
            by_cases hlt : q2 < n
            · have i1 : (q2 : Int) < (n : Int) := by omega
              have HK1 := Lib.hid hk
              clear hk
              obtain ⟨v, hv⟩ : ∃ v, F2 K q2 = v := ⟨_, rfl⟩
              have HV := Lib.hid hv
              have HC := Lib.hid (fun (w' : World) (h : PReads w' a n K) => r_rgBack w' a n ca K h hs q2 hlt)
              rw [show backAt K q2 = v from hv] at HC
              clear hv
              cases v with
              | true =>
                have HN := Lib.hid (show R = (192, q2) by rw [← HR.out]; exact check_2 HG.out H0.out H1.out (first_some (show _ < K.length by rw [L1.out]; exact hlt) HV.out HK1.out))
                go_wp2_with (go_at_call 84; refine (HC.out _ (HP.out.below (by (repeat' first | with_reducible (first | apply Below.refl | assumption | apply bw_a | apply bw_d | apply bw_n | apply bw_p | apply bw_c | apply bw_r) | go_size)))).mono ?_; rintro e w1 ⟨rfl, J9, d9, rfl⟩)
                refine bodyPost_ret (results_flt rfl _ _ w.heap.size #[.int .i64 192, .int .i64 (q2 : Int)] rfl (by simp [go_sem]) rfl) rfl ⟨congrArg Ending.returned (show _ = fltV R by rw [HN.out]; rfl), junk_of_below (by (repeat' first | with_reducible (first | apply Below.refl | assumption | apply bw_a | apply bw_d | apply bw_n | apply bw_p | apply bw_c | apply bw_r) | go_size))⟩
              | false =>
                have HN := Lib.hid (show ∀ j, j < q2 + 1 → F2 K j = false from fun j hj => by
                  by_cases hjk : j = q2
                  · subst hjk; exact HV.out
                  · exact HK1.out j (by omega))
                go_wp2_with (go_at_call 84; refine (HC.out _ (HP.out.below (by (repeat' first | with_reducible (first | apply Below.refl | assumption | apply bw_a | apply bw_d | apply bw_n | apply bw_p | apply bw_c | apply bw_r) | go_size)))).mono ?_; rintro e w1 ⟨rfl, J9, d9, rfl⟩)
                go_roundw
                case rel => exact ⟨q2 + 1, by go_num, by rw [L1.out]; omega, HN.out, _, _, rfl⟩
                case measure => simp [intOf]; omega
            · obtain rfl : n = q2 := by omega
              have H2 := Lib.hid (first_none.2 (show ∀ j, j < K.length → F2 K j = false from fun j hj => hk j (by rw [← L1.out]; exact hj)))
              clear hk
              go_wp2_with fail
              go_loopw [6] (fun x wr => FsAt (w.alloc (.cells #[.int .i64 0, .int .i64 0] 33)) (F3 K) K x wr) (fun x _ => n - (intOf x).toNat)
              case atStart => exact ⟨0, rfl, by omega, fun j hj => by omega, _, _, rfl⟩
              case round =>
                obtain ⟨q3, rfl, k1, hk, J3, d3, rfl⟩ := hrel
                rw [L1.out] at k1
                by_cases hlt : q3 < n
                · have i1 : (q3 : Int) < (n : Int) := by omega
                  have HK1 := Lib.hid hk
                  clear hk
                  obtain ⟨v, hv⟩ : ∃ v, F3 K q3 = v := ⟨_, rfl⟩
                  have HV := Lib.hid hv
                  have HC := Lib.hid (fun (w' : World) (h : PReads w' a n K) => r_rgMeets w' a n ca K h hs q3 hlt)
                  rw [show meetsAt K q3 = v from hv] at HC
                  clear hv
                  cases v with
                  | true =>
                    have HN := Lib.hid (show R = (193, q3) by rw [← HR.out]; exact check_3 HG.out H0.out H1.out H2.out (first_some (show _ < K.length by rw [L1.out]; exact hlt) HV.out HK1.out))
                    go_wp2_with (go_at_call 85; refine (HC.out _ (HP.out.below (by (repeat' first | with_reducible (first | apply Below.refl | assumption | apply bw_a | apply bw_d | apply bw_n | apply bw_p | apply bw_c | apply bw_r) | go_size)))).mono ?_; rintro e w1 ⟨rfl, J9, d9, rfl⟩)
                    refine bodyPost_ret (results_flt rfl _ _ w.heap.size #[.int .i64 193, .int .i64 (q3 : Int)] rfl (by simp [go_sem]) rfl) rfl ⟨congrArg Ending.returned (show _ = fltV R by rw [HN.out]; rfl), junk_of_below (by (repeat' first | with_reducible (first | apply Below.refl | assumption | apply bw_a | apply bw_d | apply bw_n | apply bw_p | apply bw_c | apply bw_r) | go_size))⟩
                  | false =>
                    have HN := Lib.hid (show ∀ j, j < q3 + 1 → F3 K j = false from fun j hj => by
                      by_cases hjk : j = q3
                      · subst hjk; exact HV.out
                      · exact HK1.out j (by omega))
                    go_wp2_with (go_at_call 85; refine (HC.out _ (HP.out.below (by (repeat' first | with_reducible (first | apply Below.refl | assumption | apply bw_a | apply bw_d | apply bw_n | apply bw_p | apply bw_c | apply bw_r) | go_size)))).mono ?_; rintro e w1 ⟨rfl, J9, d9, rfl⟩)
                    go_roundw
                    case rel => exact ⟨q3 + 1, by go_num, by rw [L1.out]; omega, HN.out, _, _, rfl⟩
                    case measure => simp [intOf]; omega
                · obtain rfl : n = q3 := by omega
                  have H3 := Lib.hid (first_none.2 (show ∀ j, j < K.length → F3 K j = false from fun j hj => hk j (by rw [← L1.out]; exact hj)))
                  clear hk
                  go_wp2_with fail
                  refine bodyPost_ret (results_flt rfl _ _ w.heap.size #[.int .i64 0, .int .i64 0] rfl (by simp [go_sem]) rfl) rfl ⟨congrArg Ending.returned (show _ = fltV R by rw [← HR.out, check_none HG.out H0.out H1.out H2.out H3.out]; rfl), junk_of_below (by (repeat' first | with_reducible (first | apply Below.refl | assumption | apply bw_a | apply bw_d | apply bw_n | apply bw_p | apply bw_c | apply bw_r) | go_size))⟩
end

section
set_option linter.unusedVariables false
set_option linter.unusedSimpArgs false
open Go.RowKit
theorem powns_base {w : World} {b1 b2 : Nat} {ty : TypeId} {size n : Nat} {v : Value} {xs : List Value} (h : w.ownsRow b1 ty size v n xs) (hb : b2 ≤ b1) : w.ownsRow b2 ty size v n xs := by
  obtain ⟨h1, h2⟩ := h
  refine ⟨h1, ?_⟩
  rcases h2 with h2 | ⟨g, cap, cur, hv, hg, hc, hr⟩
  · exact .inl h2
  · exact .inr ⟨g, cap, cur, hv, Nat.le_trans hb hg, hc, hr⟩
def POwn (w w' : World) (v : Value) (L : List Pt) : Prop := w'.ownsRow w.heap.size 42 2 v L.length (pcells L)
def TnAt (W : World) (K : List Pt) (v i : Value) (wr : World) : Prop := ∃ k : Nat, i = .int .i64 ((K.length : Int) - 1 - (k : Int)) ∧ k ≤ K.length ∧ wr.ownsRow W.heap.size 42 2 v k (pcells (K.reverse.take k)) ∧ Below W.heap.size W wr
end

section
set_option linter.unusedVariables false
set_option linter.unusedSimpArgs false
open Go.RowKit
def FrAt (W : World) (K : List Pt) (s : Int) (v x i : Value) (wr : World) : Prop := ∃ (k : Nat) (j : Int), x = .int .i64 (k : Int) ∧ i = .int .i64 j ∧ (k = 0 ∧ j = s ∨ 0 ≤ j ∧ j ≤ (K.length : Int) ∧ j % (K.length : Int) = (s + (k : Int)) % (K.length : Int)) ∧
  k ≤ K.length ∧ wr.ownsRow W.heap.size 42 2 v k (pcells ((rotF K s).take k)) ∧ Below W.heap.size W wr
end

section
set_option linter.unusedVariables false
set_option linter.unusedSimpArgs false
open Go.RowKit
theorem own_reads {W w' : World} {v : Value} {L : List Pt} (h : POwn W w' v L) : ∃ a cap, v = .slice a L.length cap ∧ PReads w' a L.length L := by
  obtain ⟨a', cap', e, hR⟩ := preads_of_owns h
  exact ⟨a', cap', e, hR⟩
theorem own_readn {W w' : World} {v : Value} {L : List Pt} {n : Nat} (hn : L.length = n) (h : POwn W w' v L) : ∃ a cap, v = .slice a n cap ∧ PReads w' a n L := by
  subst hn; exact own_reads h
end

section
set_option linter.unusedVariables false
set_option linter.unusedSimpArgs false
open Go.RowKit
open Classical in
noncomputable def sameB (K M : List Pt) : Bool := decide (SameF K M)
def seqM (M : List Pt) (t : Nat) : List Pt := if t = 1 then M.reverse else M
def OutS (W : World) (K M : List Pt) (n : Nat) (x y : Value) (wr : World) : Prop := ∃ (t : Nat) (a' : Option Addr) (ca' : Nat), x = .int .i64 (t : Int) ∧ y = .slice a' n ca' ∧ t ≤ 2 ∧ PReads wr a' n (seqM M t) ∧
  (0 < t → ∀ i : Nat, i < K.length → K ≠ rotF M (i : Int)) ∧ (1 < t → ∀ i : Nat, i < K.length → K ≠ rotF M.reverse (i : Int)) ∧ Cls W wr
def MidS (W : World) (K M : List Pt) (x : Value) (wr : World) : Prop := ∃ i : Nat, x = .int .i64 (i : Int) ∧ i ≤ K.length ∧ (∀ j : Nat, j < i → K ≠ rotF M (j : Int)) ∧ Cls W wr
def InnS (W : World) (K M : List Pt) (i : Nat) (x y : Value) (wr : World) : Prop := ∃ (k : Nat) (s : Bool), x = .int .i64 (k : Int) ∧ y = .bool s ∧ k ≤ K.length ∧ (s = true → ∀ j : Nat, j < k → K.getD j (0, 0) = cyc M ((i : Int) + (j : Int))) ∧ (s = false → K ≠ rotF M (i : Int)) ∧ Cls W wr
end
end Go.Proofs.YthphdiigjimchaaGreat

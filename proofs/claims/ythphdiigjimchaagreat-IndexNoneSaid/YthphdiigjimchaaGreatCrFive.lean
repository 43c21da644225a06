/- Contracts of package cross: segment's turn, contains, valid; turns; slices.Index, slices.Contains over points. Contract of cross.common: of some points those that are on both segments, each once. Contract of cross.Ends. Contract of cross.Meets. The laws' own awake (apportionlaw08); contract of apportionref08.Meets is in CrE. The law CrossSplit: the walk. The law CrossApart: the walk. Contract of apportionref08.Meets. -/
import Derived.Test.YthphdiigjimchaaGreatCrE
import Derived.Deep.RegionHeld3
import Derived.ArgAppend
import Derived.ChangeKeysEq
namespace Go.Proofs.YthphdiigjimchaaGreat
section
set_option linter.unusedVariables false
set_option linter.unusedSimpArgs false
open Go.RowKit
def sg (ax ay bx by_ : Int) : Value := .agg #[.int .i64 ax, .int .i64 ay, .int .i64 bx, .int .i64 by_]
theorem n_sgTurn (ax ay bx by_ px py : Int) (w : World) : Calls Tryz.prog 198 #[sg ax ay bx by_, pt px py] w fun e w' => e = .returned (.int .i64 (turnF ax ay bx by_ px py)) ∧ Junk w w' := by
  have H := Lib.hid (fun w' => n_ptTurn ax ay bx by_ px py w')
  generalize turnF ax ay bx by_ px py = t at *
  unfold sg
  unfold pt at *
  go_enter Tryz.func198, Tryz.ntmps198
  go_wp2_with (go_at_call 97; (with_reducible refine (H.out _).mono ?_); rintro e w1 ⟨rfl, J1, d1, rfl⟩)
  go_ret
  exact ⟨rfl, junk_of_below (by (repeat' first | with_reducible (first | apply Below.refl | assumption | apply bw_a | apply bw_d | apply bw_n | apply bw_p | apply bw_c | apply bw_r) | go_size))⟩
theorem n_sgOn (ax ay bx by_ px py : Int) (w : World) : Calls Tryz.prog 216 #[sg ax ay bx by_, pt px py] w fun e w' => e = .returned (.bool (onB px py ax ay bx by_)) ∧ Junk w w' := by
  have H := Lib.hid (fun w' => n_ptOn px py ax ay bx by_ w')
  generalize onB px py ax ay bx by_ = t at *
  unfold sg
  unfold pt at *
  go_enter Tryz.func216, Tryz.ntmps216
  go_wp2_with (go_at_call 215; (with_reducible refine (H.out _).mono ?_); rintro e w1 ⟨rfl, J1, d1, rfl⟩)
  go_ret
  exact ⟨rfl, junk_of_below (by (repeat' first | with_reducible (first | apply Below.refl | assumption | apply bw_a | apply bw_d | apply bw_n | apply bw_p | apply bw_c | apply bw_r) | go_size))⟩
set_option maxRecDepth 100000 in
set_option maxHeartbeats 1000000 in
theorem n_sgValid (ax ay bx by_ : Int) (w : World) : Calls Tryz.prog 199 #[sg ax ay bx by_] w fun e w' => e = .returned (.bool (mayQ (ax, ay) (bx, by_))) ∧ Junk w w' := by
  have H1 := Lib.hid (fun w' => n_ptValid ax ay w')
  have H2 := Lib.hid (fun w' => n_ptValid bx by_ w')
  rw [may_is]
  generalize okP ax ay = v1 at *
  generalize okP bx by_ = v2 at *
  unfold sg
  unfold pt at *
  cases v1 with
  | false =>
    simp only [Bool.false_and]
    go_enter Tryz.func199, Tryz.ntmps199
    go_wp2_with (go_at_call 100; (first | (with_reducible refine (H1.out _).mono ?_) | (with_reducible refine (H2.out _).mono ?_)); rintro e w1 ⟨rfl, J1, d1, rfl⟩)
    go_ret
    exact ⟨rfl, junk_of_below (by (repeat' first | with_reducible (first | apply Below.refl | assumption | apply bw_a | apply bw_d | apply bw_n | apply bw_p | apply bw_c | apply bw_r) | go_size))⟩
  | true =>
    cases v2 with
    | false =>
      simp only [Bool.false_and, Bool.true_and]
      go_enter Tryz.func199, Tryz.ntmps199
      go_wp2_with (go_at_call 100; (first | (with_reducible refine (H1.out _).mono ?_) | (with_reducible refine (H2.out _).mono ?_)); rintro e w1 ⟨rfl, J1, d1, rfl⟩)
      go_ret
      exact ⟨rfl, junk_of_below (by (repeat' first | with_reducible (first | apply Below.refl | assumption | apply bw_a | apply bw_d | apply bw_n | apply bw_p | apply bw_c | apply bw_r) | go_size))⟩
    | true =>
      simp only [Bool.true_and]
      by_cases hx : ax = bx
      · subst hx
        by_cases hy : ay = by_
        · subst hy
          rw [show (!(ax == ax && ay == ay)) = false by simp]
          go_enter Tryz.func199, Tryz.ntmps199
          go_wp2_with (go_at_call 100; (first | (with_reducible refine (H1.out _).mono ?_) | (with_reducible refine (H2.out _).mono ?_)); rintro e w1 ⟨rfl, J1, d1, rfl⟩)
          go_ret
          exact ⟨rfl, junk_of_below (by (repeat' first | with_reducible (first | apply Below.refl | assumption | apply bw_a | apply bw_d | apply bw_n | apply bw_p | apply bw_c | apply bw_r) | go_size))⟩
        · have e2 : (ay == by_) = false := by rw [beq_eq_false_iff_ne]; exact hy
          rw [show (!(ax == ax && ay == by_)) = true by simp [hy]]
          clear hy
          go_enter Tryz.func199, Tryz.ntmps199
          go_wp2_with (go_at_call 100; (first | (with_reducible refine (H1.out _).mono ?_) | (with_reducible refine (H2.out _).mono ?_)); rintro e w1 ⟨rfl, J1, d1, rfl⟩)
          go_ret
          exact ⟨rfl, junk_of_below (by (repeat' first | with_reducible (first | apply Below.refl | assumption | apply bw_a | apply bw_d | apply bw_n | apply bw_p | apply bw_c | apply bw_r) | go_size))⟩
      · have e2 : (ax == bx) = false := by rw [beq_eq_false_iff_ne]; exact hx
        rw [show (!(ax == bx && ay == by_)) = true by simp [hx]]
        clear hx
        go_enter Tryz.func199, Tryz.ntmps199
        go_wp2_with (go_at_call 100; (first | (with_reducible refine (H1.out _).mono ?_) | (with_reducible refine (H2.out _).mono ?_)); rintro e w1 ⟨rfl, J1, d1, rfl⟩)
        go_ret
        exact ⟨rfl, junk_of_below (by (repeat' first | with_reducible (first | apply Below.refl | assumption | apply bw_a | apply bw_d | apply bw_n | apply bw_p | apply bw_c | apply bw_r) | go_size))⟩
theorem results_four {fn : Func} {p : Tmp} (h : fn.results = #[.cell p 201]) (tmps : Array Value) (w : World) (g : Nat) (c : Array Value)
    (hp : tmps.getD p undef = .pointer (some ⟨g, 0, none⟩)) (hr : w.rowAt g = some c) (hc : c.size = 4) : (results fn tmps).run Tryz.prog w = .ok (.agg c) w := by
  obtain ⟨ty, hg⟩ := rowAt_some hr
  have hp' : tmps[p]?.getD undef = .pointer (some ⟨g, 0, none⟩) := by simpa using hp
  simp [results, h, hp', asAddr, run_loadVar_row w g ty _ c (0, 0) _ hg Tryz.underlying201 rfl (by rw [hc]; kernel_rfl)]
set_option maxRecDepth 100000 in
set_option maxHeartbeats 1000000 in
theorem n_crTurns (ax ay bx by_ cx cy dx dy : Int) (w : World) : Calls Tryz.prog 165 #[sg ax ay bx by_, sg cx cy dx dy] w fun e w' =>
    e = .returned (.agg #[.int .i64 (turnF ax ay bx by_ cx cy), .int .i64 (turnF ax ay bx by_ dx dy), .int .i64 (turnF cx cy dx dy ax ay), .int .i64 (turnF cx cy dx dy bx by_)]) ∧ Junk w w' := by
  have H1 := Lib.hid (fun w' => n_sgTurn ax ay bx by_ cx cy w')
  have H2 := Lib.hid (fun w' => n_sgTurn ax ay bx by_ dx dy w')
  have H3 := Lib.hid (fun w' => n_sgTurn cx cy dx dy ax ay w')
  have H4 := Lib.hid (fun w' => n_sgTurn cx cy dx dy bx by_ w')
  generalize turnF ax ay bx by_ cx cy = t1 at *
  generalize turnF ax ay bx by_ dx dy = t2 at *
  generalize turnF cx cy dx dy ax ay = t3 at *
  generalize turnF cx cy dx dy bx by_ = t4 at *
  unfold pt at *
  unfold sg at *
  go_enter Tryz.func165, Tryz.ntmps165
  go_upto_region 1 with fail
  refine region_quiet_tail (C := Cls (((w.alloc (.cells #[.int .i64 ax, .int .i64 ay, .int .i64 bx, .int .i64 by_] 204)).alloc (.cells #[.int .i64 cx, .int .i64 cy, .int .i64 dx, .int .i64 dy] 204)).alloc (.cells #[.int .i64 0, .int .i64 0, .int .i64 0, .int .i64 0] 201))) 17 (by kernel_rfl) (by kernel_rfl) ⟨#[], _, (plus_nil _).symm⟩ ?_
  simp only [List.take_succ_cons, List.take_zero, List.drop_succ_cons, List.drop_zero]
  repeat (refine wpQuiet_step (fun K hK => ?_); go_simp; first | (refine hK _ ?_; clear hK K) | (apply Exists.intro; refine ⟨?_, hK _ ?_⟩; (rintro w3_ ⟨J3_, d3_, rfl⟩; first | (with_reducible exact rfl) | (go_simp; with_reducible exact rfl) | (go_simp; (first | (with_reducible refine (H1.out _).mono ?_) | (with_reducible refine (H2.out _).mono ?_) | (with_reducible refine (H3.out _).mono ?_) | (with_reducible refine (H4.out _).mono ?_)); rintro e_ w_ ⟨rfl, J4_, d4_, rfl⟩; exact ⟨rfl, J3_ ++ J4_, d4_, by simp only [plus_plus, Array.append_assoc]⟩)); clear hK K))
  refine wpQuiet_nil ?_
  rintro w3 ⟨J3, d3, rfl⟩
  go_wp2_with fail
  refine bodyPost_ret (results_four rfl _ _ (w.heap.size + 1 + 1) #[.int .i64 t1, .int .i64 t2, .int .i64 t3, .int .i64 t4] rfl (by simp [go_sem]) rfl) rfl ⟨rfl, junk_of_below (by (repeat' first | with_reducible (first | apply Below.refl | assumption | apply bw_a | apply bw_d | apply bw_n | apply bw_p | apply bw_c | apply bw_r) | go_size))⟩
def idxQ (K : List (Int × Int)) (x : Int × Int) : Int := if x ∈ K then (K.idxOf x : Int) else -1
def IdxAt (w : World) (K : List (Int × Int)) (x : Int × Int) (i : Value) (wr : World) : Prop := ∃ k : Nat, i = .int .i64 (k : Int) ∧ k ≤ K.length ∧ x ∉ K.take k ∧ Junk w wr
theorem idx_hit {K : List (Int × Int)} {k : Nat} {x y : Int} (hk : k < K.length) (h : K.getD k (0, 0) = (x, y)) (hn : (x, y) ∉ K.take k) : idxQ K (x, y) = (k : Int) := by
  rw [List.getD_eq_getElem?_getD, List.getElem?_eq_getElem hk] at h
  simp at h
  unfold idxQ
  rw [if_pos (by rw [← h]; exact List.getElem_mem hk)]
  congr 1
  conv => lhs; rw [← List.take_append_drop k K]
  rw [List.idxOf_append, if_neg hn, List.drop_eq_getElem_cons hk, h, List.idxOf_cons_self]
  simp; omega
theorem idx_next {K : List (Int × Int)} {k : Nat} {u v x y : Int} (hk : k < K.length) (h : K.getD k (0, 0) = (u, v)) (hn : (x, y) ∉ K.take k) (hne : (u, v) ≠ (x, y)) : (x, y) ∉ K.take (k + 1) := by
  rw [List.getD_eq_getElem?_getD, List.getElem?_eq_getElem hk] at h
  simp at h
  rw [List.take_succ_eq_append_getElem hk, h]
  simp only [List.mem_append, List.mem_singleton]
  rintro (h1 | h1)
  · exact hn h1
  · exact hne h1.symm
set_option maxRecDepth 100000 in
set_option maxHeartbeats 1000000 in
theorem n_slIndex (w : World) (a : Option Addr) (n ca : Nat) (K : List (Int × Int)) (x y : Int) (hK : PReads w a n K) (hs : n ≤ 9223372036854775807) :
    Calls Tryz.prog 214 #[.slice a n ca, pt x y] w fun e w' => e = .returned (.int .i64 (idxQ K (x, y))) ∧ Junk w w' := by
  have l1 := hK.1
  have HK := Lib.hid hK.2
  obtain ⟨R, hR⟩ : ∃ R, idxQ K (x, y) = R := ⟨_, rfl⟩
  rw [hR]
  have HR := Lib.hid hR
  have L1 := Lib.hid l1
  clear hK hR l1
  unfold pt
  go_enter Tryz.func214, Tryz.ntmps214
  go_wp2_with fail
  obtain ⟨W, hW⟩ : ∃ W, w.alloc (.cells #[.int .i64 x, .int .i64 y] 42) = W := ⟨_, rfl⟩
  have c0 : W.cell? ⟨w.heap.size, 0, none⟩ = some (.int .i64 x) := by rw [← hW]; simp [go_sem]
  have c1 : W.cell? ⟨w.heap.size, 1, none⟩ = some (.int .i64 y) := by rw [← hW]; simp [go_sem]
  have hb0 : w.heap.size < W.heap.size := by rw [← hW]; simp; try omega
  have hj : Below w.heap.size w W := by rw [← hW]; (repeat' first | with_reducible (first | apply Below.refl | assumption | apply bw_a | apply bw_d | apply bw_n | apply bw_p | apply bw_c | apply bw_r) | go_size)
  have hsz : w.heap.size ≤ W.heap.size := hj.size
  rw [hW]
  clear hW
  go_loopw [8] (fun i wr => IdxAt W K (x, y) i wr) (fun i _ => n - (intOf i).toNat)
  case atStart => exact ⟨0, rfl, by omega, by simp, #[], _, by simp [World.plus]; rfl⟩
  case round =>
    obtain ⟨k, rfl, k1, hk, J, d, rfl⟩ := hrel
    rw [L1.out] at k1
    by_cases hlt : k < n
    · rcases HK.out with h0 | ⟨b1, o1, rfl, hc1⟩
      · omega
      obtain ⟨p1, p2⟩ := hc1 k hlt
      have i1 : (k : Int) < (n : Int) := by omega
      have hb : b1 < w.heap.size := World.block_lt_of_cell? _ _ p1
      have hbW : b1 < W.heap.size := by omega
      have HK1 := Lib.hid hk
      clear hc1 hk
      obtain ⟨u, v, hx1⟩ : ∃ u v : Int, (K.getD k (0, 0)) = (u, v) := ⟨_, _, rfl⟩
      rw [hx1] at p1 p2
      have q1 := (World.cell?_of_block (hj.block _ hb)).trans p1
      have q2 := (World.cell?_of_block (hj.block _ hb)).trans p2
      have HX1 := Lib.hid hx1
      clear hx1 p1 p2
      by_cases h5 : x = u
      · subst h5
        by_cases h6 : y = v
        · subst h6
          have HN := Lib.hid (idx_hit (by rw [L1.out]; exact hlt) HX1.out HK1.out)
          go_upto_region 4 with fail
          refine region_quiet_all (C := Cls W) (by kernel_rfl) (by kernel_rfl) ⟨_, _, rfl⟩ ?_
          repeat (first | (refine qw_skip (by rfl) ?_; simp only [Act.put, List.setIfInBounds_toArray, List.set_cons_succ, List.set_cons_zero]) | (refine qw_want (by rfl) (fun K hK => ?_); go_simp; first | (refine hK _ ?_; clear hK K) | (apply Exists.intro; refine ⟨?_, hK _ ?_⟩; (rintro w3_ ⟨J3_, d3_, rfl⟩; first | (with_reducible exact rfl) | (go_simp; with_reducible exact rfl) | (go_simp; (first | (with_reducible refine (HX1.out _).mono ?_)); rintro e_ w_ ⟨rfl, J4_, d4_, rfl⟩; exact ⟨rfl, J3_ ++ J4_, d4_, by simp only [plus_plus, Array.append_assoc]⟩)); clear hK K)))
          refine qw_nil ?_
          rintro w3 ⟨J3, d3, rfl⟩
          go_wp2_with fail
          go_ret
          exact ⟨congrArg (fun z => Ending.returned (.int .i64 z)) (HN.out.symm.trans HR.out), junk_of_below (by (repeat' first | with_reducible (first | apply Below.refl | assumption | apply bw_a | apply bw_d | apply bw_n | apply bw_p | apply bw_c | apply bw_r) | go_size))⟩
        · have e2 : (y == v) = false := by rw [beq_eq_false_iff_ne]; exact h6
          have HN := Lib.hid (idx_next (x := x) (y := y) (by rw [L1.out]; exact hlt) HX1.out HK1.out (fun e => h6 (by injection e with _ e; exact e.symm)))
          clear h6
          go_upto_region 4 with fail
          refine region_quiet_all (C := Cls W) (by kernel_rfl) (by kernel_rfl) ⟨_, _, rfl⟩ ?_
          repeat (first | (refine qw_skip (by rfl) ?_; simp only [Act.put, List.setIfInBounds_toArray, List.set_cons_succ, List.set_cons_zero]) | (refine qw_want (by rfl) (fun K hK => ?_); go_simp; first | (refine hK _ ?_; clear hK K) | (apply Exists.intro; refine ⟨?_, hK _ ?_⟩; (rintro w3_ ⟨J3_, d3_, rfl⟩; first | (with_reducible exact rfl) | (go_simp; with_reducible exact rfl) | (go_simp; (first | (with_reducible refine (HX1.out _).mono ?_)); rintro e_ w_ ⟨rfl, J4_, d4_, rfl⟩; exact ⟨rfl, J3_ ++ J4_, d4_, by simp only [plus_plus, Array.append_assoc]⟩)); clear hK K)))
          refine qw_nil ?_
          rintro w3 ⟨J3, d3, rfl⟩
          go_wp2_with fail
          go_roundw
          case rel => exact ⟨k + 1, by go_num, by rw [L1.out]; omega, HN.out, junk_of_below (by (repeat' first | with_reducible (first | apply Below.refl | assumption | apply bw_a | apply bw_d | apply bw_n | apply bw_p | apply bw_c | apply bw_r) | go_size))⟩
          case measure => simp [intOf]; omega
      · have e2 : (x == u) = false := by rw [beq_eq_false_iff_ne]; exact h5
        have HN := Lib.hid (idx_next (x := x) (y := y) (by rw [L1.out]; exact hlt) HX1.out HK1.out (fun e => h5 (by injection e with e _; exact e.symm)))
        clear h5
        go_upto_region 4 with fail
        refine region_quiet_all (C := Cls W) (by kernel_rfl) (by kernel_rfl) ⟨_, _, rfl⟩ ?_
        repeat (first | (refine qw_skip (by rfl) ?_; simp only [Act.put, List.setIfInBounds_toArray, List.set_cons_succ, List.set_cons_zero]) | (refine qw_want (by rfl) (fun K hK => ?_); go_simp; first | (refine hK _ ?_; clear hK K) | (apply Exists.intro; refine ⟨?_, hK _ ?_⟩; (rintro w3_ ⟨J3_, d3_, rfl⟩; first | (with_reducible exact rfl) | (go_simp; with_reducible exact rfl) | (go_simp; (first | (with_reducible refine (HX1.out _).mono ?_)); rintro e_ w_ ⟨rfl, J4_, d4_, rfl⟩; exact ⟨rfl, J3_ ++ J4_, d4_, by simp only [plus_plus, Array.append_assoc]⟩)); clear hK K)))
        refine qw_nil ?_
        rintro w3 ⟨J3, d3, rfl⟩
        go_wp2_with fail
        go_roundw
        case rel => exact ⟨k + 1, by go_num, by rw [L1.out]; omega, HN.out, junk_of_below (by (repeat' first | with_reducible (first | apply Below.refl | assumption | apply bw_a | apply bw_d | apply bw_n | apply bw_p | apply bw_c | apply bw_r) | go_size))⟩
        case measure => simp [intOf]; omega
    · obtain rfl : k = n := by omega
      have HE := Lib.hid (show R = -1 by rw [← HR.out]; rw [List.take_of_length_le (by rw [L1.out]; omega)] at hk; unfold idxQ; rw [if_neg hk])
      clear hk
      go_wp2_with fail
      go_ret
      exact ⟨congrArg (fun z => Ending.returned (.int .i64 z)) HE.out.symm, junk_of_below (by (repeat' first | with_reducible (first | apply Below.refl | assumption | apply bw_a | apply bw_d | apply bw_n | apply bw_p | apply bw_c | apply bw_r) | go_size))⟩
theorem n_slContains (w : World) (a : Option Addr) (n ca : Nat) (K : List (Int × Int)) (x y : Int) (hK : PReads w a n K) (hs : n ≤ 9223372036854775807) :
    Calls Tryz.prog 193 #[.slice a n ca, pt x y] w fun e w' => e = .returned (.bool (decide ((x, y) ∈ K))) ∧ Junk w w' := by
  have HI := Lib.hid (fun (w' : World) (h : PReads w' a n K) => n_slIndex w' a n ca K x y h hs)
  have HP := Lib.hid hK
  have hi : ((x, y) ∈ K ∧ 0 ≤ idxQ K (x, y)) ∨ ((x, y) ∉ K ∧ ¬ 0 ≤ idxQ K (x, y)) := by
    unfold idxQ
    by_cases h : (x, y) ∈ K
    · exact .inl ⟨h, by rw [if_pos h]; omega⟩
    · exact .inr ⟨h, by rw [if_neg h]; decide⟩
  generalize idxQ K (x, y) = r at *
  unfold pt at *
  clear hK
  rcases hi with ⟨h, h1⟩ | ⟨h, h1⟩
  · rw [decide_eq_true h]
    clear h
    go_enter Tryz.func193, Tryz.ntmps193
    go_wp2_with (go_at_call 214; (with_reducible refine (HI.out _ (HP.out.below (by (repeat' first | with_reducible (first | apply Below.refl | assumption | apply bw_a | apply bw_d | apply bw_n | apply bw_p | apply bw_c | apply bw_r) | go_size)))).mono ?_); rintro e w1 ⟨rfl, J1, d1, rfl⟩)
    go_ret
    exact ⟨rfl, junk_of_below (by (repeat' first | with_reducible (first | apply Below.refl | assumption | apply bw_a | apply bw_d | apply bw_n | apply bw_p | apply bw_c | apply bw_r) | go_size))⟩
  · rw [decide_eq_false h]
    clear h
    go_enter Tryz.func193, Tryz.ntmps193
    go_wp2_with (go_at_call 214; (with_reducible refine (HI.out _ (HP.out.below (by (repeat' first | with_reducible (first | apply Below.refl | assumption | apply bw_a | apply bw_d | apply bw_n | apply bw_p | apply bw_c | apply bw_r) | go_size)))).mono ?_); rintro e w1 ⟨rfl, J1, d1, rfl⟩)
    go_ret
    exact ⟨congrArg (fun b => Ending.returned (.bool b)) (decide_eq_false (by omega)), junk_of_below (by (repeat' first | with_reducible (first | apply Below.refl | assumption | apply bw_a | apply bw_d | apply bw_n | apply bw_p | apply bw_c | apply bw_r) | go_size))⟩
end

section
set_option linter.unusedVariables false
set_option linter.unusedSimpArgs false
open Go.RowKit
def onBoth (ax ay bx by_ cx cy dx dy : Int) (p : Int × Int) : Bool := onB p.1 p.2 ax ay bx by_ && onB p.1 p.2 cx cy dx dy
def comQ (f : Int × Int → Bool) (K : List (Int × Int)) : List (Int × Int) := K.foldl (fun O x => stepQ O x (f x)) []
theorem com_step {f : Int × Int → Bool} {K : List (Int × Int)} {k : Nat} {u v : Int} (hk : k < K.length) (h : K.getD k (0, 0) = (u, v)) : comQ f (K.take (k + 1)) = stepQ (comQ f (K.take k)) (u, v) (f (u, v)) := by
  rw [List.getD_eq_getElem?_getD, List.getElem?_eq_getElem hk] at h
  simp at h
  unfold comQ
  rw [List.take_succ_eq_append_getElem hk, List.foldl_append, h]
  rfl
theorem step_len (O : List (Int × Int)) (x : Int × Int) (on : Bool) : (stepQ O x on).length ≤ O.length + 1 := by
  unfold stepQ
  split <;> simp
theorem com_len (f : Int × Int → Bool) (K : List (Int × Int)) : (comQ f K).length ≤ K.length := by
  have h : ∀ (K O : List (Int × Int)), (K.foldl (fun O x => stepQ O x (f x)) O).length ≤ O.length + K.length := by
    intro K
    induction K with
    | nil => intro O; simp
    | cons x K ih =>
      intro O
      have := ih (stepQ O x (f x))
      have := step_len O x (f x)
      simp only [List.foldl_cons, List.length_cons]
      omega
  simpa [comQ] using h K []
theorem step_mem (O : List (Int × Int)) (x : Int × Int) (on : Bool) : stepQ O x on = if on && !decide (x ∈ O) then O ++ [x] else O := by
  unfold stepQ
  have : O.all (fun y => decide (y ≠ x)) = !decide (x ∈ O) := by
    by_cases h : x ∈ O
    · rw [decide_eq_true h, Bool.not_true, List.all_eq_false]
      exact ⟨x, h, by simp⟩
    · rw [decide_eq_false h, Bool.not_false, List.all_eq_true]
      intro y hy
      exact decide_eq_true fun e => h (e ▸ hy)
  rw [this]
def ComAt (W : World) (f : Int × Int → Bool) (K : List (Int × Int)) (v i : Value) (wr : World) : Prop :=
  ∃ k : Nat, i = .int .i64 (k : Int) ∧ k ≤ K.length ∧ wr.ownsRow W.heap.size 42 2 v (comQ f (K.take k)).length (pcells (comQ f (K.take k))) ∧ Below W.heap.size W wr
set_option maxRecDepth 100000 in
set_option maxHeartbeats 4000000 in
theorem n_crCommon (w : World) (ax ay bx by_ cx cy dx dy : Int) (a : Option Addr) (n ca : Nat) (K : List (Int × Int)) (hK : PReads w a n K) (hs : n ≤ 400) :
    Calls Tryz.prog 200 #[sg ax ay bx by_, sg cx cy dx dy, .slice a n ca] w fun e w' =>
      (∃ a' cap, e = .returned (.slice a' (comQ (onBoth ax ay bx by_ cx cy dx dy) K).length cap) ∧ PReads w' a' (comQ (onBoth ax ay bx by_ cx cy dx dy) K).length (comQ (onBoth ax ay bx by_ cx cy dx dy) K)) ∧ Junk w w' := by
  have l1 := hK.1
  have L1 := Lib.hid l1
  have HON1 := Lib.hid (fun (u v : Int) (w' : World) => n_sgOn ax ay bx by_ u v w')
  have HON2 := Lib.hid (fun (u v : Int) (w' : World) => n_sgOn cx cy dx dy u v w')
  have HF := Lib.hid (show ∀ u v : Int, onBoth ax ay bx by_ cx cy dx dy (u, v) = (onB u v ax ay bx by_ && onB u v cx cy dx dy) from fun _ _ => rfl)
  generalize onBoth ax ay bx by_ cx cy dx dy = f at *
  unfold pt sg at HON1 HON2
  unfold sg
  have HP := Lib.hid hK
  clear hK l1
  go_enter Tryz.func200, Tryz.ntmps200
  go_wp2_with fail
  obtain ⟨W, hW⟩ : ∃ W, (w.alloc (.cells #[.int .i64 ax, .int .i64 ay, .int .i64 bx, .int .i64 by_] 204)).alloc (.cells #[.int .i64 cx, .int .i64 cy, .int .i64 dx, .int .i64 dy] 204) = W := ⟨_, rfl⟩
  have c00 : W.cell? ⟨w.heap.size, 0, none⟩ = some (.int .i64 ax) := by rw [← hW]; simp [go_sem]
  have c01 : W.cell? ⟨w.heap.size, 1, none⟩ = some (.int .i64 ay) := by rw [← hW]; simp [go_sem]
  have c02 : W.cell? ⟨w.heap.size, 2, none⟩ = some (.int .i64 bx) := by rw [← hW]; simp [go_sem]
  have c03 : W.cell? ⟨w.heap.size, 3, none⟩ = some (.int .i64 by_) := by rw [← hW]; simp [go_sem]
  have hb0 : w.heap.size < W.heap.size := by rw [← hW]; simp; try omega
  have c10 : W.cell? ⟨w.heap.size + 1, 0, none⟩ = some (.int .i64 cx) := by rw [← hW]; simp [go_sem]
  have c11 : W.cell? ⟨w.heap.size + 1, 1, none⟩ = some (.int .i64 cy) := by rw [← hW]; simp [go_sem]
  have c12 : W.cell? ⟨w.heap.size + 1, 2, none⟩ = some (.int .i64 dx) := by rw [← hW]; simp [go_sem]
  have c13 : W.cell? ⟨w.heap.size + 1, 3, none⟩ = some (.int .i64 dy) := by rw [← hW]; simp [go_sem]
  have hb1 : w.heap.size + 1 < W.heap.size := by rw [← hW]; simp; try omega
  have hj : Below w.heap.size w W := by rw [← hW]; (repeat' first | with_reducible (first | apply Below.refl | assumption | apply bw_a | apply bw_d | apply bw_n | apply bw_p | apply bw_c | apply bw_r) | go_size)
  have hsz : w.heap.size ≤ W.heap.size := hj.size
  have HPW := Lib.hid (HP.out.below hj)
  rw [hW]
  clear hW
  go_loopw [7, 12] (fun v i wr => ComAt W f K v i wr) (fun _ i _ => n - (intOf i).toNat)
  case atStart => exact ⟨0, rfl, by omega, pnil_owns _ _, Below.refl _ _⟩
  case round =>
    obtain ⟨k, rfl, k1, hown, hB⟩ := hrel
    rw [L1.out] at k1
    obtain ⟨wo, rfl⟩ : ∃ wo : World, wo = wr := ⟨_, rfl⟩
    have len4 := Nat.le_trans (com_len f (K.take k)) (show (K.take k).length ≤ 400 by rw [List.length_take]; have := L1.out; omega)
    by_cases hlt : k < n
    · rcases HPW.out.2 with h0 | ⟨b1, o1, rfl, hc1⟩
      · omega
      obtain ⟨p1, p2⟩ := hc1 k hlt
      have i1 : (k : Int) < (n : Int) := by omega
      obtain ⟨u, v, hx⟩ : ∃ u v : Int, (K.getD k (0, 0)) = (u, v) := ⟨_, _, rfl⟩
      have HS := Lib.hid ((com_step (f := f) (by rw [L1.out]; exact hlt) hx).trans (step_mem _ _ _))
      rw [hx] at p1 p2
      have hbW : b1 < W.heap.size := World.block_lt_of_cell? _ _ p1
      clear hc1 hx
      generalize comQ f (K.take k) = O at *
      obtain ⟨a', cap', rfl, hR⟩ := preads_of_owns hown
      have HCO := Lib.hid (fun (w' : World) (h : PReads w' a' O.length O) => n_slContains w' a' O.length cap' O u v h (by omega))
      have HOW := Lib.hid hown
      have HB := Lib.hid hB
      have HR := Lib.hid hR
      have r00 := (World.cell?_of_block (a := ⟨w.heap.size, 0, none⟩) (hB.block _ hb0)).trans c00
      have r01 := (World.cell?_of_block (a := ⟨w.heap.size, 1, none⟩) (hB.block _ hb0)).trans c01
      have r02 := (World.cell?_of_block (a := ⟨w.heap.size, 2, none⟩) (hB.block _ hb0)).trans c02
      have r03 := (World.cell?_of_block (a := ⟨w.heap.size, 3, none⟩) (hB.block _ hb0)).trans c03
      have rb0 : w.heap.size < wo.heap.size := Nat.lt_of_lt_of_le hb0 hB.size
      have r10 := (World.cell?_of_block (a := ⟨w.heap.size + 1, 0, none⟩) (hB.block _ hb1)).trans c10
      have r11 := (World.cell?_of_block (a := ⟨w.heap.size + 1, 1, none⟩) (hB.block _ hb1)).trans c11
      have r12 := (World.cell?_of_block (a := ⟨w.heap.size + 1, 2, none⟩) (hB.block _ hb1)).trans c12
      have r13 := (World.cell?_of_block (a := ⟨w.heap.size + 1, 3, none⟩) (hB.block _ hb1)).trans c13
      have rb1 : w.heap.size + 1 < wo.heap.size := Nat.lt_of_lt_of_le hb1 hB.size
      have s0 := (World.cell?_of_block (hB.block _ hbW)).trans p1
      have s1 := (World.cell?_of_block (hB.block _ hbW)).trans p2
      have sb : b1 < wo.heap.size := Nat.lt_of_lt_of_le hbW hB.size
      have hsz2 : W.heap.size ≤ wo.heap.size := hB.size
      have HO1 := Lib.hid (fun w' => HON1.out u v w')
      have HO2 := Lib.hid (fun w' => HON2.out u v w')
      rw [HF.out] at HS
      clear hown hB hR HON1 HON2 HF p1 p2 c00 c01 c02 c03 c10 c11 c12 c13
      generalize onB u v ax ay bx by_ = q1 at *
      generalize onB u v cx cy dx dy = q2 at *
      generalize decide ((u, v) ∈ O) = q3 at *
      have hq : q1 = false ∨ (q1 = true ∧ q2 = false) ∨ (q1 = true ∧ q2 = true ∧ q3 = true) ∨ (q1 = true ∧ q2 = true ∧ q3 = false) := by
        cases q1 <;> cases q2 <;> cases q3 <;> simp
      rcases hq with rfl | ⟨rfl, rfl⟩ | ⟨rfl, rfl, rfl⟩ | ⟨rfl, rfl, rfl⟩
      · go_wp2_with (first | (go_at_call 216; (with_reducible refine (HO1.out _).mono ?_); rintro e w1 ⟨rfl, J1, d1, rfl⟩) | (go_at_call 216; (with_reducible refine (HO2.out _).mono ?_); rintro e w1 ⟨rfl, J2, d2, rfl⟩))
        go_roundw
        case rel => exact ⟨k + 1, by go_num, by rw [L1.out]; omega, by rw [HS.out]; exact powns_below HOW.out (by (repeat' first | with_reducible (first | apply Below.refl | assumption | apply bw_a | apply bw_d | apply bw_n | apply bw_p | apply bw_c | apply bw_r) | go_size)), HB.out.trans (by (repeat' first | with_reducible (first | apply Below.refl | assumption | apply bw_a | apply bw_d | apply bw_n | apply bw_p | apply bw_c | apply bw_r) | go_size))⟩
        case measure => simp [intOf]; omega
      · go_wp2_with (first | (go_at_call 216; (with_reducible refine (HO1.out _).mono ?_); rintro e w1 ⟨rfl, J1, d1, rfl⟩) | (go_at_call 216; (with_reducible refine (HO2.out _).mono ?_); rintro e w1 ⟨rfl, J2, d2, rfl⟩))
        go_roundw
        case rel => exact ⟨k + 1, by go_num, by rw [L1.out]; omega, by rw [HS.out]; exact powns_below HOW.out (by (repeat' first | with_reducible (first | apply Below.refl | assumption | apply bw_a | apply bw_d | apply bw_n | apply bw_p | apply bw_c | apply bw_r) | go_size)), HB.out.trans (by (repeat' first | with_reducible (first | apply Below.refl | assumption | apply bw_a | apply bw_d | apply bw_n | apply bw_p | apply bw_c | apply bw_r) | go_size))⟩
        case measure => simp [intOf]; omega
      · go_wp2_with (first | (go_at_call 216; (with_reducible refine (HO1.out _).mono ?_); rintro e w1 ⟨rfl, J1, d1, rfl⟩) | (go_at_call 216; (with_reducible refine (HO2.out _).mono ?_); rintro e w1 ⟨rfl, J2, d2, rfl⟩) | (go_at_call 193; refine (HCO.out _ (HR.out.below (by (repeat' first | with_reducible (first | apply Below.refl | assumption | apply bw_a | apply bw_d | apply bw_n | apply bw_p | apply bw_c | apply bw_r) | go_size)))).mono ?_; rintro e w1 ⟨rfl, J3, d3, rfl⟩))
        go_roundw
        case rel => exact ⟨k + 1, by go_num, by rw [L1.out]; omega, by rw [HS.out]; exact powns_below HOW.out (by (repeat' first | with_reducible (first | apply Below.refl | assumption | apply bw_a | apply bw_d | apply bw_n | apply bw_p | apply bw_c | apply bw_r) | go_size)), HB.out.trans (by (repeat' first | with_reducible (first | apply Below.refl | assumption | apply bw_a | apply bw_d | apply bw_n | apply bw_p | apply bw_c | apply bw_r) | go_size))⟩
        case measure => simp [intOf]; omega
      · go_wp2_with (first | (go_at_call 216; (with_reducible refine (HO1.out _).mono ?_); rintro e w1 ⟨rfl, J1, d1, rfl⟩) | (go_at_call 216; (with_reducible refine (HO2.out _).mono ?_); rintro e w1 ⟨rfl, J2, d2, rfl⟩) | (go_at_call 193; refine (HCO.out _ (HR.out.below (by (repeat' first | with_reducible (first | apply Below.refl | assumption | apply bw_a | apply bw_d | apply bw_n | apply bw_p | apply bw_c | apply bw_r) | go_size)))).mono ?_; rintro e w1 ⟨rfl, J3, d3, rfl⟩) | (at_builtin; refine wpList_papp rfl (.tmp 30) (.tmp 32) rfl W.heap.size _ _ O rfl (powns_below HOW.out (by (repeat' first | with_reducible (first | apply Below.refl | assumption | apply bw_a | apply bw_d | apply bw_n | apply bw_p | apply bw_c | apply bw_r) | go_size))) _ u v rfl (by simp [go_sem]) (by simp [go_sem]) (by omega) (by simp; have := HB.out.size; omega) ?_; intro v' w' hown' hg'))
        go_roundw
        case rel => exact ⟨k + 1, by go_num, by rw [L1.out]; omega, by rw [HS.out]; simpa using hown', grown_below (B := W.heap.size) (a := W) (HB.out.trans (by (repeat' first | with_reducible (first | apply Below.refl | assumption | apply bw_a | apply bw_d | apply bw_n | apply bw_p | apply bw_c | apply bw_r) | go_size))) hg' (by simp; have := HB.out.size; omega) (powns_block HOW.out)⟩
        case measure => simp [intOf]; omega
    · obtain rfl : k = n := by omega
      rw [List.take_of_length_le (by rw [L1.out]; omega)] at hown len4
      obtain ⟨a', cap', rfl, hR⟩ := preads_of_owns hown
      have HR := Lib.hid hR
      have HB := Lib.hid (hj.trans (hB.mono hsz))
      clear hown hB hR
      go_wp2_with fail
      go_ret
      exact ⟨⟨a', cap', rfl, HR.out⟩, junk_of_below HB.out⟩
end

section
set_option linter.unusedVariables false
set_option linter.unusedSimpArgs false
open Go.RowKit
theorem com_all {a b c d : Int × Int} (h : (mayQ a b && mayQ c d) = true) : comQ (onBoth a.1 a.2 b.1 b.2 c.1 c.2 d.1 d.2) [a, b, c, d] = commonQ a b c d := by
  rw [← out_all h]
  rw [Bool.and_eq_true] at h
  have h1 := h.1
  have h2 := h.2
  unfold mayQ at h1 h2
  rw [Bool.and_eq_true, Bool.and_eq_true] at h1 h2
  obtain ⟨⟨va, vb⟩, _⟩ := h1
  obtain ⟨⟨vc, vd⟩, _⟩ := h2
  have k : ∀ {p x y : Int × Int}, okP p.1 p.2 = true → okP x.1 x.2 = true → okP y.1 y.2 = true → onQ p x y → onB p.1 p.2 x.1 x.2 y.1 y.2 = true := by
    intro p x y h1 h2 h3 h4
    unfold onB
    rw [h1, h2, h3]
    exact decide_eq_true h4
  have e1 : onBoth a.1 a.2 b.1 b.2 c.1 c.2 d.1 d.2 a = onK a b c d 0 := by unfold onBoth; rw [k va va vb onQ_left]; rfl
  have e2 : onBoth a.1 a.2 b.1 b.2 c.1 c.2 d.1 d.2 b = onK a b c d 1 := by unfold onBoth; rw [k vb va vb onQ_right]; rfl
  have e3 : onBoth a.1 a.2 b.1 b.2 c.1 c.2 d.1 d.2 c = onK a b c d 2 := by unfold onBoth; rw [k vc vc vd onQ_left, Bool.and_true]; rfl
  have e4 : onBoth a.1 a.2 b.1 b.2 c.1 c.2 d.1 d.2 d = onK a b c d 3 := by unfold onBoth; rw [k vd vc vd onQ_right, Bool.and_true]; rfl
  simp only [comQ, List.foldl_cons, List.foldl_nil, e1, e2, e3, e4, outQ, ptK]
theorem preads_four {w' : World} {g : Nat} {Z : Array Value} {ty : TypeId} {fz : Nat × Nat} {ax ay bx by_ cx cy dx dy : Int}
    (h : w'.heap[g]? = some (.cells (#[.int .i64 ax, .int .i64 ay, .int .i64 bx, .int .i64 by_] ++ (#[.int .i64 cx, .int .i64 cy, .int .i64 dx, .int .i64 dy] ++ Z)) ty fz)) : PReads w' (some ⟨g, 0, none⟩) 4 [(ax, ay), (bx, by_), (cx, cy), (dx, dy)] := by
  have e : ∀ j v, (#[Value.int .i64 ax, .int .i64 ay, .int .i64 bx, .int .i64 by_] ++ (#[Value.int .i64 cx, .int .i64 cy, .int .i64 dx, .int .i64 dy] ++ Z))[j]? = some v → w'.cell? ⟨g, j, none⟩ = some v := by
    intro j v hv
    simp only [World.cell?, h]
    exact hv
  refine ⟨rfl, .inr ⟨g, 0, rfl, fun i hi => ?_⟩⟩
  match i, hi with
  | 0, _ => exact ⟨e _ _ (by simp [Array.getElem?_append]), e _ _ (by simp [Array.getElem?_append])⟩
  | 1, _ => exact ⟨e _ _ (by simp [Array.getElem?_append]), e _ _ (by simp [Array.getElem?_append])⟩
  | 2, _ => exact ⟨e _ _ (by simp [Array.getElem?_append]), e _ _ (by simp [Array.getElem?_append])⟩
  | 3, _ => exact ⟨e _ _ (by simp [Array.getElem?_append]), e _ _ (by simp [Array.getElem?_append])⟩
theorem heap_new2 (w : World) (o : Obj) : (w.alloc o).drew.drew.heap[w.heap.size]? = some o := by show (w.heap.push o)[w.heap.size]? = some o; simp
def TwoAt (w : World) (ax ay bx by_ cx cy dx dy : Int) (p q : Value) (wx : World) : Prop :=
  ∃ g k, p = .pointer (some ⟨g, 0, none⟩) ∧ q = .pointer (some ⟨k, 0, none⟩) ∧ wx.cell? ⟨g, 0, none⟩ = some (.int .i64 ax) ∧ wx.cell? ⟨g, 1, none⟩ = some (.int .i64 ay) ∧ wx.cell? ⟨g, 2, none⟩ = some (.int .i64 bx) ∧ wx.cell? ⟨g, 3, none⟩ = some (.int .i64 by_) ∧
    wx.cell? ⟨k, 0, none⟩ = some (.int .i64 cx) ∧ wx.cell? ⟨k, 1, none⟩ = some (.int .i64 cy) ∧ wx.cell? ⟨k, 2, none⟩ = some (.int .i64 dx) ∧ wx.cell? ⟨k, 3, none⟩ = some (.int .i64 dy) ∧ Below w.heap.size w wx
set_option maxRecDepth 100000 in
set_option maxHeartbeats 4000000 in
theorem n_crEnds (ax ay bx by_ cx cy dx dy : Int) (w : World) : Calls Tryz.prog 166 #[pt ax ay, pt bx by_, pt cx cy, pt dx dy] w fun e w' =>
    (∃ v, e = .returned v ∧ PRes w' v (commonQ (ax, ay) (bx, by_) (cx, cy) (dx, dy))) ∧ Junk w w' := by
  have HV1 := Lib.hid (fun w' => n_sgValid ax ay bx by_ w')
  have HV2 := Lib.hid (fun w' => n_sgValid cx cy dx dy w')
  have HC := Lib.hid (fun (w' : World) (a : Option Addr) (ca : Nat) (h : PReads w' a 4 [(ax, ay), (bx, by_), (cx, cy), (dx, dy)]) => n_crCommon w' ax ay bx by_ cx cy dx dy a 4 ca _ h (by decide))
  have HA := Lib.hid (com_all (a := (ax, ay)) (b := (bx, by_)) (c := (cx, cy)) (d := (dx, dy)))
  have HL := Lib.hid (com_len (onBoth ax ay bx by_ cx cy dx dy) [(ax, ay), (bx, by_), (cx, cy), (dx, dy)])
  have HN := Lib.hid (show (mayQ (ax, ay) (bx, by_) && mayQ (cx, cy) (dx, dy)) = false → commonQ (ax, ay) (bx, by_) (cx, cy) (dx, dy) = [] by intro h; unfold commonQ; rw [h]; rfl)
  generalize mayQ (ax, ay) (bx, by_) = v1 at *
  generalize mayQ (cx, cy) (dx, dy) = v2 at *
  generalize commonQ (ax, ay) (bx, by_) (cx, cy) (dx, dy) = K at *
  simp only at HA
  generalize comQ (onBoth ax ay bx by_ cx cy dx dy) [(ax, ay), (bx, by_), (cx, cy), (dx, dy)] = M at *
  unfold pt
  unfold sg at *
  go_enter Tryz.func166, Tryz.ntmps166
  go_upto_region 1 with fail
  go_cut [9, 10] from 9 to 16 (fun p q wx => TwoAt w ax ay bx by_ cx cy dx dy p q wx)
  case first =>
    go_region
    all_goals
      go_wp2_with fail
      go_meet
      case rel => exact ⟨_, _, rfl, rfl, by simp [go_sem], by simp [go_sem], by simp [go_sem], by simp [go_sem], by simp [go_sem], by simp [go_sem], by simp [go_sem], by simp [go_sem], by (repeat' first | with_reducible (first | apply Below.refl | assumption | apply bw_a | apply bw_d | apply bw_n | apply bw_p | apply bw_c | apply bw_r) | go_size)⟩
  case rest =>
  obtain ⟨g, k, rfl, rfl, a0, a1, a2, a3, b0, b1, b2, b3, hj⟩ := hcut
  have gb := World.block_lt_of_cell? _ _ a0
  have kb := World.block_lt_of_cell? _ _ b0
  have hszc := hj.size
  simp only at gb kb
  rcases (show v1 = false ∨ (v1 = true ∧ v2 = false) ∨ (v1 = true ∧ v2 = true) by cases v1 <;> cases v2 <;> simp) with rfl | ⟨rfl, rfl⟩ | ⟨rfl, rfl⟩
  · go_wp2_with (go_at_call 199; (first | (with_reducible refine (HV1.out _).mono ?_) | (with_reducible refine (HV2.out _).mono ?_)); rintro e w1 ⟨rfl, J1, d1, rfl⟩)
    go_ret
    exact ⟨⟨_, rfl, none, 0, 0, rfl, ⟨by rw [HN.out rfl]; rfl, .inl rfl⟩, by rw [HN.out rfl]; decide⟩, junk_of_below (hj.trans (by (repeat' first | with_reducible (first | apply Below.refl | assumption | apply bw_a | apply bw_d | apply bw_n | apply bw_p | apply bw_c | apply bw_r) | go_size)))⟩
  · go_wp2_with (go_at_call 199; (first | (with_reducible refine (HV1.out _).mono ?_) | (with_reducible refine (HV2.out _).mono ?_)); rintro e w1 ⟨rfl, J1, d1, rfl⟩)
    go_ret
    exact ⟨⟨_, rfl, none, 0, 0, rfl, ⟨by rw [HN.out rfl]; rfl, .inl rfl⟩, by rw [HN.out rfl]; decide⟩, junk_of_below (hj.trans (by (repeat' first | with_reducible (first | apply Below.refl | assumption | apply bw_a | apply bw_d | apply bw_n | apply bw_p | apply bw_c | apply bw_r) | go_size)))⟩
  · go_upto_region 4 with (go_at_call 199; (first | (with_reducible refine (HV1.out _).mono ?_) | (with_reducible refine (HV2.out _).mono ?_)); rintro e w1 ⟨rfl, J1, d1, rfl⟩)
    have hsz : w.heap.size ≤ _ := hj.size
    generalize hW2 : World.plus _ _ _ = W2
    have hj2 : Below w.heap.size w W2 := hj.trans (by rw [← hW2]; (repeat' first | with_reducible (first | apply Below.refl | assumption | apply bw_a | apply bw_d | apply bw_n | apply bw_p | apply bw_c | apply bw_r) | go_size))
    have q0 : W2.cell? ⟨g, 0, none⟩ = some (.int .i64 ax) := by rw [← hW2]; simp [go_sem, a0, gb]
    have q1 : W2.cell? ⟨g, 1, none⟩ = some (.int .i64 ay) := by rw [← hW2]; simp [go_sem, a1, gb]
    have q2 : W2.cell? ⟨g, 2, none⟩ = some (.int .i64 bx) := by rw [← hW2]; simp [go_sem, a2, gb]
    have q3 : W2.cell? ⟨g, 3, none⟩ = some (.int .i64 by_) := by rw [← hW2]; simp [go_sem, a3, gb]
    have p0 : W2.cell? ⟨k, 0, none⟩ = some (.int .i64 cx) := by rw [← hW2]; simp [go_sem, b0, kb]
    have p1 : W2.cell? ⟨k, 1, none⟩ = some (.int .i64 cy) := by rw [← hW2]; simp [go_sem, b1, kb]
    have p2 : W2.cell? ⟨k, 2, none⟩ = some (.int .i64 dx) := by rw [← hW2]; simp [go_sem, b2, kb]
    have p3 : W2.cell? ⟨k, 3, none⟩ = some (.int .i64 dy) := by rw [← hW2]; simp [go_sem, b3, kb]
    have gb2 : g < W2.heap.size := by rw [← hW2]; simp; omega
    have kb2 : k < W2.heap.size := by rw [← hW2]; simp; omega
    have hsz2 : w.heap.size ≤ W2.heap.size := hj2.size
    have HJ2 := Lib.hid hj2
    clear hW2 hj a0 a1 a2 a3 b0 b1 b2 b3 gb kb hj2
    have HC4 := Lib.hid (fun (Z : Array Value) (ca : Nat) => HC.out (W2.alloc (.cells (#[.int .i64 ax, .int .i64 ay, .int .i64 bx, .int .i64 by_] ++ (#[.int .i64 cx, .int .i64 cy, .int .i64 dx, .int .i64 dy] ++ Z)) 42)).drew.drew (some ⟨W2.heap.size, 0, none⟩) ca (preads_four (heap_new2 W2 _)))
    go_region_with (go_simp; go_at_call 200; (with_reducible refine (HC4.out _ _).mono ?_); rintro e w4 ⟨⟨a5, cap5, rfl, hR5⟩, J5, d5, rfl⟩)
    all_goals
      go_wp2_with fail
      go_ret
      exact ⟨⟨_, rfl, a5, _, cap5, rfl, by rw [← HA.out rfl]; exact hR5, by rw [← HA.out rfl]; exact HL.out⟩, junk_of_below (HJ2.out.trans (by (repeat' first | with_reducible (first | apply Below.refl | assumption | apply bw_a | apply bw_d | apply bw_n | apply bw_p | apply bw_c | apply bw_r) | go_size)))⟩
end

section
set_option linter.unusedVariables false
set_option linter.unusedSimpArgs false
open Go.RowKit
theorem turn_not {a b c : Int × Int} (h : mayQ a b = false) : turnF a.1 a.2 b.1 b.2 c.1 c.2 = 0 := by
  unfold turnF
  split
  · rename_i k
    unfold mayQ at h
    simp only [Bool.and_eq_true] at k
    rw [k.1.1, k.1.2] at h
    simp at h
    subst h
    have : detP a.1 a.2 a.1 a.2 c.1 c.2 = 0 := by unfold detP; grind
    rw [this]; rfl
  · rfl
def patQ (t1 t2 t3 t4 : Int) : Prop := (t1 = 1 ∧ t2 = -1 ∧ t3 = -1 ∧ t4 = 1) ∨ (t1 = -1 ∧ t2 = 1 ∧ t3 = 1 ∧ t4 = -1)
theorem meet_pat (a b c d : Int × Int) :
    (patQ (turnF a.1 a.2 b.1 b.2 c.1 c.2) (turnF a.1 a.2 b.1 b.2 d.1 d.2) (turnF c.1 c.2 d.1 d.2 a.1 a.2) (turnF c.1 c.2 d.1 d.2 b.1 b.2) ∧ meetQ a b c d = 2) ∨
    (¬ patQ (turnF a.1 a.2 b.1 b.2 c.1 c.2) (turnF a.1 a.2 b.1 b.2 d.1 d.2) (turnF c.1 c.2 d.1 d.2 a.1 a.2) (turnF c.1 c.2 d.1 d.2 b.1 b.2) ∧
      (((commonQ a b c d).length = 0 ∧ meetQ a b c d = 0) ∨ ((commonQ a b c d).length = 1 ∧ meetQ a b c d = 1) ∨ (1 < (commonQ a b c d).length ∧ meetQ a b c d = 3))) := by
  cases h : mayQ a b && mayQ c d with
  | false =>
    refine .inr ⟨?_, .inl ⟨by unfold commonQ; rw [h]; rfl, by unfold meetQ; rw [h]; rfl⟩⟩
    rw [Bool.and_eq_false_iff] at h
    unfold patQ
    rcases h with h | h
    · rw [turn_not (c := c) h]; omega
    · rw [turn_not (a := c) (b := d) (c := a) h]; omega
  | true =>
    have hm : meetQ a b c d = howQ a b c d := by unfold meetQ; rw [h]; rfl
    have hc : commonQ a b c d = endsQ a b c d := by unfold commonQ; rw [h]; rfl
    rw [Bool.and_eq_true] at h
    obtain ⟨h1, h2⟩ := h
    have hn := may_ne h1
    have hn2 := may_ne h2
    unfold mayQ at h1 h2
    rw [Bool.and_eq_true, Bool.and_eq_true] at h1 h2
    obtain ⟨⟨va, vb⟩, _⟩ := h1
    obtain ⟨⟨vc, vd⟩, _⟩ := h2
    have tq : ∀ {x y z : Int × Int}, okP x.1 x.2 = true → okP y.1 y.2 = true → okP z.1 z.2 = true → turnF x.1 x.2 y.1 y.2 z.1 z.2 = sgn (detQ x y z) := by
      intro x y z h1 h2 h3
      unfold turnF
      rw [h1, h2, h3]; rfl
    have e0 : detQ c d a - detQ c d b = detQ a b d - detQ a b c := det_mid _ _ _ _ _ _ _ _
    have hp : patQ (turnF a.1 a.2 b.1 b.2 c.1 c.2) (turnF a.1 a.2 b.1 b.2 d.1 d.2) (turnF c.1 c.2 d.1 d.2 a.1 a.2) (turnF c.1 c.2 d.1 d.2 b.1 b.2) ↔ crossQ a b c d := by
      rw [tq va vb vc, tq va vb vd, tq vc vd va, tq vc vd vb]
      unfold patQ crossQ oppo
      rcases sgn_cases (detQ a b c) with ⟨k1, f1⟩ | ⟨k1, f1⟩ | ⟨k1, f1⟩ <;> rcases sgn_cases (detQ a b d) with ⟨k2, f2⟩ | ⟨k2, f2⟩ | ⟨k2, f2⟩ <;> rcases sgn_cases (detQ c d a) with ⟨k3, f3⟩ | ⟨k3, f3⟩ | ⟨k3, f3⟩ <;> rcases sgn_cases (detQ c d b) with ⟨k4, f4⟩ | ⟨k4, f4⟩ | ⟨k4, f4⟩ <;> rw [f1, f2, f3, f4] <;> omega
    rw [hp, hm, hc, ends_len]
    by_cases hx : crossQ a b c d
    · exact .inl ⟨hx, (how_cross hn hn2).2 hx⟩
    · refine .inr ⟨hx, ?_⟩
      have := cnt_le hn hn2
      unfold howQ
      by_cases k1 : 1 < cntQ a b c d
      · rw [if_pos k1]; exact .inr (.inr ⟨k1, rfl⟩)
      · rw [if_neg k1]
        by_cases k2 : cntQ a b c d = 1
        · rw [if_pos k2]; exact .inr (.inl ⟨k2, rfl⟩)
        · rw [if_neg k2, if_neg hx]; exact .inl ⟨by omega, rfl⟩
set_option maxRecDepth 100000 in
theorem eq4 (a b c d x y z u : Int) (w : World) : (binOp .eql 201 (.agg #[.int .i64 a, .int .i64 b, .int .i64 c, .int .i64 d]) (.agg #[.int .i64 x, .int .i64 y, .int .i64 z, .int .i64 u])).run Tryz.prog w = .ok (.bool (a == x && b == y && c == z && d == u)) w := by
  obtain ⟨i, hi⟩ : ∃ i, Tryz.prog.info? 3 = some i := ⟨_, rfl⟩
  have hc : Tryz.prog.cellsOf 3 = 1 := by kernel_rfl
  have h := run_equalIn_array (P := Tryz.prog) (w := w) 9999 (t := 201) #[.int .i64 a, .int .i64 b, .int .i64 c, .int .i64 d] #[.int .i64 x, .int .i64 y, .int .i64 z, .int .i64 u] Tryz.underlying201 hi
  rw [hc] at h
  have hr : List.range 4 = [0, 1, 2, 3] := rfl
  rw [hr] at h
  go_simp
  simp only [Op.eqItems]
  go_simp
  repeat' split
  all_goals simp_all
set_option maxRecDepth 100000 in
set_option maxHeartbeats 4000000 in
theorem n_crMeets (ax ay bx by_ cx cy dx dy : Int) (w : World) : Calls Tryz.prog 130 #[pt ax ay, pt bx by_, pt cx cy, pt dx dy] w fun e w' =>
    e = .returned (.int .i64 (meetQ (ax, ay) (bx, by_) (cx, cy) (dx, dy))) ∧ Junk w w' := by
  have HT := Lib.hid (fun w' => n_crTurns ax ay bx by_ cx cy dx dy w')
  have HE := Lib.hid (show ∀ w', Calls Tryz.prog 166 #[pt ax ay, pt bx by_, pt cx cy, pt dx dy] w' fun e w'' => (∃ a cap, e = .returned (.slice a (commonQ (ax, ay) (bx, by_) (cx, cy) (dx, dy)).length cap)) ∧ Junk w' w'' from fun w' => by
    refine (n_crEnds ax ay bx by_ cx cy dx dy w').mono ?_
    rintro e w'' ⟨⟨v, rfl, a, n, cap, rfl, hr, _⟩, hj⟩
    have := hr.1
    subst this
    exact ⟨⟨a, cap, rfl⟩, hj⟩)
  have hp := meet_pat (ax, ay) (bx, by_) (cx, cy) (dx, dy)
  simp only at hp
  generalize turnF ax ay bx by_ cx cy = t1 at *
  generalize turnF ax ay bx by_ dx dy = t2 at *
  generalize turnF cx cy dx dy ax ay = t3 at *
  generalize turnF cx cy dx dy bx by_ = t4 at *
  generalize meetQ (ax, ay) (bx, by_) (cx, cy) (dx, dy) = r at *
  generalize (commonQ (ax, ay) (bx, by_) (cx, cy) (dx, dy)).length = n at *
  unfold sg pt at *
  rcases hp with ⟨⟨rfl, rfl, rfl, rfl⟩ | ⟨rfl, rfl, rfl, rfl⟩, rfl⟩ | ⟨hp, hn⟩
  · have E1 := eq4 1 (-1) (-1) 1 1 (-1) (-1) 1
    rw [show ((1 : Int) == 1 && (-1 : Int) == -1 && (-1 : Int) == -1 && (1 : Int) == 1) = true from rfl] at E1
    go_enter Tryz.func130, Tryz.ntmps130
    go_wp2_with (go_at_call 165; (with_reducible refine (HT.out _).mono ?_); rintro e w1 ⟨rfl, J1, d1, rfl⟩)
    go_ret
    exact ⟨rfl, junk_of_below (by (repeat' first | with_reducible (first | apply Below.refl | assumption | apply bw_a | apply bw_d | apply bw_n | apply bw_p | apply bw_c | apply bw_r) | go_size))⟩
  · have E1 := eq4 (-1) 1 1 (-1) 1 (-1) (-1) 1
    rw [show ((-1 : Int) == 1 && (1 : Int) == -1 && (1 : Int) == -1 && (-1 : Int) == 1) = false from rfl] at E1
    have E2 := eq4 (-1) 1 1 (-1) (-1) 1 1 (-1)
    rw [show ((-1 : Int) == -1 && (1 : Int) == 1 && (1 : Int) == 1 && (-1 : Int) == -1) = true from rfl] at E2
    go_enter Tryz.func130, Tryz.ntmps130
    go_wp2_with (go_at_call 165; (with_reducible refine (HT.out _).mono ?_); rintro e w1 ⟨rfl, J1, d1, rfl⟩)
    go_ret
    exact ⟨rfl, junk_of_below (by (repeat' first | with_reducible (first | apply Below.refl | assumption | apply bw_a | apply bw_d | apply bw_n | apply bw_p | apply bw_c | apply bw_r) | go_size))⟩
  · have E1 := eq4 t1 t2 t3 t4 1 (-1) (-1) 1
    rw [show (t1 == 1 && t2 == -1 && t3 == -1 && t4 == 1) = false by rw [Bool.eq_false_iff]; intro k; simp only [Bool.and_eq_true, beq_iff_eq] at k; exact hp (.inl ⟨k.1.1.1, k.1.1.2, k.1.2, k.2⟩)] at E1
    have E2 := eq4 t1 t2 t3 t4 (-1) 1 1 (-1)
    rw [show (t1 == -1 && t2 == 1 && t3 == 1 && t4 == -1) = false by rw [Bool.eq_false_iff]; intro k; simp only [Bool.and_eq_true, beq_iff_eq] at k; exact hp (.inr ⟨k.1.1.1, k.1.1.2, k.1.2, k.2⟩)] at E2
    clear hp
    have hn1 : (((n : Int) == 0) = true ∧ r = 0) ∨ (((n : Int) == 0) = false ∧ ((n : Int) == 1) = true ∧ r = 1) ∨ (((n : Int) == 0) = false ∧ ((n : Int) == 1) = false ∧ r = 3) := by
      rcases hn with ⟨h, h1⟩ | ⟨h, h1⟩ | ⟨h, h1⟩
      · exact .inl ⟨by rw [beq_iff_eq]; omega, h1⟩
      · exact .inr (.inl ⟨by rw [beq_eq_false_iff_ne]; omega, by rw [beq_iff_eq]; omega, h1⟩)
      · exact .inr (.inr ⟨by rw [beq_eq_false_iff_ne]; omega, by rw [beq_eq_false_iff_ne]; omega, h1⟩)
    clear hn
    rcases hn1 with ⟨k1, rfl⟩ | ⟨k1, k2, rfl⟩ | ⟨k1, k2, rfl⟩
    all_goals
      go_enter Tryz.func130, Tryz.ntmps130
      go_wp2_with (first | (go_at_call 165; (with_reducible refine (HT.out _).mono ?_); rintro e w1 ⟨rfl, J1, d1, rfl⟩) | (go_at_call 166; (with_reducible refine (HE.out _).mono ?_); rintro e w1 ⟨⟨a', cap', rfl⟩, J2, d2, rfl⟩))
      go_ret
      exact ⟨rfl, junk_of_below (by (repeat' first | with_reducible (first | apply Below.refl | assumption | apply bw_a | apply bw_d | apply bw_n | apply bw_p | apply bw_c | apply bw_r) | go_size))⟩
end

section
set_option linter.unusedVariables false
set_option linter.unusedSimpArgs false
open Go.RowKit
end

section
set_option linter.unusedVariables false
set_option linter.unusedSimpArgs false
open Go.RowKit
theorem may_ok {a b : Int × Int} (h : mayQ a b = true) : okP a.1 a.2 = true ∧ okP b.1 b.2 = true ∧ a ≠ b := by
  unfold mayQ at h
  rw [Bool.and_eq_true, Bool.and_eq_true, decide_eq_true_iff] at h
  exact ⟨h.1.1, h.1.2, h.2⟩
end

section
set_option linter.unusedVariables false
set_option linter.unusedSimpArgs false
open Go.RowKit
theorem sgn_opp {x y : Int} : sgn x * sgn y < 0 ↔ oppo x y := by
  rcases sgn_cases x with ⟨h1, e1⟩ | ⟨h1, e1⟩ | ⟨h1, e1⟩ <;> rcases sgn_cases y with ⟨h2, e2⟩ | ⟨h2, e2⟩ | ⟨h2, e2⟩ <;> rw [e1, e2] <;> unfold oppo <;> omega
theorem sgn_same {x y : Int} : 0 < sgn x * sgn y ↔ sameS x y := by
  rcases sgn_cases x with ⟨h1, e1⟩ | ⟨h1, e1⟩ | ⟨h1, e1⟩ <;> rcases sgn_cases y with ⟨h2, e2⟩ | ⟨h2, e2⟩ | ⟨h2, e2⟩ <;> rw [e1, e2] <;> unfold sameS <;> omega
theorem sgn_mul_bd (x y : Int) : -1 ≤ sgn x * sgn y ∧ sgn x * sgn y ≤ 1 := by
  rcases sgn_cases x with ⟨h1, e1⟩ | ⟨h1, e1⟩ | ⟨h1, e1⟩ <;> rcases sgn_cases y with ⟨h2, e2⟩ | ⟨h2, e2⟩ | ⟨h2, e2⟩ <;> rw [e1, e2] <;> decide
theorem apart_all {a b c d : Int × Int} (hab : mayQ a b = true) (hcd : mayQ c d = true) :
    (meetF (min a.1 b.1) (min a.2 b.2) (max a.1 b.1 + 1) (max a.2 b.2 + 1) (min c.1 d.1) (min c.2 d.2) (max c.1 d.1 + 1) (max c.2 d.2 + 1) = false → meetQ a b c d = 0) ∧
    (0 < turnF a.1 a.2 b.1 b.2 c.1 c.2 * turnF a.1 a.2 b.1 b.2 d.1 d.2 ∨ 0 < turnF c.1 c.2 d.1 d.2 a.1 a.2 * turnF c.1 c.2 d.1 d.2 b.1 b.2 → meetQ a b c d = 0) ∧
    (meetQ a b c d = 2 ↔ turnF a.1 a.2 b.1 b.2 c.1 c.2 * turnF a.1 a.2 b.1 b.2 d.1 d.2 < 0 ∧ turnF c.1 c.2 d.1 d.2 a.1 a.2 * turnF c.1 c.2 d.1 d.2 b.1 b.2 < 0) := by
  obtain ⟨va, vb, hn⟩ := may_ok hab
  obtain ⟨vc, vd, hn2⟩ := may_ok hcd
  have tq : ∀ {x y z : Int × Int}, okP x.1 x.2 = true → okP y.1 y.2 = true → okP z.1 z.2 = true → turnF x.1 x.2 y.1 y.2 z.1 z.2 = sgn (detQ x y z) := by
    intro x y z h1 h2 h3
    unfold turnF
    rw [h1, h2, h3]; rfl
  have hm : meetQ a b c d = howQ a b c d := by unfold meetQ; rw [hab, hcd]; rfl
  rw [tq va vb vc, tq va vb vd, tq vc vd va, tq vc vd vb, sgn_same, sgn_same, sgn_opp, sgn_opp, hm]
  refine ⟨fun h => ?_, fun h => ?_, how_cross hn hn2⟩
  · apply Decidable.byContradiction
    intro k
    have k2 := meet_boxes ((how_not hn hn2).1 k)
    unfold meetF at h
    rw [decide_eq_false_iff_not] at h
    omega
  · apply Decidable.byContradiction
    intro k
    have k2 := side_none h
    rcases (how_not hn hn2).1 k with k3 | k3
    · exact k2.1 k3
    · exact k2.2 k3
end

section
set_option linter.unusedVariables false
set_option linter.unusedSimpArgs false
open Go.RowKit
set_option maxRecDepth 100000 in
set_option maxHeartbeats 4000000 in
theorem r_crMeets (w : World) (ax ay bx by_ cx cy dx dy : Int) : Calls Tryz.prog 86 #[pt ax ay, pt bx by_, pt cx cy, pt dx dy] w fun e w' => e = .returned (.int .i64 (meetQ (ax, ay) (bx, by_) (cx, cy) (dx, dy))) ∧ Junk w w' := by
  have HV1 := Lib.hid (fun w' => r_crMay ax ay bx by_ w')
  have HV2 := Lib.hid (fun w' => r_crMay cx cy dx dy w')
  cases h : mayQ (ax, ay) (bx, by_) && mayQ (cx, cy) (dx, dy) with
  | false =>
    rw [show meetQ (ax, ay) (bx, by_) (cx, cy) (dx, dy) = 0 by unfold meetQ; rw [h]; rfl]
    generalize mayQ (ax, ay) (bx, by_) = v1 at *
    generalize mayQ (cx, cy) (dx, dy) = v2 at *
    unfold pt at *
    cases v1 with
    | false =>
      clear h
      go_enter Tryz.func86, Tryz.ntmps86
      go_wp2_with (go_at_call 111; (first | ((with_reducible refine (HV1.out _).mono ?_); rintro e w1 ⟨rfl, J1, d1, rfl⟩) | ((with_reducible refine (HV2.out _).mono ?_); rintro e w1 ⟨rfl, J2, d2, rfl⟩)))
      go_ret
      exact ⟨rfl, junk_of_below (by (repeat' first | with_reducible (first | apply Below.refl | assumption | apply bw_a | apply bw_d | apply bw_n | apply bw_p | apply bw_c | apply bw_r) | go_size))⟩
    | true =>
      obtain rfl : v2 = false := by simpa using h
      clear h
      go_enter Tryz.func86, Tryz.ntmps86
      go_wp2_with (go_at_call 111; (first | ((with_reducible refine (HV1.out _).mono ?_); rintro e w1 ⟨rfl, J1, d1, rfl⟩) | ((with_reducible refine (HV2.out _).mono ?_); rintro e w1 ⟨rfl, J2, d2, rfl⟩)))
      go_ret
      exact ⟨rfl, junk_of_below (by (repeat' first | with_reducible (first | apply Below.refl | assumption | apply bw_a | apply bw_d | apply bw_n | apply bw_p | apply bw_c | apply bw_r) | go_size))⟩
  | true =>
    have hm : meetQ (ax, ay) (bx, by_) (cx, cy) (dx, dy) = howQ (ax, ay) (bx, by_) (cx, cy) (dx, dy) := by unfold meetQ; rw [h]; rfl
    have hcm : commonQ (ax, ay) (bx, by_) (cx, cy) (dx, dy) = endsQ (ax, ay) (bx, by_) (cx, cy) (dx, dy) := by unfold commonQ; rw [h]; rfl
    have HE := Lib.hid (show ∀ w', Calls Tryz.prog 112 #[pt ax ay, pt bx by_, pt cx cy, pt dx dy] w' fun e w'' => (∃ a cap, e = .returned (.slice a (cntQ (ax, ay) (bx, by_) (cx, cy) (dx, dy)) cap)) ∧ Junk w' w'' from fun w' => by
      refine (r_crEnds w' ax ay bx by_ cx cy dx dy).mono ?_
      rintro e w'' ⟨⟨v, rfl, a, n, cap, rfl, hr, _⟩, hj⟩
      have := hr.1
      rw [hcm, ends_len] at this
      subst this
      exact ⟨⟨a, cap, rfl⟩, hj⟩)
    rw [Bool.and_eq_true] at h
    obtain ⟨_, _, s3⟩ := apart_all h.1 h.2
    have hcr := how_cross (may_ne h.1) (may_ne h.2)
    rw [hm, hcr] at s3
    rw [hm]
    have hle := cnt_le (may_ne h.1) (may_ne h.2)
    rw [h.1] at HV1
    rw [h.2] at HV2
    simp only at s3
    have HT1 := Lib.hid (fun w' => r_ptTurn ax ay bx by_ cx cy w')
    have HT2 := Lib.hid (fun w' => r_ptTurn ax ay bx by_ dx dy w')
    have HT3 := Lib.hid (fun w' => r_ptTurn cx cy dx dy ax ay w')
    have HT4 := Lib.hid (fun w' => r_ptTurn cx cy dx dy bx by_ w')
    have bd : ∀ x y z u v s r q : Int, -1 ≤ turnF x y z u v s * turnF x y z u r q ∧ turnF x y z u v s * turnF x y z u r q ≤ 1 := by
      intro x y z u v s r q
      have k : ∀ x y z u v s : Int, ∃ t, turnF x y z u v s = sgn t := by
        intro x y z u v s
        unfold turnF
        split
        · exact ⟨_, rfl⟩
        · exact ⟨0, rfl⟩
      obtain ⟨t1, e1⟩ := k x y z u v s
      obtain ⟨t2, e2⟩ := k x y z u r q
      rw [e1, e2]
      exact sgn_mul_bd _ _
    have bd1 := bd ax ay bx by_ cx cy dx dy
    have bd2 := bd cx cy dx dy ax ay bx by_
    have hh : howQ (ax, ay) (bx, by_) (cx, cy) (dx, dy) = if 1 < cntQ (ax, ay) (bx, by_) (cx, cy) (dx, dy) then 3 else if cntQ (ax, ay) (bx, by_) (cx, cy) (dx, dy) = 1 then 1 else if crossQ (ax, ay) (bx, by_) (cx, cy) (dx, dy) then 2 else 0 := rfl
    clear bd h hm hcm hcr
    generalize howQ (ax, ay) (bx, by_) (cx, cy) (dx, dy) = r at *
    generalize cntQ (ax, ay) (bx, by_) (cx, cy) (dx, dy) = n at *
    generalize turnF ax ay bx by_ cx cy = t1 at *
    generalize turnF ax ay bx by_ dx dy = t2 at *
    generalize turnF cx cy dx dy ax ay = t3 at *
    generalize turnF cx cy dx dy bx by_ = t4 at *
    obtain ⟨p1, hp1⟩ : ∃ p, t1 * t2 = p := ⟨_, rfl⟩
    obtain ⟨p2, hp2⟩ : ∃ p, t3 * t4 = p := ⟨_, rfl⟩
    rw [hp1] at s3 bd1
    rw [hp2] at s3 bd2
    have e1 : IntKind.i64.wrap p1 = p1 := by simp [IntKind.wrap, IntKind.signed, IntKind.bits]; omega
    have e2 : IntKind.i64.wrap p2 = p2 := by simp [IntKind.wrap, IntKind.signed, IntKind.bits]; omega
    unfold pt at *
    have hcase : (1 < (n : Int) ∧ r = 3) ∨ ((¬ 1 < (n : Int)) ∧ ((n : Int) == 1) = true ∧ r = 1) ∨ ((¬ 1 < (n : Int)) ∧ ((n : Int) == 1) = false ∧ ((p1 < 0 ∧ p2 < 0 ∧ r = 2) ∨ (p1 < 0 ∧ ¬ p2 < 0 ∧ r = 0) ∨ (¬ p1 < 0 ∧ r = 0))) := by
      by_cases k1 : 1 < n
      · rw [if_pos k1] at hh; exact .inl ⟨by omega, hh⟩
      rw [if_neg k1] at hh
      by_cases k2 : n = 1
      · rw [if_pos k2] at hh; exact .inr (.inl ⟨by omega, by rw [beq_iff_eq]; omega, hh⟩)
      rw [if_neg k2] at hh
      refine .inr (.inr ⟨by omega, by rw [beq_eq_false_iff_ne]; omega, ?_⟩)
      by_cases k3 : p1 < 0
      · by_cases k4 : p2 < 0
        · rw [if_pos (s3.2 ⟨k3, k4⟩)] at hh; exact .inl ⟨k3, k4, hh⟩
        · rw [if_neg (fun k => k4 (s3.1 k).2)] at hh; exact .inr (.inl ⟨k3, k4, hh⟩)
      · rw [if_neg (fun k => k3 (s3.1 k).1)] at hh; exact .inr (.inr ⟨k3, hh⟩)
    have HCASE := Lib.hid hcase
    clear hcase hh s3 bd1 bd2 hle
    go_enter Tryz.func86, Tryz.ntmps86
    go_upto_region 1 with fail
    obtain ⟨W, hW⟩ : ∃ W, ((((w.alloc (.cells #[.int .i64 ax, .int .i64 ay] 42)).alloc (.cells #[.int .i64 bx, .int .i64 by_] 42)).alloc (.cells #[.int .i64 cx, .int .i64 cy] 42)).alloc (.cells #[.int .i64 dx, .int .i64 dy] 42)) = W := ⟨_, rfl⟩
    have c00 : W.cell? ⟨w.heap.size, 0, none⟩ = some (.int .i64 ax) := by rw [← hW]; simp [go_sem]
    have c01 : W.cell? ⟨w.heap.size, 1, none⟩ = some (.int .i64 ay) := by rw [← hW]; simp [go_sem]
    have hb0 : w.heap.size < W.heap.size := by rw [← hW]; simp; try omega
    have c10 : W.cell? ⟨w.heap.size + 1, 0, none⟩ = some (.int .i64 bx) := by rw [← hW]; simp [go_sem]
    have c11 : W.cell? ⟨w.heap.size + 1, 1, none⟩ = some (.int .i64 by_) := by rw [← hW]; simp [go_sem]
    have hb1 : w.heap.size + 1 < W.heap.size := by rw [← hW]; simp; try omega
    have c20 : W.cell? ⟨w.heap.size + 1 + 1, 0, none⟩ = some (.int .i64 cx) := by rw [← hW]; simp [go_sem]
    have c21 : W.cell? ⟨w.heap.size + 1 + 1, 1, none⟩ = some (.int .i64 cy) := by rw [← hW]; simp [go_sem]
    have hb2 : w.heap.size + 1 + 1 < W.heap.size := by rw [← hW]; simp; try omega
    have c30 : W.cell? ⟨w.heap.size + 1 + 1 + 1, 0, none⟩ = some (.int .i64 dx) := by rw [← hW]; simp [go_sem]
    have c31 : W.cell? ⟨w.heap.size + 1 + 1 + 1, 1, none⟩ = some (.int .i64 dy) := by rw [← hW]; simp [go_sem]
    have hb3 : w.heap.size + 1 + 1 + 1 < W.heap.size := by rw [← hW]; simp; try omega
    have hj : Below w.heap.size w W := by rw [← hW]; (repeat' first | with_reducible (first | apply Below.refl | assumption | apply bw_a | apply bw_d | apply bw_n | apply bw_p | apply bw_c | apply bw_r) | go_size)
    have hsz : w.heap.size ≤ W.heap.size := hj.size
    rw [hW]
    clear hW
    go_upto_region 4 with (first | (go_at_call 111; (first | ((with_reducible refine (HV1.out _).mono ?_); rintro e w1 ⟨rfl, J1, d1, rfl⟩) | ((with_reducible refine (HV2.out _).mono ?_); rintro e w1 ⟨rfl, J2, d2, rfl⟩))) | (go_at_call 112; (with_reducible refine (HE.out _).mono ?_); rintro e w1 ⟨⟨a', cap', rfl⟩, J3, d3, rfl⟩))
    clear HV1 HV2 HE
    rcases HCASE.out with ⟨k1, rfl⟩ | ⟨k1, k2, rfl⟩ | ⟨k1, k2, k3⟩
    · go_wp2_with fail
      go_ret
      exact ⟨rfl, junk_of_below (by (repeat' first | with_reducible (first | apply Below.refl | assumption | apply bw_a | apply bw_d | apply bw_n | apply bw_p | apply bw_c | apply bw_r) | go_size))⟩
    · go_wp2_with fail
      go_ret
      exact ⟨rfl, junk_of_below (by (repeat' first | with_reducible (first | apply Below.refl | assumption | apply bw_a | apply bw_d | apply bw_n | apply bw_p | apply bw_c | apply bw_r) | go_size))⟩
    · go_upto_region 8 with fail
      refine region_quiet_all (C := Cls W) (by kernel_rfl) (by kernel_rfl) ⟨_, _, rfl⟩ ?_
      repeat (first | (refine qw_skip (by rfl) ?_; simp only [Act.put, List.setIfInBounds_toArray, List.set_cons_succ, List.set_cons_zero]) | (refine qw_want (by rfl) (fun K hK => ?_); go_simp; first | (refine hK _ ?_; clear hK K) | (apply Exists.intro; refine ⟨?_, hK _ ?_⟩; (rintro w3_ ⟨J3_, d3_, rfl⟩; first | (with_reducible exact rfl) | (go_simp; with_reducible exact rfl) | (go_simp; (first | (with_reducible refine (HT1.out _).mono ?_) | (with_reducible refine (HT2.out _).mono ?_)); rintro e_ w_ ⟨rfl, J4_, d4_, rfl⟩; exact ⟨rfl, J3_ ++ J4_, d4_, by simp only [plus_plus, Array.append_assoc]⟩)); clear hK K)))
      refine qw_nil ?_
      rintro w3 ⟨J4, d4, rfl⟩
      go_upto_region 9 with fail
      refine region_quiet_all (C := Cls W) (by kernel_rfl) (by kernel_rfl) ⟨_, _, rfl⟩ ?_
      repeat (first | (refine qw_skip (by rfl) ?_; simp only [Act.put, List.setIfInBounds_toArray, List.set_cons_succ, List.set_cons_zero]) | (refine qw_want (by rfl) (fun K hK => ?_); go_simp; first | (refine hK _ ?_; clear hK K) | (apply Exists.intro; refine ⟨?_, hK _ ?_⟩; (rintro w3_ ⟨J3_, d3_, rfl⟩; first | (with_reducible exact rfl) | (go_simp; with_reducible exact rfl) | (go_simp; (first | (with_reducible refine (HT3.out _).mono ?_) | (with_reducible refine (HT4.out _).mono ?_)); rintro e_ w_ ⟨rfl, J4_, d4_, rfl⟩; exact ⟨rfl, J3_ ++ J4_, d4_, by simp only [plus_plus, Array.append_assoc]⟩)); clear hK K)))
      refine qw_nil ?_
      rintro w3 ⟨J5, d5, rfl⟩
      rcases k3 with ⟨k3, k4, rfl⟩ | ⟨k3, k4, rfl⟩ | ⟨k3, rfl⟩
      all_goals
        go_wp2_with fail
        go_ret
        exact ⟨rfl, junk_of_below (by (repeat' first | with_reducible (first | apply Below.refl | assumption | apply bw_a | apply bw_d | apply bw_n | apply bw_p | apply bw_c | apply bw_r) | go_size))⟩
end
end Go.Proofs.YthphdiigjimchaaGreat

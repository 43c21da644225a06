/- Package inside: Counts. Package inside: Crossings, In. -/
import Derived.Test.YthphdiigjimchaaGreatRgLaw
import Derived.Test.YthphdiigjimchaaGreatRgChk
import Derived.Test.YthphdiigjimchaaGreatRiMath
import Derived.Test.YthphdiigjimchaaGreatInFew
namespace Go.Proofs.YthphdiigjimchaaGreat
section
set_option linter.unusedVariables false
set_option linter.unusedSimpArgs false
open Go.RowKit Go.Shelf
set_option maxRecDepth 100000 in
set_option maxHeartbeats 4000000 in
theorem c_inCounts (px py ax ay bx by_ : Int) (w : World) : Calls Tryz.prog 63 #[pt px py, pt ax ay, pt bx by_] w fun e w' => e = .returned (.bool (countC (px, py) (ax, ay) (bx, by_))) ∧ Junk w w' := by
  unfold countC upC turnC
  simp only
  by_cases h0 : by_ < ay
  · rw [if_pos h0]
    have HT := Lib.hid (fun w' => n_ptTurn bx by_ ax ay px py w')
    generalize turnF bx by_ ax ay px py = t at *
    unfold pt at *
    by_cases h1 : by_ ≤ py
    · by_cases h2 : py < ay
      · rw [decide_eq_true h1, decide_eq_true h2, Bool.true_and, Bool.true_and]
        by_cases h3 : t = 1
        · subst h3
          go_enter Tryz.func63, Tryz.ntmps63
          go_wp2_with fail
          go_region
          all_goals (go_wp2_with fail)
          all_goals go_region
          all_goals (go_wp2_with (go_at_call 97; (with_reducible refine (HT.out _).mono ?_); rintro e w1 ⟨rfl, J1, d1, rfl⟩))
          all_goals go_ret
          all_goals exact ⟨rfl, junk_of_below (by (repeat' first | with_reducible (first | apply Below.refl | assumption | apply bw_a | apply bw_d | apply bw_n | apply bw_p | apply bw_c | apply bw_r) | go_size))⟩
        · have e3 : (t == 1) = false := by rw [beq_eq_false_iff_ne]; exact h3
          rw [decide_eq_false h3]
          clear h3
          go_enter Tryz.func63, Tryz.ntmps63
          go_wp2_with fail
          go_region
          all_goals (go_wp2_with fail)
          all_goals go_region
          all_goals (go_wp2_with (go_at_call 97; (with_reducible refine (HT.out _).mono ?_); rintro e w1 ⟨rfl, J1, d1, rfl⟩))
          all_goals go_ret
          all_goals exact ⟨rfl, junk_of_below (by (repeat' first | with_reducible (first | apply Below.refl | assumption | apply bw_a | apply bw_d | apply bw_n | apply bw_p | apply bw_c | apply bw_r) | go_size))⟩
      · rw [decide_eq_false h2, Bool.and_false, Bool.false_and]
        go_enter Tryz.func63, Tryz.ntmps63
        go_wp2_with fail
        go_region
        all_goals (go_wp2_with fail)
        all_goals go_region
        all_goals (go_wp2_with fail)
        all_goals go_ret
        all_goals exact ⟨rfl, junk_of_below (by (repeat' first | with_reducible (first | apply Below.refl | assumption | apply bw_a | apply bw_d | apply bw_n | apply bw_p | apply bw_c | apply bw_r) | go_size))⟩
    · rw [decide_eq_false h1, Bool.false_and, Bool.false_and]
      go_enter Tryz.func63, Tryz.ntmps63
      go_wp2_with fail
      go_region
      all_goals (go_wp2_with fail)
      all_goals go_region
      all_goals (go_wp2_with fail)
      all_goals go_ret
      all_goals exact ⟨rfl, junk_of_below (by (repeat' first | with_reducible (first | apply Below.refl | assumption | apply bw_a | apply bw_d | apply bw_n | apply bw_p | apply bw_c | apply bw_r) | go_size))⟩
  · rw [if_neg h0]
    have HT := Lib.hid (fun w' => n_ptTurn ax ay bx by_ px py w')
    generalize turnF ax ay bx by_ px py = t at *
    unfold pt at *
    by_cases h1 : ay ≤ py
    · by_cases h2 : py < by_
      · rw [decide_eq_true h1, decide_eq_true h2, Bool.true_and, Bool.true_and]
        by_cases h3 : t = 1
        · subst h3
          go_enter Tryz.func63, Tryz.ntmps63
          go_wp2_with fail
          go_region
          all_goals (go_wp2_with (go_at_call 97; (with_reducible refine (HT.out _).mono ?_); rintro e w1 ⟨rfl, J1, d1, rfl⟩))
          all_goals go_ret
          all_goals exact ⟨rfl, junk_of_below (by (repeat' first | with_reducible (first | apply Below.refl | assumption | apply bw_a | apply bw_d | apply bw_n | apply bw_p | apply bw_c | apply bw_r) | go_size))⟩
        · have e3 : (t == 1) = false := by rw [beq_eq_false_iff_ne]; exact h3
          rw [decide_eq_false h3]
          clear h3
          go_enter Tryz.func63, Tryz.ntmps63
          go_wp2_with fail
          go_region
          all_goals (go_wp2_with (go_at_call 97; (with_reducible refine (HT.out _).mono ?_); rintro e w1 ⟨rfl, J1, d1, rfl⟩))
          all_goals go_ret
          all_goals exact ⟨rfl, junk_of_below (by (repeat' first | with_reducible (first | apply Below.refl | assumption | apply bw_a | apply bw_d | apply bw_n | apply bw_p | apply bw_c | apply bw_r) | go_size))⟩
      · rw [decide_eq_false h2, Bool.and_false, Bool.false_and]
        go_enter Tryz.func63, Tryz.ntmps63
        go_wp2_with fail
        go_region
        all_goals (go_wp2_with fail)
        all_goals go_ret
        all_goals exact ⟨rfl, junk_of_below (by (repeat' first | with_reducible (first | apply Below.refl | assumption | apply bw_a | apply bw_d | apply bw_n | apply bw_p | apply bw_c | apply bw_r) | go_size))⟩
    · rw [decide_eq_false h1, Bool.false_and, Bool.false_and]
      go_enter Tryz.func63, Tryz.ntmps63
      go_wp2_with fail
      go_region
      all_goals (go_wp2_with fail)
      all_goals go_ret
      all_goals exact ⟨rfl, junk_of_below (by (repeat' first | with_reducible (first | apply Below.refl | assumption | apply bw_a | apply bw_d | apply bw_n | apply bw_p | apply bw_c | apply bw_r) | go_size))⟩
end

section
set_option linter.unusedVariables false
set_option linter.unusedSimpArgs false
open Go.RowKit Go.Shelf
attribute [local go_sem] Oper.semAt_some
def InI (w : World) (px py : Int) (V : Nat → Value) (t : TypeId) (p : Pt) (K : List Pt) {n : Nat} (pre : List (Fin n)) (W : World) : Prop :=
  Blk W w.heap.size #[.int .i64 px, .int .i64 py] 42 ∧ Blk W (w.heap.size + 1) #[V (ctL p K pre)] t ∧ Below w.heap.size w W ∧ w.heap.size + 3 ≤ W.heap.size
theorem inI_own (w : World) (px py : Int) (V : Nat → Value) (t : TypeId) (p : Pt) (K : List Pt) {n : Nat} (B : Nat) (hB : w.heap.size ≤ B) : OwnFrom B (InI w px py V t p K (n := n)) := by
  rintro s X Y row ⟨h1, h2, h3, h4⟩ hg hr
  exact ⟨h1.kept hg (fun r e => (hr r e).2), h2.kept hg (fun r e => (hr r e).2), below_grown h3 (by omega) hB hg hr, Nat.le_trans h4 hg.size⟩
theorem set1_keeps {W : World} {B : Nat} (k : Nat) (u : Value) : KeepsFrom B W (W.setCell ⟨k, 0, none⟩ u) := (KeepsOthers.setCell W ⟨k, 0, none⟩ u).from B
theorem set1_keepsE {W : World} {n0 Bn k : Nat} (hk : n0 ≤ k) (hne : Bn ≠ k) (u : Value) : KeepsE n0 Bn W (W.setCell ⟨k, 0, none⟩ u) :=
  ⟨(Below.refl n0 W).setCell (p := ⟨k, 0, none⟩) hk u, fun c t f h => (Below.heap_setCell W ⟨k, 0, none⟩ u Bn hne).trans h⟩
theorem inI_step {w W : World} {px py : Int} {V : Nat → Value} {t : TypeId} {p : Pt} {K : List Pt} {n B : Nat} {pre : List (Fin n)} {x : Fin n} {q q' : Nat} {v v' : Value} {a : Act} (h : Blk W w.heap.size #[.int .i64 px, .int .i64 py] 42 ∧ Blk W (w.heap.size + 1) #[v] t ∧ Below w.heap.size w W ∧ w.heap.size + 3 ≤ W.heap.size)
    (hN : ctL p K (pre ++ [x]) = q') (_ : w.heap.size ≤ W.heap.size) (_ : q ≤ q) (_ : q' ≤ q') (hv : v' = V q') (J : Array Obj) (d : Nat) :
    ownPostG B (KeepsE w.heap.size (w.heap.size + 2)) (InI w px py V t p K) (fun _ _ _ => False) (pre ++ [x]) W Exit.normal a ((W.setCell ⟨w.heap.size + 1, 0, none⟩ v').plus J d) := by
  obtain ⟨h1, h2, h3, h4⟩ := h
  have hs : (W.setCell ⟨w.heap.size + 1, 0, none⟩ v').heap.size = W.heap.size := by simp
  have hb : Below (W.setCell ⟨w.heap.size + 1, 0, none⟩ v').heap.size (W.setCell ⟨w.heap.size + 1, 0, none⟩ v') ((W.setCell ⟨w.heap.size + 1, 0, none⟩ v').plus J d) := Junk.below ⟨_, _, rfl⟩
  have hk : KeepsE w.heap.size (w.heap.size + 2) W ((W.setCell ⟨w.heap.size + 1, 0, none⟩ v').plus J d) := keepsE_t (set1_keepsE (by omega) (by omega) _) (keepsE_below (by omega) hb)
  exact ⟨(set1_keeps _ _).trans (keepsFrom_below hb), hk, (h1.set_other (w.heap.size + 1) 0 _ (by omega)).below hb, by rw [hN, ← hv]; exact (h2.set 0 _).below hb, h3.trans hk.1, by have := hb.size; omega⟩
theorem results_tmp {fn : Func} {t : Tmp} (h : fn.results = #[.tmp t]) (tmps : Array Value) (w : World) (v : Value) (hv : tmps.getD t undef = v) : (results fn tmps).run Tryz.prog w = .ok v w := by
  subst hv
  simp [results, h]
set_option maxRecDepth 100000 in
set_option maxHeartbeats 4000000 in
theorem c_inInL (px py : Int) (w : World) (a : Option Addr) (n ca : Nat) (K : List Pt) (h : PRC w a n ca K) (hs : n ≤ 100000) :
    Calls Tryz.prog 42 #[pt px py, .slice a n ca] w fun e w' => e = .returned (.bool (inQ (px, py) K)) ∧ Junk w w' := by
  obtain ⟨R, hR⟩ : ∃ R, inQ (px, py) K = R := ⟨_, rfl⟩
  rw [hR]
  have HR := Lib.hid hR
  have hP := h.rd
  have HL := Lib.hid hP.1
  clear hR h
  refine (callsIn_wide (n := 4)).1 ?_
  refine callsIn_of_wp_marks Tryz.func42 rfl trivial ?_ rfl
  unfold pt
  simp only [Tryz.ntmps42, List.size_toArray, List.length_cons, List.length_nil, Nat.reduceAdd, Nat.reduceSub, Array.replicate_succ, Array.replicate_zero, List.push_toArray, List.append_toArray, List.nil_append, List.cons_append]
  gi_wp2_with (refine ⟨trivial, ?_⟩; gi_at_call 62; refine ((callsIn_wide.2 (n_inEdges _ _ _ _))).mono ?_; rintro e w' ⟨rfl, rfl⟩)
  obtain ⟨W0, hW0⟩ : ∃ W0, ((w.alloc (.cells #[.int .i64 px, .int .i64 py] 42)).alloc (.cells #[.bool false] 4)).alloc (.cells #[.slice a n ca] 23) = W0 := ⟨_, rfl⟩
  have hs0 : W0.heap.size = w.heap.size + 3 := by rw [← hW0]; simp
  have hb0 : Below w.heap.size w W0 := by rw [← hW0]; exact (((Below.refl _ w).alloc (Nat.le_refl _) _).alloc (by simp) _).alloc (by simp; omega) _
  have bP : Blk W0 w.heap.size #[.int .i64 px, .int .i64 py] 42 := by rw [← hW0]; exact ((Blk.new w _ _).alloc _).alloc _
  have bN : Blk W0 (w.heap.size + 1) #[.bool false] 4 := by
    rw [← hW0]
    have := (Blk.new (w.alloc (.cells #[.int .i64 px, .int .i64 py] 42)) #[.bool false] 4).alloc (.cells #[.slice a n ca] 23)
    rwa [World.size_alloc] at this
  have bE : Blk W0 (w.heap.size + 2) #[.slice a n ca] 23 := by
    rw [← hW0]
    have := Blk.new ((w.alloc (.cells #[.int .i64 px, .int .i64 py] 42)).alloc (.cells #[.bool false] 4)) #[.slice a n ca] 23
    rwa [World.size_alloc, World.size_alloc] at this
  rw [hW0]
  clear hW0
  refine wpIn_rangeFunc_ownH rfl (by omega) (gf := 96) (lb := #[.pointer (some ⟨w.heap.size + 1 + 1, 0, none⟩)]) rfl trivial (enters_of Tryz.func96 (by kernel_rfl) rfl)
    (in_stops w a n ca K hP (by omega) 3 (w.heap.size + 2) (by omega) W0 hb0 bE) keepsE_t (keepsE_b (by omega)) (Below.refl _ _) (fun _ => rfl)
    (InI w px py (fun q => .bool (decide (q % 2 = 1))) 4 (px, py) K) (fun _ _ _ => False) (inI_own w _ _ _ _ _ _ _ (by omega)) (fun _ _ _ _ _ h => h.elim)
    ⟨bP, bN, hb0, by omega⟩
    (fun x a' W => ∃ B1 B2, w.heap.size + 3 ≤ B1 ∧ w.heap.size + 3 ≤ B2 ∧ Blk W B1 #[.int .i64 (K.getD x.val (0, 0)).1, .int .i64 (K.getD x.val (0, 0)).2] 42 ∧ Blk W B2 #[.int .i64 (nxtC K x.val).1, .int .i64 (nxtC K x.val).2] 42 ∧
      a' = { tmps := #[.agg #[.int .i64 px, .int .i64 py], .slice a n ca, .pointer (some ⟨w.heap.size, 0, none⟩), undef, .bool false, .pointer (some ⟨w.heap.size + 1, 0, none⟩), .pointer (some ⟨B1, 0, none⟩), .pointer (some ⟨B2, 0, none⟩),
        .slice a n ca, .func (.func 96) #[] #[.pointer (some ⟨w.heap.size + 1 + 1, 0, none⟩)], en1 K x.val, en2 K x.val, undef, undef, undef, undef, undef, undef, undef], defers := [] })
    (fun x a' _ X Y row hs hg hr => by obtain ⟨B1, B2, e0, e1, e2, e3, e4⟩ := hs; exact ⟨B1, B2, e0, e1, e2.kept hg (fun r e => (hr r e).2), e3.kept hg (fun r e => (hr r e).2), e4⟩)
    ?assign ?body ?done ?stop
  case assign =>
    rintro l pre x W K1 ⟨h1, h2, h3, h4⟩ hK
    unfold en1 en2 at *
    gi_wp2
    have hb9 : Below W.heap.size W ((W.alloc (.cells #[.int .i64 (K.getD x.val (0, 0)).1, .int .i64 (K.getD x.val (0, 0)).2] 42)).alloc (.cells #[.int .i64 (nxtC K x.val).1, .int .i64 (nxtC K x.val).2] 42)) := ((Below.refl _ W).alloc (Nat.le_refl _) _).alloc (by simp) _
    exact hK _ _ (keepsFrom_below hb9) (keepsE_below (by omega) hb9) ⟨h1.below hb9, h2.below hb9, h3.trans (hb9.mono (by omega)), Nat.le_trans h4 hb9.size⟩ ⟨W.heap.size, W.heap.size + 1, h4, by omega, (Blk.new W _ _).alloc _, by have := Blk.new (W.alloc (.cells #[.int .i64 (K.getD x.val (0, 0)).1, .int .i64 (K.getD x.val (0, 0)).2] 42)) #[.int .i64 (nxtC K x.val).1, .int .i64 (nxtC K x.val).2] 42; rwa [World.size_alloc] at this, rfl⟩
  case body =>
    rintro l pre x a' W hl ⟨rr, hr⟩ ⟨h1, h2, h3, h4⟩ ⟨B1, B2, hB1, hB2, b1, b2, rfl⟩ hlt
    have HN := Lib.hid (ctL_snoc (px, py) K pre x)
    unfold en1 en2
    obtain ⟨q, hqq⟩ : ∃ q, ctL (px, py) K pre = q := ⟨_, rfl⟩
    rw [hqq] at h2 HN
    clear hqq
    have HO := Lib.hid (odd_step q (countC (px, py) (K.getD x.val (0, 0)) (nxtC K x.val)))
    simp only at h2
    generalize decide (q % 2 = 1) = o at *
    have HI := Lib.hid (And.intro h1 (And.intro h2 (And.intro h3 h4)))
    generalize K.getD x.val (0, 0) = e1 at *
    generalize nxtC K x.val = e2 at *
    obtain ⟨u, v⟩ := e1
    obtain ⟨y, z⟩ := e2
    simp only at b1 b2
    have HC := Lib.hid (fun w' => c_inCounts px py u v y z w')
    unfold pt at HC
    generalize countC (px, py) (u, v) (y, z) = g at *
    have p0 : W.cell? ⟨w.heap.size, 0, none⟩ = some (.int .i64 px) := h1.cell 0
    have p1 : W.cell? ⟨w.heap.size, 1, none⟩ = some (.int .i64 py) := h1.cell 1
    have f0 : W.cell? ⟨w.heap.size + 1, 0, none⟩ = some (.bool o) := h2.cell 0
    have g0 := h2.frozen 0
    have c0 : W.cell? ⟨B1, 0, none⟩ = some (.int .i64 u) := b1.cell 0
    have c1 : W.cell? ⟨B1, 1, none⟩ = some (.int .i64 v) := b1.cell 1
    have c2 : W.cell? ⟨B2, 0, none⟩ = some (.int .i64 y) := b2.cell 0
    have c3 : W.cell? ⟨B2, 1, none⟩ = some (.int .i64 z) := b2.cell 1
    have l1 := h1.lt
    have l2 := h2.lt
    have l3 := b1.lt
    have l4 := b2.lt
    have h01 : 1 ≤ 4 - 1 - 1 := by omega
    clear h1 h2 h3 b1 b2 hr
    have hmx : Tryz.prog.follows .mixedOrders = true := by kernel_rfl
    gi_wp2_with fail
    refine region_tail_in (C := Cls W) (wd_round l) 6 (by kernel_rfl) hmx (by kernel_rfl) (cls_drawn _) ?_
    simp only [List.take_succ_cons, List.take_zero, List.drop_succ_cons, List.drop_zero]
    repeat (first | (refine qw_skip (by rfl) ?_; simp only [Act.put, List.setIfInBounds_toArray, List.set_cons_succ, List.set_cons_zero]) | (refine qw_want (by rfl) (fun K hK => ?_); go_simp; first | (refine hK _ ?_; clear hK K) | (apply Exists.intro; refine ⟨?_, hK _ ?_⟩; (rintro w3_ ⟨J3_, d3_, rfl⟩; first | (with_reducible exact rfl) | (go_simp; with_reducible exact rfl) | (go_simp; (first | (with_reducible refine (HC.out _).mono ?_)); rintro e_ w_ ⟨rfl, J4_, d4_, rfl⟩; exact ⟨rfl, J3_ ++ J4_, d4_, by simp only [plus_plus, Array.append_assoc]⟩)); clear hK K)))
    refine qw_nil ?_
    rintro w3 ⟨J1, d1, rfl⟩
    gi_wp2_with fail
    exact inI_step HI.out HN.out (by omega) (q := 0) (by omega) (by omega) (show Value.bool (!(o == g)) = Value.bool (decide ((q + oneN g) % 2 = 1)) by rw [HO.out]; rfl) J1 d1
  case done =>
    rintro D ys W hD ⟨hup, hyl⟩ ⟨h1, h2, h3, h4⟩ hK
    rw [ctL_all HL.out hup hyl] at h2
    have HE := Lib.hid (show decide (crossN (px, py) K % 2 = 1) = R from HR.out)
    simp only [HE.out] at h2
    have f0 : W.cell? ⟨w.heap.size + 1, 0, none⟩ = some (.bool R) := h2.cell 0
    have l2 := h2.lt
    gi_wp2
    refine ⟨by simp, .inl ⟨_, _, rfl, run_takeDeferred hK, ?_⟩⟩
    refine ⟨_, results_tmp rfl _ _ _ rfl, rfl, junk_of_below ?_⟩
    exact h3.trans (belowK_b (w := w) (Nat.le_refl _) _ D _ _ (by omega) hK rfl rfl)
  case stop => rintro D c pre W hD hup h; exact h.elim
end
end Go.Proofs.YthphdiigjimchaaGreat

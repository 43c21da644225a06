/- Contracts of apportionref10: Counts, Crossings, In. Package inside: edges' iterator; how many of the edges that have come count. -/
import Derived.Test.YthphdiigjimchaaGreatRiMath
import Derived.Test.YthphdiigjimchaaGreatKitTwo
import Derived.Test.YthphdiigjimchaaGreatPtOne
import Derived.Test.YthphdiigjimchaaGreatPtU
import Derived.Test.YthphdiigjimchaaGreatKitOne
import Derived.Test.YthphdiigjimchaaGreatRgChk
namespace Go.Proofs.YthphdiigjimchaaGreat
section
set_option linter.unusedVariables false
set_option linter.unusedSimpArgs false
open Go.RowKit
set_option maxRecDepth 100000 in
set_option maxHeartbeats 1000000 in
theorem r_inCounts (px py ax ay bx by_ : Int) (w : World) : Calls Tryz.prog 122 #[pt px py, pt ax ay, pt bx by_] w fun e w' => e = .returned (.bool (countC (px, py) (ax, ay) (bx, by_))) ∧ Junk w w' := by
  unfold countC upC turnC
  simp only
  by_cases h0 : by_ < ay
  · rw [if_pos h0]
    have HT := Lib.hid (fun w' => r_ptTurn bx by_ ax ay px py w')
    generalize turnF bx by_ ax ay px py = t at *
    unfold pt at *
    by_cases h1 : by_ ≤ py
    · by_cases h2 : py < ay
      · rw [decide_eq_true h1, decide_eq_true h2, Bool.true_and, Bool.true_and]
        by_cases h3 : t = 1
        · subst h3
          go_enter Tryz.func122, Tryz.ntmps122
          go_wp2_with (go_at_call 109; (with_reducible refine (HT.out _).mono ?_); rintro e w1 ⟨rfl, J1, d1, rfl⟩)
          go_ret
          exact ⟨rfl, junk_of_below (by (repeat' first | with_reducible (first | apply Below.refl | assumption | apply bw_a | apply bw_d | apply bw_n | apply bw_p | apply bw_c | apply bw_r) | go_size))⟩
        · have e3 : (t == 1) = false := by rw [beq_eq_false_iff_ne]; exact h3
          rw [decide_eq_false h3]
          clear h3
          go_enter Tryz.func122, Tryz.ntmps122
          go_wp2_with (go_at_call 109; (with_reducible refine (HT.out _).mono ?_); rintro e w1 ⟨rfl, J1, d1, rfl⟩)
          go_ret
          exact ⟨rfl, junk_of_below (by (repeat' first | with_reducible (first | apply Below.refl | assumption | apply bw_a | apply bw_d | apply bw_n | apply bw_p | apply bw_c | apply bw_r) | go_size))⟩
      · rw [decide_eq_false h2, Bool.and_false, Bool.false_and]
        go_enter Tryz.func122, Tryz.ntmps122
        go_wp2_with fail
        go_ret
        exact ⟨rfl, junk_of_below (by (repeat' first | with_reducible (first | apply Below.refl | assumption | apply bw_a | apply bw_d | apply bw_n | apply bw_p | apply bw_c | apply bw_r) | go_size))⟩
    · rw [decide_eq_false h1, Bool.false_and, Bool.false_and]
      go_enter Tryz.func122, Tryz.ntmps122
      go_wp2_with fail
      go_ret
      exact ⟨rfl, junk_of_below (by (repeat' first | with_reducible (first | apply Below.refl | assumption | apply bw_a | apply bw_d | apply bw_n | apply bw_p | apply bw_c | apply bw_r) | go_size))⟩
  · rw [if_neg h0]
    have HT := Lib.hid (fun w' => r_ptTurn ax ay bx by_ px py w')
    generalize turnF ax ay bx by_ px py = t at *
    unfold pt at *
    by_cases h1 : ay ≤ py
    · by_cases h2 : py < by_
      · rw [decide_eq_true h1, decide_eq_true h2, Bool.true_and, Bool.true_and]
        by_cases h3 : t = 1
        · subst h3
          go_enter Tryz.func122, Tryz.ntmps122
          go_wp2_with (go_at_call 109; (with_reducible refine (HT.out _).mono ?_); rintro e w1 ⟨rfl, J1, d1, rfl⟩)
          go_ret
          exact ⟨rfl, junk_of_below (by (repeat' first | with_reducible (first | apply Below.refl | assumption | apply bw_a | apply bw_d | apply bw_n | apply bw_p | apply bw_c | apply bw_r) | go_size))⟩
        · have e3 : (t == 1) = false := by rw [beq_eq_false_iff_ne]; exact h3
          rw [decide_eq_false h3]
          clear h3
          go_enter Tryz.func122, Tryz.ntmps122
          go_wp2_with (go_at_call 109; (with_reducible refine (HT.out _).mono ?_); rintro e w1 ⟨rfl, J1, d1, rfl⟩)
          go_ret
          exact ⟨rfl, junk_of_below (by (repeat' first | with_reducible (first | apply Below.refl | assumption | apply bw_a | apply bw_d | apply bw_n | apply bw_p | apply bw_c | apply bw_r) | go_size))⟩
      · rw [decide_eq_false h2, Bool.and_false, Bool.false_and]
        go_enter Tryz.func122, Tryz.ntmps122
        go_wp2_with fail
        go_ret
        exact ⟨rfl, junk_of_below (by (repeat' first | with_reducible (first | apply Below.refl | assumption | apply bw_a | apply bw_d | apply bw_n | apply bw_p | apply bw_c | apply bw_r) | go_size))⟩
    · rw [decide_eq_false h1, Bool.false_and, Bool.false_and]
      go_enter Tryz.func122, Tryz.ntmps122
      go_wp2_with fail
      go_ret
      exact ⟨rfl, junk_of_below (by (repeat' first | with_reducible (first | apply Below.refl | assumption | apply bw_a | apply bw_d | apply bw_n | apply bw_p | apply bw_c | apply bw_r) | go_size))⟩
def CrAt (W : World) (p : Pt) (K : List Pt) (x y : Value) (wr : World) : Prop := ∃ k : Nat, y = .int .i64 (k : Int) ∧ x = .int .i64 (crossK p K k : Nat) ∧ k ≤ K.length ∧ Cls W wr
theorem crossK_le (p : Pt) (K : List Pt) : ∀ k, crossK p K k ≤ k
  | 0 => Nat.le_refl _
  | k + 1 => by
    have := crossK_le p K k
    show crossK p K k + oneN _ ≤ _
    unfold oneN; split <;> omega
set_option maxRecDepth 100000 in
set_option maxHeartbeats 2000000 in
theorem r_inCross (px py : Int) (w : World) (a : Option Addr) (n ca : Nat) (K : List Pt) (hK : PReads w a n K) (hs : n ≤ 4611686018427387903) :
    Calls Tryz.prog 95 #[pt px py, .slice a n ca] w fun e w' => e = .returned (.int .i64 (crossN (px, py) K : Nat)) ∧ Junk w w' := by
  have L1 := Lib.hid hK.1
  have HK := Lib.hid hK.2
  rw [← cross_all]
  unfold pt
  clear hK
  go_enter Tryz.func95, Tryz.ntmps95
  go_wp2_with fail
  obtain ⟨W, hW⟩ : ∃ W, w.alloc (.cells #[.int .i64 px, .int .i64 py] 42) = W := ⟨_, rfl⟩
  have c0 : W.cell? ⟨w.heap.size, 0, none⟩ = some (.int .i64 px) := by rw [← hW]; simp [go_sem]
  have c1 : W.cell? ⟨w.heap.size, 1, none⟩ = some (.int .i64 py) := by rw [← hW]; simp [go_sem]
  have hb0 : w.heap.size < W.heap.size := by rw [← hW]; simp
  have hj : Below w.heap.size w W := by rw [← hW]; (repeat' first | with_reducible (first | apply Below.refl | assumption | apply bw_a | apply bw_d | apply bw_n | apply bw_p | apply bw_c | apply bw_r) | go_size)
  rw [hW]
  clear hW
  go_loopw [5, 6] (fun x y wr => CrAt W (px, py) K x y wr) (fun _ y _ => n - (intOf y).toNat)
  case atStart => exact ⟨0, rfl, rfl, by omega, #[], _, (plus_nil _).symm⟩
  case round =>
    obtain ⟨k, rfl, rfl, k1, J, d, rfl⟩ := hrel
    rw [L1.out] at k1
    have hck := crossK_le (px, py) K k
    by_cases hlt : k < n
    · rcases HK.out with h | ⟨b, o, rfl, hc⟩
      · omega
      obtain ⟨j, hjn, ej⟩ : ∃ j : Nat, j < n ∧ (k + 1) % n = j := ⟨_, Nat.mod_lt _ (by omega), rfl⟩
      obtain ⟨p1, p2⟩ := hc k hlt
      obtain ⟨p3, p4⟩ := hc j hjn
      have hN : crossK (px, py) K (k + 1) = crossK (px, py) K k + oneN (countC (px, py) (K.getD k (0, 0)) (K.getD j (0, 0))) := by rw [← ej, ← L1.out]; rfl
      obtain ⟨u, v, hx⟩ : ∃ u v : Int, K.getD k (0, 0) = (u, v) := ⟨_, _, rfl⟩
      obtain ⟨x, y, hy⟩ : ∃ x y : Int, K.getD j (0, 0) = (x, y) := ⟨_, _, rfl⟩
      rw [hx] at p1 p2 hN
      rw [hy] at p3 p4 hN
      simp only at p1 p2 p3 p4
      have hb : b < w.heap.size := World.block_lt_of_cell? _ _ p1
      have s1 := (World.cell?_of_block (hj.block _ hb)).trans p1
      have s2 := (World.cell?_of_block (hj.block _ hb)).trans p2
      have s3 := (World.cell?_of_block (hj.block _ hb)).trans p3
      have s4 := (World.cell?_of_block (hj.block _ hb)).trans p4
      have hbW : b < W.heap.size := by have := hj.size; omega
      have HC := Lib.hid (fun w' => r_inCounts px py u v x y w')
      unfold pt at HC
      generalize countC (px, py) (u, v) (x, y) = c at *
      have i1 : (k : Int) < (n : Int) := by omega
      have i2 : (j : Int) < (n : Int) := by omega
      have e3 : ((k : Int) + 1) % (n : Int) = (j : Int) := by rw [← ej]; push_cast; rfl
      have w1 : IntKind.i64.wrap ((k : Int) + 1) = (k : Int) + 1 := by simp [IntKind.wrap, IntKind.signed, IntKind.bits]; omega
      have w2 : ((k : Int) + 1).tmod (n : Int) = (j : Int) := by rw [Int.tmod_eq_emod_of_nonneg (by omega)]; exact e3
      have w3 : ¬ n = 0 := by omega
      have HNN := Lib.hid hN
      clear hc hx hy hN p1 p2 p3 p4 ej
      generalize crossK (px, py) K k = q at *
      cases c with
      | true =>
        go_upto_region 5 with fail
        refine region_quiet_all (C := Cls W) (by kernel_rfl) (by kernel_rfl) ⟨_, _, rfl⟩ ?_
        repeat (first | (refine qw_skip (by rfl) ?_; simp only [Act.put, List.setIfInBounds_toArray, List.set_cons_succ, List.set_cons_zero]) | (refine qw_want (by rfl) (fun K hK => ?_); go_simp; first | (refine hK _ ?_; clear hK K) | (apply Exists.intro; refine ⟨?_, hK _ ?_⟩; (rintro w3_ ⟨J3_, d3_, rfl⟩; first | (with_reducible exact rfl) | (go_simp; with_reducible exact rfl) | (go_simp; (first | (with_reducible refine (HC.out _).mono ?_)); rintro e_ w_ ⟨rfl, J4_, d4_, rfl⟩; exact ⟨rfl, J3_ ++ J4_, d4_, by simp only [plus_plus, Array.append_assoc]⟩)); clear hK K)))
        refine qw_nil ?_
        rintro w4 ⟨J3, d3, rfl⟩
        go_wp2_with fail
        go_roundw
        case rel => exact ⟨k + 1, by go_num, by rw [HNN.out]; show _ = Value.int .i64 ((q + 1 : Nat) : Int); go_num, by rw [L1.out]; omega, _, _, rfl⟩
        case measure => simp [intOf]; omega
      | false =>
        go_upto_region 5 with fail
        refine region_quiet_all (C := Cls W) (by kernel_rfl) (by kernel_rfl) ⟨_, _, rfl⟩ ?_
        repeat (first | (refine qw_skip (by rfl) ?_; simp only [Act.put, List.setIfInBounds_toArray, List.set_cons_succ, List.set_cons_zero]) | (refine qw_want (by rfl) (fun K hK => ?_); go_simp; first | (refine hK _ ?_; clear hK K) | (apply Exists.intro; refine ⟨?_, hK _ ?_⟩; (rintro w3_ ⟨J3_, d3_, rfl⟩; first | (with_reducible exact rfl) | (go_simp; with_reducible exact rfl) | (go_simp; (first | (with_reducible refine (HC.out _).mono ?_)); rintro e_ w_ ⟨rfl, J4_, d4_, rfl⟩; exact ⟨rfl, J3_ ++ J4_, d4_, by simp only [plus_plus, Array.append_assoc]⟩)); clear hK K)))
        refine qw_nil ?_
        rintro w4 ⟨J3, d3, rfl⟩
        go_wp2_with fail
        go_roundw
        case rel => exact ⟨k + 1, by go_num, by rw [HNN.out]; rfl, by rw [L1.out]; omega, _, _, rfl⟩
        case measure => simp [intOf]; omega
    · obtain rfl : k = n := by omega
      have HE := Lib.hid (show crossK (px, py) K k = crossK (px, py) K K.length by rw [L1.out])
      go_wp2_with fail
      go_ret
      exact ⟨by rw [HE.out]; rfl, junk_of_below (hj.trans ((Junk.below ⟨_, _, rfl⟩).mono hj.size))⟩
set_option maxRecDepth 100000 in
theorem r_inIn (px py : Int) (w : World) (a : Option Addr) (n ca : Nat) (K : List Pt) (hK : PReads w a n K) (hs : n ≤ 4611686018427387903) :
    Calls Tryz.prog 60 #[pt px py, .slice a n ca] w fun e w' => e = .returned (.bool (inQ (px, py) K)) ∧ Junk w w' := by
  have HC := Lib.hid (fun w' (h : PReads w' a n K) => r_inCross px py w' a n ca K h hs)
  have HP := Lib.hid hK
  have hle := cross_le (px, py) K
  rw [hK.1] at hle
  unfold inQ
  generalize crossN (px, py) K = q at *
  unfold pt at *
  have e1 : ((q : Int)).tmod 2 = ((q % 2 : Nat) : Int) := by rw [Int.tmod_eq_emod_of_nonneg (by omega)]; omega
  clear hK
  rcases Nat.mod_two_eq_zero_or_one q with h | h
  · rw [decide_eq_false (by omega)]
    rw [h] at e1
    have e2 : ((q : Int)) % 2 = 0 := by omega
    go_enter Tryz.func60, Tryz.ntmps60
    go_wp2_with (go_at_call 95; refine (HC.out _ (HP.out.below (by (repeat' first | with_reducible (first | apply Below.refl | assumption | apply bw_a | apply bw_d | apply bw_n | apply bw_p | apply bw_c | apply bw_r) | go_size)))).mono ?_; rintro e w1 ⟨rfl, J1, d1, rfl⟩)
    go_ret
    exact ⟨rfl, junk_of_below (by (repeat' first | with_reducible (first | apply Below.refl | assumption | apply bw_a | apply bw_d | apply bw_n | apply bw_p | apply bw_c | apply bw_r) | go_size))⟩
  · rw [decide_eq_true h]
    rw [h] at e1
    have e2 : ((q : Int)) % 2 = 1 := by omega
    go_enter Tryz.func60, Tryz.ntmps60
    go_wp2_with (go_at_call 95; refine (HC.out _ (HP.out.below (by (repeat' first | with_reducible (first | apply Below.refl | assumption | apply bw_a | apply bw_d | apply bw_n | apply bw_p | apply bw_c | apply bw_r) | go_size)))).mono ?_; rintro e w1 ⟨rfl, J1, d1, rfl⟩)
    go_ret
    exact ⟨rfl, junk_of_below (by (repeat' first | with_reducible (first | apply Below.refl | assumption | apply bw_a | apply bw_d | apply bw_n | apply bw_p | apply bw_c | apply bw_r) | go_size))⟩
end

section
set_option linter.unusedVariables false
set_option linter.unusedSimpArgs false
open Go.RowKit Go.Shelf
attribute [local go_sem] Oper.semAt_some
def en1 (K : List Pt) (i : Nat) : Value := .agg #[.int .i64 (K.getD i (0, 0)).1, .int .i64 (K.getD i (0, 0)).2]
def en2 (K : List Pt) (i : Nat) : Value := .agg #[.int .i64 (nxtC K i).1, .int .i64 (nxtC K i).2]
theorem n_inEdges (w : World) (a : Option Addr) (n ca : Nat) : Calls Tryz.prog 62 #[.slice a n ca] w fun e w' => e = .returned (.func (.func 96) #[] #[.pointer (some ⟨w.heap.size, 0, none⟩)]) ∧ w' = w.alloc (.cells #[.slice a n ca] 23) := by
  go_enter Tryz.func62, Tryz.ntmps62
  go_wp2
  go_ret
  exact ⟨rfl, rfl⟩
set_option maxRecDepth 100000 in
set_option maxHeartbeats 2000000 in
theorem n_inIter (w0 : World) (a : Option Addr) (n ca : Nat) (K : List (Int × Int)) (hP : PReads w0 a n K) (hs : n ≤ 4611686018427387903) (m l Bn : Nat) (hm : 1 ≤ m) (J Jx : List (Fin n) → World → Prop)
    (hY : ∀ pre (x : Fin n) W, J pre W → pre.length < n → YieldAt Fence.wide (m - 1) Tryz.prog l #[en1 K x.val, en2 K x.val] W fun e W' => (e = .returned (.bool true) ∧ J (pre ++ [x]) W' ∧ KeepsE w0.heap.size Bn W W') ∨ (e = .returned (.bool false) ∧ Jx (pre ++ [x]) W'))
    (W : World) (hJ : AbidesFrom W.heap.size J) (hB : Below w0.heap.size w0 W) (hBn : W.heap[Bn]? = some (.cells #[.slice a n ca] 23 (0, 0))) (h0 : J [] W) :
    CallsIn Fence.wide m Tryz.prog 96 #[.func (.yield l) #[] #[], .pointer (some ⟨Bn, 0, none⟩)] W fun e W' => (∃ v, e = .returned v) ∧ ((∃ xs, (UptoQ xs ∧ xs.length = n) ∧ J xs W') ∨ (∃ pre, UptoQ pre ∧ Jx pre W')) := by
  refine callsIn_of_wp Tryz.func96 rfl trivial ?_ rfl
  have L1 := Lib.hid hP.1
  have HP := Lib.hid hP.2
  have hsz0 := hB.size
  have hcn : W.cell? ⟨Bn, 0, none⟩ = some (.slice a n ca) := by rw [cell_of_row W Bn 0 _ _ _ hBn]; rfl
  have HBn := Lib.hid hBn
  simp only [Tryz.ntmps96, List.size_toArray, List.length_cons, List.length_nil, Nat.reduceAdd, Nat.reduceSub, Array.replicate_succ, Array.replicate_zero, List.push_toArray, List.append_toArray, List.nil_append, List.cons_append]
  clear hP hBn
  gi_wp2_with fail
  have hJB : ∀ s A B, W.heap.size ≤ A.heap.size → J s A → Below A.heap.size A B → J s B := fun s A B hl hs hb => hJ s A B none hs (grown_of_below hb) (fun r e => by cases e)
  gi_loopw [7] (fun i wr => EdAt w0 n J Bn (.slice a n ca) i wr ∧ W.heap.size ≤ wr.heap.size) (fun i _ => n - (intOf i).toNat)
  case atStart => exact ⟨⟨[], rfl, by simp, upto_nil, h0, hB, HBn.out⟩, Nat.le_refl _⟩
  case round =>
    obtain ⟨⟨pre, rfl, hl1, hup, hJs, hBr, hBnr⟩, hszr⟩ := hrel
    by_cases hlt : pre.length < n
    · obtain ⟨x, hx⟩ : ∃ x : Fin n, x.val = pre.length := ⟨⟨pre.length, hlt⟩, rfl⟩
      rcases HP.out with h | ⟨b, o, rfl, hc⟩
      · omega
      have HX := Lib.hid hx
      have HU := Lib.hid (upto_snoc hup x hx)
      clear hup
      generalize hk : pre.length = k at *
      have HK := Lib.hid hk
      obtain ⟨p1, p2⟩ := hc k hlt
      obtain ⟨j, hj, ej⟩ : ∃ j : Nat, j < n ∧ (k + 1) % n = j := ⟨_, Nat.mod_lt _ (by omega), rfl⟩
      obtain ⟨p3, p4⟩ := hc j hj
      have en : nxtC K k = K.getD j (0, 0) := by unfold nxtC; rw [L1.out, ej]
      obtain ⟨u, v, e1⟩ : ∃ u v : Int, K.getD k (0, 0) = (u, v) := ⟨_, _, rfl⟩
      obtain ⟨s, t, e2⟩ : ∃ s t : Int, K.getD j (0, 0) = (s, t) := ⟨_, _, rfl⟩
      rw [e1] at p1 p2
      rw [e2] at p3 p4
      simp only at p1 p2 p3 p4
      obtain ⟨Wa, hWa⟩ : ∃ Wa, wr.alloc (.cells #[.int .i64 u, .int .i64 v] 42) = Wa := ⟨_, rfl⟩
      have hb1 : Below wr.heap.size wr Wa := by rw [← hWa]; exact (Below.refl _ wr).alloc (Nat.le_refl _) _
      have HY := Lib.hid (show ∀ w', Cls Wa w' → YieldAt Fence.wide (m - 1) Tryz.prog l #[.agg #[.int .i64 u, .int .i64 v], .agg #[.int .i64 s, .int .i64 t]] w' fun e W' => ∃ g, e = .returned (.bool g) ∧ ((g = true ∧ J (pre ++ [x]) W' ∧ KeepsE w0.heap.size Bn w' W') ∨ (g = false ∧ Jx (pre ++ [x]) W')) by
        rintro w' ⟨Ja, da, rfl⟩
        have := hY pre x (Wa.plus Ja da) (hJB _ _ _ hszr hJs (hb1.trans ((Junk.below ⟨Ja, da, rfl⟩).mono hb1.size))) (by rw [hk]; exact hlt)
        unfold en1 en2 at this
        rw [hx, en, e1, e2] at this
        refine YieldAt.mono this ?_
        rintro e W' (⟨rfl, h⟩ | ⟨rfl, h⟩)
        · exact ⟨_, rfl, .inl ⟨rfl, h⟩⟩
        · exact ⟨_, rfl, .inr ⟨rfl, h⟩⟩)
      have hb : b < w0.heap.size := World.block_lt_of_cell? _ _ p1
      have s1 := (World.cell?_of_block (hBr.block _ hb)).trans p1
      have s2 := (World.cell?_of_block (hBr.block _ hb)).trans p2
      have s3 := (World.cell?_of_block (hBr.block _ hb)).trans p3
      have s4 := (World.cell?_of_block (hBr.block _ hb)).trans p4
      have i1 : (k : Int) < (n : Int) := by omega
      have i2 : (j : Int) < (n : Int) := by omega
      have e3 : ((k : Int) + 1) % (n : Int) = (j : Int) := by rw [← ej]; push_cast; rfl
      have hcr : wr.cell? ⟨Bn, 0, none⟩ = some (.slice (some ⟨b, o, none⟩) n ca) := by rw [cell_of_row wr Bn 0 _ _ _ hBnr]; rfl
      have hBnl : Bn < wr.heap.size := heap_lt hBnr
      have hbl : b < wr.heap.size := by have := hBr.size; omega
      have HBr := Lib.hid (hBr.trans (hb1.mono hBr.size))
      have HBnr := Lib.hid ((hb1.block Bn hBnl).trans hBnr)
      have HZ := Lib.hid (show W.heap.size ≤ Wa.heap.size from Nat.le_trans hszr hb1.size)
      have HWa := Lib.hid hWa
      have HB1 := Lib.hid hb1
      clear hc p1 p2 p3 p4 en e1 e2 ej hj hY hJB hBr hBnr hB h0 hJ hx hJs hb1 hk
      gi_wp2_with fail
      have hmx : Tryz.prog.follows .mixedOrders = true := by kernel_rfl
      try simp only [HWa.out]
      have a1 : Wa.cell? ⟨wr.heap.size, 0, none⟩ = some (.int .i64 u) := by rw [← hWa]; simp [go_sem]
      have a2 : Wa.cell? ⟨wr.heap.size, 1, none⟩ = some (.int .i64 v) := by rw [← hWa]; simp [go_sem]
      have a3 : wr.heap.size < Wa.heap.size := by rw [← hWa]; simp
      have t1 : Wa.cell? ⟨b, o + k * 2, none⟩ = some (.int .i64 u) := (World.cell?_of_block (HB1.out.block _ hbl)).trans s1
      have t2 : Wa.cell? ⟨b, o + k * 2 + 1, none⟩ = some (.int .i64 v) := (World.cell?_of_block (HB1.out.block _ hbl)).trans s2
      have t3 : Wa.cell? ⟨b, o + j * 2, none⟩ = some (.int .i64 s) := (World.cell?_of_block (HB1.out.block _ hbl)).trans s3
      have t4 : Wa.cell? ⟨b, o + j * 2 + 1, none⟩ = some (.int .i64 t) := (World.cell?_of_block (HB1.out.block _ hbl)).trans s4
      have tcr : Wa.cell? ⟨Bn, 0, none⟩ = some (.slice (some ⟨b, o, none⟩) n ca) := (World.cell?_of_block (HB1.out.block _ hBnl)).trans hcr
      have tbl : Bn < Wa.heap.size := by omega
      have tb : b < Wa.heap.size := by omega
      clear s1 s2 s3 s4 hcr hWa
      have w1 : IntKind.i64.wrap ((k : Int) + 1) = (k : Int) + 1 := by simp [IntKind.wrap, IntKind.signed, IntKind.bits]; omega
      have w2 : ((k : Int) + 1).tmod (n : Int) = (j : Int) := by rw [Int.tmod_eq_emod_of_nonneg (by omega)]; exact e3
      have w3 : ¬ n = 0 := by omega
      refine region_tail_in (C := Cls Wa) wd_wide 10 (by kernel_rfl) hmx (by kernel_rfl) (cls_drawn _) ?_
      simp only [List.take_succ_cons, List.take_zero, List.drop_succ_cons, List.drop_zero]
      repeat (first | (refine qw_skip (by rfl) ?_; simp only [Act.put, List.setIfInBounds_toArray, List.set_cons_succ, List.set_cons_zero]) | (refine qw_want (by rfl) (fun K hK => ?_); go_simp; first | (refine hK _ ?_; clear hK K) | (apply Exists.intro; refine ⟨?_, hK _ ?_⟩; (rintro w3_ ⟨J3_, d3_, rfl⟩; first | (with_reducible exact rfl) | (go_simp; with_reducible exact rfl) | (go_simp; (first | (with_reducible refine (HY.out _).mono ?_)); rintro e_ w_ ⟨rfl, J4_, d4_, rfl⟩; exact ⟨rfl, J3_ ++ J4_, d4_, by simp only [plus_plus, Array.append_assoc]⟩)); clear hK K)))
      refine qw_nil ?_
      rintro w3 hw3
      obtain ⟨fn, tmps, assign, body, hy, hR⟩ := HY.out w3 hw3
      obtain ⟨Ja, da, rfl⟩ := hw3
      have hb3 : Below Wa.heap.size Wa (Wa.plus Ja da) := Junk.below ⟨Ja, da, rfl⟩
      have HBr3 := Lib.hid (HBr.out.trans (hb3.mono HBr.out.size))
      have HBn3 := Lib.hid ((hb3.block Bn tbl).trans HBnr.out)
      have HZ3 := Lib.hid (Nat.le_trans HZ.out hb3.size)
      clear hb3 HY
      generalize Wa.plus Ja da = W3 at *
      clear t1 t2 t3 t4 tcr a1 a2 a3 tbl tb HBr HBnr HZ HWa HB1
      gi_wp2_with fail
      refine hR.mono ?_
      rintro e W4 ⟨g, rfl, ⟨rfl, hJ4, hk4⟩ | ⟨rfl, hJx4⟩⟩
      · have HRR := Lib.hid (show EdAt w0 n J Bn (.slice (some ⟨b, o, none⟩) n ca) (.int .i64 ((k : Int) + 1)) W4 ∧ W.heap.size ≤ W4.heap.size from ⟨⟨pre ++ [x], by rw [List.length_append, HK.out]; rfl, by rw [List.length_append, HK.out]; exact hlt, HU.out, hJ4, HBr3.out.trans hk4.1, hk4.2 _ _ _ HBn3.out⟩, Nat.le_trans HZ3.out hk4.1.size⟩)
        clear hJ4 hk4
        gi_wp2
        go_roundw
        case rel => exact HRR.out
        case measure => simp [intOf]; omega
      · have HU2 := Lib.hid hJx4
        clear hJx4
        gi_wp2
        refine bodyPost_ret (results_none rfl _ _ _) rfl ?_
        exact ⟨⟨_, rfl⟩, .inr ⟨_, HU.out, HU2.out⟩⟩
    · have hn : pre.length = n := by omega
      clear hY hBr hBnr
      have i1 : ¬ ((pre.length : Int) < (n : Int)) := by omega
      gi_wp2
      go_end0
      exact ⟨⟨_, rfl⟩, .inl ⟨pre, ⟨hup, hn⟩, hJs⟩⟩
theorem in_stops (w0 : World) (a : Option Addr) (n ca : Nat) (K : List (Int × Int)) (hP : PReads w0 a n K) (hs : n ≤ 4611686018427387903) (m Bn : Nat) (hm : 1 ≤ m) (w : World) (hB : Below w0.heap.size w0 w) (hBn : w.heap[Bn]? = some (.cells #[.slice a n ca] 23 (0, 0))) :
    SeqStopsK Fence.wide m Tryz.prog 96 #[.pointer (some ⟨Bn, 0, none⟩)] (fun x : Fin n => #[en1 K x.val, en2 K x.val]) (KeepsE w0.heap.size Bn) (fun xs => UptoQ xs ∧ xs.length = n) UptoQ n w := by
  intro l J Jx W hW hJ hJx hY h0
  exact n_inIter w0 a n ca K hP hs m l Bn hm J Jx hY W hJ (hB.trans (hW.mono hB.size)) ((hW.block Bn (heap_lt hBn)).trans hBn) h0
def ctL (p : Pt) (K : List Pt) {n : Nat} (xs : List (Fin n)) : Nat := xs.foldl (fun s x => s + oneN (countC p (K.getD x.val (0, 0)) (nxtC K x.val))) 0
theorem ctL_snoc (p : Pt) (K : List Pt) {n : Nat} (xs : List (Fin n)) (x : Fin n) : ctL p K (xs ++ [x]) = ctL p K xs + oneN (countC p (K.getD x.val (0, 0)) (nxtC K x.val)) := by
  unfold ctL; rw [List.foldl_append]; rfl
theorem ctL_all {p : Pt} {K : List Pt} {n : Nat} {xs : List (Fin n)} (hn : K.length = n) (h : UptoQ xs) (hx : xs.length = n) : ctL p K xs = crossN p K := by
  rw [← cross_all]
  have : ∀ k, k ≤ n → ctL p K (xs.take k) = crossK p K k := by
    intro k
    induction k with
    | zero => intro _; rfl
    | succ k ih =>
      intro hk
      have hk' : k < xs.length := by omega
      rw [List.take_succ_eq_append_getElem hk', ctL_snoc, ih (by omega), h k hk']
      rfl
  have := this n (Nat.le_refl _)
  rw [List.take_of_length_le (by omega)] at this
  rw [this, hn]
theorem odd_step (q : Nat) (c : Bool) : decide ((q + oneN c) % 2 = 1) = (decide (q % 2 = 1) != c) := by
  unfold oneN
  cases c
  · simp
  · by_cases h : q % 2 = 1
    · rw [decide_eq_true h]; simp; omega
    · rw [decide_eq_false h]; simp; omega
end
end Go.Proofs.YthphdiigjimchaaGreat

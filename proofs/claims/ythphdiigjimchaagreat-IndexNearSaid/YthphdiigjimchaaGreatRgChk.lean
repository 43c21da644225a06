/- ring's edges: the iterator yields each edge behind its number; an edge's ends. ring's neighbours, goesBack, edge.meets; checkLong, checkFew. Rounds over edges: what lies in a block; lists of numbers that have come; the first at which something is so. ring's checkValid. ring's checkTwice. ring's checkBack. ring's checkMeet. ring's Check: the checks, one asking the next. ring's Check: the chain of closures, made by a loop backwards over the checks. ring's Check: its contract. -/
import Derived.RangeFuncNested
import Derived.RangeFuncBound
import Derived.RangeFuncBox
import Derived.RangeFuncCalls
import Derived.RangeFuncLeaves
import Derived.Shelf.Abstract
import Derived.Shelf.RegionOpen
import Derived.WalkKit
import Derived.OwnWalkIn
import Derived.TacticsInMore
import Derived.LoopNIn
import Derived.LoopIn
import Derived.Maps.AppendAt
import Derived.Test.YthphdiigjimchaaGreatPtOne
import Derived.Test.YthphdiigjimchaaGreatKitOne
import Derived.Test.YthphdiigjimchaaGreatKitTwo
import Derived.Test.YthphdiigjimchaaGreatRiRef
import Derived.Test.YthphdiigjimchaaGreatCrFive
import Derived.Test.YthphdiigjimchaaGreatPtFew
import Derived.Laws.EntriesVeiled
namespace Go.Proofs.YthphdiigjimchaaGreat
section
set_option linter.unusedVariables false
set_option linter.unusedSimpArgs false
open Go.RowKit Go.Shelf
attribute [local go_sem] Oper.semAt_some
def nxtC (K : List (Int × Int)) (i : Nat) : Int × Int := K.getD ((i + 1) % K.length) (0, 0)
def edV (p q : Int × Int) : Value := .agg #[.int .i64 p.1, .int .i64 p.2, .int .i64 q.1, .int .i64 q.2]
def KeepsE (n0 Bn : Nat) (W W' : World) : Prop := Below n0 W W' ∧ ∀ (c : Array Value) t f, W.heap[Bn]? = some (.cells c t f) → W'.heap[Bn]? = some (.cells c t f)
theorem keepsE_t {n0 Bn : Nat} {A B C : World} (h : KeepsE n0 Bn A B) (k : KeepsE n0 Bn B C) : KeepsE n0 Bn A C := ⟨h.1.trans k.1, fun c t f hi => k.2 c t f (h.2 c t f hi)⟩
theorem keepsE_b {n0 Bn : Nat} {w : World} (hn : n0 ≤ w.heap.size) (W : World) (l : Nat) (o o' : Obj) (hl : w.heap.size ≤ l) (h : W.heap[l]? = some o) (hc : o.isCells = false) (hw : o.isWalk = false) : KeepsE n0 Bn W (W.putObj l o') :=
  ⟨belowK_b hn W l o o' hl h hc hw, fun c t f hk => by
    by_cases e : Bn = l
    · subst e; rw [hk] at h; injection h with h; subst h; cases hc
    · exact (World.putObj_heap_other e).trans hk⟩
theorem keepsE_below {n0 Bn : Nat} {W W' : World} (hn : n0 ≤ W.heap.size) (hb : Below W.heap.size W W') : KeepsE n0 Bn W W' :=
  ⟨hb.mono hn, fun c t f hk => (hb.block Bn (Array.getElem?_eq_some_iff.1 hk).1).trans hk⟩
theorem grown_of_below {A B : World} (h : Below A.heap.size A B) : A.grownBy B none := ⟨h.os, h.tape, h.output, h.size, fun k hk _ => h.block k hk⟩
theorem heap_lt {W : World} {k : Nat} {o : Obj} (h : W.heap[k]? = some o) : k < W.heap.size := (Array.getElem?_eq_some_iff.1 h).1
def UptoQ {n : Nat} (xs : List (Fin n)) : Prop := ∀ j (h : j < xs.length), (xs[j]'h).val = j
theorem upto_nil {n : Nat} : UptoQ ([] : List (Fin n)) := fun j h => absurd h (by simp)
theorem upto_snoc {n : Nat} {xs : List (Fin n)} (h : UptoQ xs) (x : Fin n) (hx : x.val = xs.length) : UptoQ (xs ++ [x]) := fun j hj => by
  by_cases hl : j < xs.length
  · rw [List.getElem_append_left hl]; exact h j hl
  · have : j = xs.length := by simp at hj; omega
    subst this
    simp [hx]
theorem n_rgEdges (w : World) (a : Option Addr) (n ca : Nat) : Calls Tryz.prog 191 #[.slice a n ca] w fun e w' => e = .returned (.func (.func 213) #[] #[.pointer (some ⟨w.heap.size, 0, none⟩)]) ∧ w' = w.alloc (.cells #[.slice a n ca] 23) := by
  go_enter Tryz.func191, Tryz.ntmps191
  go_wp2
  go_ret
  exact ⟨rfl, rfl⟩
theorem results_pnt {fn : Func} {p : Tmp} (h : fn.results = #[.cell p 42]) (tmps : Array Value) (w : World) (g : Nat) (c : Array Value)
    (hp : tmps.getD p undef = .pointer (some ⟨g, 0, none⟩)) (hr : w.rowAt g = some c) (hc : c.size = 2) : (results fn tmps).run Tryz.prog w = .ok (.agg c) w := by
  obtain ⟨ty, hg⟩ := rowAt_some hr
  have hp' : tmps[p]?.getD undef = .pointer (some ⟨g, 0, none⟩) := by simpa using hp
  simp [results, h, hp', asAddr, run_loadVar_row w g ty _ c (0, 0) _ hg Tryz.underlying42 rfl (by rw [hc]; kernel_rfl)]
theorem n_rgEdFrom (x y u v : Int) (w : World) : Calls Tryz.prog 192 #[.agg #[.int .i64 x, .int .i64 y, .int .i64 u, .int .i64 v]] w fun e w' => e = .returned (pt x y) ∧ Junk w w' := by
  unfold pt
  go_enter Tryz.func192, Tryz.ntmps192
  go_wp2
  refine bodyPost_ret (results_pnt rfl _ _ (w.heap.size + 1) #[.int .i64 x, .int .i64 y] rfl (by simp [go_sem]) rfl) rfl ⟨rfl, junk_of_below (by (repeat' first | with_reducible (first | apply Below.refl | assumption | apply bw_a | apply bw_d | apply bw_n | apply bw_p | apply bw_c | apply bw_r) | go_size))⟩
theorem n_rgEdTo (x y u v : Int) (w : World) : Calls Tryz.prog 195 #[.agg #[.int .i64 x, .int .i64 y, .int .i64 u, .int .i64 v]] w fun e w' => e = .returned (pt u v) ∧ Junk w w' := by
  unfold pt
  go_enter Tryz.func195, Tryz.ntmps195
  go_wp2
  refine bodyPost_ret (results_pnt rfl _ _ (w.heap.size + 1) #[.int .i64 u, .int .i64 v] rfl (by simp [go_sem]) rfl) rfl ⟨rfl, junk_of_below (by (repeat' first | with_reducible (first | apply Below.refl | assumption | apply bw_a | apply bw_d | apply bw_n | apply bw_p | apply bw_c | apply bw_r) | go_size))⟩
def EdAt (w0 : World) (n : Nat) (J : List (Fin n) → World → Prop) (Bn : Nat) (s : Value) (i : Value) (wr : World) : Prop :=
  ∃ pre : List (Fin n), i = .int .i64 (pre.length : Int) ∧ pre.length ≤ n ∧ UptoQ pre ∧ J pre wr ∧ Below w0.heap.size w0 wr ∧ wr.heap[Bn]? = some (.cells #[s] 23 (0, 0))
set_option maxRecDepth 100000 in
set_option maxHeartbeats 2000000 in
theorem n_rgIter (w0 : World) (a : Option Addr) (n ca : Nat) (K : List (Int × Int)) (hP : PReads w0 a n K) (hs : n ≤ 4611686018427387903) (m l Bn : Nat) (hm : 1 ≤ m) (J Jx : List (Fin n) → World → Prop)
    (hY : ∀ pre (x : Fin n) W, J pre W → pre.length < n → YieldAt Fence.wide (m - 1) Tryz.prog l #[.int .i64 (x.val : Int), edV (K.getD x.val (0, 0)) (nxtC K x.val)] W fun e W' => (e = .returned (.bool true) ∧ J (pre ++ [x]) W' ∧ KeepsE w0.heap.size Bn W W') ∨ (e = .returned (.bool false) ∧ Jx (pre ++ [x]) W'))
    (W : World) (hJ : AbidesFrom W.heap.size J) (hB : Below w0.heap.size w0 W) (hBn : W.heap[Bn]? = some (.cells #[.slice a n ca] 23 (0, 0))) (h0 : J [] W) :
    CallsIn Fence.wide m Tryz.prog 213 #[.func (.yield l) #[] #[], .pointer (some ⟨Bn, 0, none⟩)] W fun e W' => (∃ v, e = .returned v) ∧ ((∃ xs, (UptoQ xs ∧ xs.length = n) ∧ J xs W') ∨ (∃ pre, UptoQ pre ∧ Jx pre W')) := by
  refine callsIn_of_wp Tryz.func213 rfl trivial ?_ rfl
  have L1 := Lib.hid hP.1
  have HP := Lib.hid hP.2
  have hsz0 := hB.size
  have hcn : W.cell? ⟨Bn, 0, none⟩ = some (.slice a n ca) := by rw [cell_of_row W Bn 0 _ _ _ hBn]; rfl
  have HBn := Lib.hid hBn
  simp only [Tryz.ntmps213, List.size_toArray, List.length_cons, List.length_nil, Nat.reduceAdd, Nat.reduceSub, Array.replicate_succ, Array.replicate_zero, List.push_toArray, List.append_toArray, List.nil_append, List.cons_append]
  clear hP hBn
  gi_wp2_with fail
  have hJB : ∀ s A B, W.heap.size ≤ A.heap.size → J s A → Below A.heap.size A B → J s B := fun s A B hl hs hb => hJ s A B none hs (grown_of_below hb) (fun r e => by cases e)
  gi_loopw [7] (fun i wr => EdAt w0 n J Bn (.slice a n ca) i wr ∧ W.heap.size ≤ wr.heap.size) (fun i _ => n - (intOf i).toNat)
  case atStart => exact ⟨⟨[], rfl, by simp, upto_nil, h0, hB, HBn.out⟩, Nat.le_refl _⟩
  case round =>
    obtain ⟨⟨pre, rfl, hl1, hup, hJs, hBr, hBnr⟩, hszr⟩ := hrel
    by_cases hlt : pre.length < n
    · obtain ⟨x, hx⟩ : ∃ x : Fin n, x.val = pre.length := ⟨⟨pre.length, hlt⟩, rfl⟩
      rcases HP.out with h | ⟨b, o, rfl, hc⟩
      · omega
      have HX := Lib.hid hx
      have HU := Lib.hid (upto_snoc hup x hx)
      clear hup
      generalize hk : pre.length = k at *
      have HK := Lib.hid hk
      obtain ⟨p1, p2⟩ := hc k hlt
      obtain ⟨j, hj, ej⟩ : ∃ j : Nat, j < n ∧ (k + 1) % n = j := ⟨_, Nat.mod_lt _ (by omega), rfl⟩
      obtain ⟨p3, p4⟩ := hc j hj
      have en : nxtC K k = K.getD j (0, 0) := by unfold nxtC; rw [L1.out, ej]
      obtain ⟨u, v, e1⟩ : ∃ u v : Int, K.getD k (0, 0) = (u, v) := ⟨_, _, rfl⟩
      obtain ⟨s, t, e2⟩ : ∃ s t : Int, K.getD j (0, 0) = (s, t) := ⟨_, _, rfl⟩
      rw [e1] at p1 p2
      rw [e2] at p3 p4
      simp only at p1 p2 p3 p4
      obtain ⟨Wa, hWa⟩ : ∃ Wa, wr.alloc (.cells #[.int .i64 u, .int .i64 v] 42) = Wa := ⟨_, rfl⟩
      have hb1 : Below wr.heap.size wr Wa := by rw [← hWa]; exact (Below.refl _ wr).alloc (Nat.le_refl _) _
      have HY := Lib.hid (show ∀ w', Cls Wa w' → YieldAt Fence.wide (m - 1) Tryz.prog l #[.int .i64 (k : Int), .agg #[.int .i64 u, .int .i64 v, .int .i64 s, .int .i64 t]] w' fun e W' => ∃ g, e = .returned (.bool g) ∧ ((g = true ∧ J (pre ++ [x]) W' ∧ KeepsE w0.heap.size Bn w' W') ∨ (g = false ∧ Jx (pre ++ [x]) W')) by
        rintro w' ⟨Ja, da, rfl⟩
        have := hY pre x (Wa.plus Ja da) (hJB _ _ _ hszr hJs (hb1.trans ((Junk.below ⟨Ja, da, rfl⟩).mono hb1.size))) (by rw [hk]; exact hlt)
        rw [hx, en, e1, e2] at this
        refine YieldAt.mono this ?_
        rintro e W' (⟨rfl, h⟩ | ⟨rfl, h⟩)
        · exact ⟨_, rfl, .inl ⟨rfl, h⟩⟩
        · exact ⟨_, rfl, .inr ⟨rfl, h⟩⟩)
      have hb : b < w0.heap.size := World.block_lt_of_cell? _ _ p1
      have s1 := (World.cell?_of_block (hBr.block _ hb)).trans p1
      have s2 := (World.cell?_of_block (hBr.block _ hb)).trans p2
      have s3 := (World.cell?_of_block (hBr.block _ hb)).trans p3
      have s4 := (World.cell?_of_block (hBr.block _ hb)).trans p4
      have i1 : (k : Int) < (n : Int) := by omega
      have i2 : (j : Int) < (n : Int) := by omega
      have e3 : ((k : Int) + 1) % (n : Int) = (j : Int) := by rw [← ej]; push_cast; rfl
      have hcr : wr.cell? ⟨Bn, 0, none⟩ = some (.slice (some ⟨b, o, none⟩) n ca) := by rw [cell_of_row wr Bn 0 _ _ _ hBnr]; rfl
      have hBnl : Bn < wr.heap.size := heap_lt hBnr
      have hbl : b < wr.heap.size := by have := hBr.size; omega
      have HBr := Lib.hid (hBr.trans (hb1.mono hBr.size))
      have HBnr := Lib.hid ((hb1.block Bn hBnl).trans hBnr)
      have HZ := Lib.hid (show W.heap.size ≤ Wa.heap.size from Nat.le_trans hszr hb1.size)
      have HWa := Lib.hid hWa
      have HB1 := Lib.hid hb1
      clear hc p1 p2 p3 p4 en e1 e2 ej hj hY hJB hBr hBnr hB h0 hJ hx hJs hb1 hk
      gi_wp2_with fail
      have hmx : Tryz.prog.follows .mixedOrders = true := by kernel_rfl
      try simp only [HWa.out]
      have a1 : Wa.cell? ⟨wr.heap.size, 0, none⟩ = some (.int .i64 u) := by rw [← hWa]; simp [go_sem]
      have a2 : Wa.cell? ⟨wr.heap.size, 1, none⟩ = some (.int .i64 v) := by rw [← hWa]; simp [go_sem]
      have a3 : wr.heap.size < Wa.heap.size := by rw [← hWa]; simp
      have t1 : Wa.cell? ⟨b, o + k * 2, none⟩ = some (.int .i64 u) := (World.cell?_of_block (HB1.out.block _ hbl)).trans s1
      have t2 : Wa.cell? ⟨b, o + k * 2 + 1, none⟩ = some (.int .i64 v) := (World.cell?_of_block (HB1.out.block _ hbl)).trans s2
      have t3 : Wa.cell? ⟨b, o + j * 2, none⟩ = some (.int .i64 s) := (World.cell?_of_block (HB1.out.block _ hbl)).trans s3
      have t4 : Wa.cell? ⟨b, o + j * 2 + 1, none⟩ = some (.int .i64 t) := (World.cell?_of_block (HB1.out.block _ hbl)).trans s4
      have tcr : Wa.cell? ⟨Bn, 0, none⟩ = some (.slice (some ⟨b, o, none⟩) n ca) := (World.cell?_of_block (HB1.out.block _ hBnl)).trans hcr
      have tbl : Bn < Wa.heap.size := by omega
      have tb : b < Wa.heap.size := by omega
      clear s1 s2 s3 s4 hcr hWa
      have w1 : IntKind.i64.wrap ((k : Int) + 1) = (k : Int) + 1 := by simp [IntKind.wrap, IntKind.signed, IntKind.bits]; omega
      have w2 : ((k : Int) + 1).tmod (n : Int) = (j : Int) := by rw [Int.tmod_eq_emod_of_nonneg (by omega)]; exact e3
      have w3 : ¬ n = 0 := by omega
      refine region_tail_in (C := Cls Wa) wd_wide 12 (by kernel_rfl) hmx (by kernel_rfl) (cls_drawn _) ?_
      simp only [List.take_succ_cons, List.take_zero, List.drop_succ_cons, List.drop_zero]
      repeat (first | (refine qw_skip (by rfl) ?_; simp only [Act.put, List.setIfInBounds_toArray, List.set_cons_succ, List.set_cons_zero]) | (refine qw_want (by rfl) (fun K hK => ?_); go_simp; first | (refine hK _ ?_; clear hK K) | (apply Exists.intro; refine ⟨?_, hK _ ?_⟩; (rintro w3_ ⟨J3_, d3_, rfl⟩; first | (with_reducible exact rfl) | (go_simp; with_reducible exact rfl) | (go_simp; (first | (with_reducible refine (HY.out _).mono ?_)); rintro e_ w_ ⟨rfl, J4_, d4_, rfl⟩; exact ⟨rfl, J3_ ++ J4_, d4_, by simp only [plus_plus, Array.append_assoc]⟩)); clear hK K)))
      refine qw_nil ?_
      rintro w3 hw3
      obtain ⟨fn, tmps, assign, body, hy, hR⟩ := HY.out w3 hw3
      obtain ⟨Ja, da, rfl⟩ := hw3
      have hb3 : Below Wa.heap.size Wa (Wa.plus Ja da) := Junk.below ⟨Ja, da, rfl⟩
      have HBr3 := Lib.hid (HBr.out.trans (hb3.mono HBr.out.size))
      have HBn3 := Lib.hid ((hb3.block Bn tbl).trans HBnr.out)
      have HZ3 := Lib.hid (Nat.le_trans HZ.out hb3.size)
      clear hb3 HY
      generalize Wa.plus Ja da = W3 at *
      clear t1 t2 t3 t4 tcr a1 a2 a3 tbl tb HBr HBnr HZ HWa HB1
      gi_wp2_with fail
      refine hR.mono ?_
      rintro e W4 ⟨g, rfl, ⟨rfl, hJ4, hk4⟩ | ⟨rfl, hJx4⟩⟩
      · have HRR := Lib.hid (show EdAt w0 n J Bn (.slice (some ⟨b, o, none⟩) n ca) (.int .i64 ((k : Int) + 1)) W4 ∧ W.heap.size ≤ W4.heap.size from ⟨⟨pre ++ [x], by rw [List.length_append, HK.out]; rfl, by rw [List.length_append, HK.out]; exact hlt, HU.out, hJ4, HBr3.out.trans hk4.1, hk4.2 _ _ _ HBn3.out⟩, Nat.le_trans HZ3.out hk4.1.size⟩)
        clear hJ4 hk4
        gi_wp2
        go_roundw
        case rel => exact HRR.out
        case measure => simp [intOf]; omega
      · have HU2 := Lib.hid hJx4
        clear hJx4
        gi_wp2
        refine bodyPost_ret (results_none rfl _ _ _) rfl ?_
        exact ⟨⟨_, rfl⟩, .inr ⟨_, HU.out, HU2.out⟩⟩
    · have hn : pre.length = n := by omega
      clear hY hBr hBnr
      have i1 : ¬ ((pre.length : Int) < (n : Int)) := by omega
      gi_wp2
      go_end0
      exact ⟨⟨_, rfl⟩, .inl ⟨pre, ⟨hup, hn⟩, hJs⟩⟩
theorem rg_stops (w0 : World) (a : Option Addr) (n ca : Nat) (K : List (Int × Int)) (hP : PReads w0 a n K) (hs : n ≤ 4611686018427387903) (m Bn : Nat) (hm : 1 ≤ m) (w : World) (hB : Below w0.heap.size w0 w) (hBn : w.heap[Bn]? = some (.cells #[.slice a n ca] 23 (0, 0))) :
    SeqStopsK Fence.wide m Tryz.prog 213 #[.pointer (some ⟨Bn, 0, none⟩)] (fun x : Fin n => #[.int .i64 (x.val : Int), edV (K.getD x.val (0, 0)) (nxtC K x.val)]) (KeepsE w0.heap.size Bn) (fun xs => UptoQ xs ∧ xs.length = n) UptoQ n w := by
  intro l J Jx W hW hJ hJx hY h0
  exact n_rgIter w0 a n ca K hP hs m l Bn hm J Jx hY W hJ (hB.trans (hW.mono hB.size)) ((hW.block Bn (heap_lt hBn)).trans hBn) h0
end

section
set_option linter.unusedVariables false
set_option linter.unusedSimpArgs false
open Go.RowKit
def nbQ (i j n : Nat) : Bool := decide ((i + 1) % n = j) || decide ((j + 1) % n = i)
set_option maxRecDepth 100000 in
theorem n_rgNb (i j n : Nat) (hi : i < n) (hj : j < n) (hs : n ≤ 4611686018427387903) (w : World) : Calls Tryz.prog 196 #[.int .i64 (i : Int), .int .i64 (j : Int), .int .i64 (n : Int)] w fun e w' => e = .returned (.bool (nbQ i j n)) ∧ Junk w w' := by
  unfold nbQ
  obtain ⟨p, ep⟩ : ∃ p : Nat, (i + 1) % n = p := ⟨_, rfl⟩
  obtain ⟨q, eq⟩ : ∃ q : Nat, (j + 1) % n = q := ⟨_, rfl⟩
  rw [ep, eq]
  have n0 : ¬ n = 0 := by omega
  have w1 : IntKind.i64.wrap ((i : Int) + 1) = (i : Int) + 1 := by simp [IntKind.wrap, IntKind.signed, IntKind.bits]; omega
  have w2 : IntKind.i64.wrap ((j : Int) + 1) = (j : Int) + 1 := by simp [IntKind.wrap, IntKind.signed, IntKind.bits]; omega
  have e1 : ((i : Int) + 1) % (n : Int) = (p : Int) := by rw [← ep]; push_cast; rfl
  have e2 : ((j : Int) + 1) % (n : Int) = (q : Int) := by rw [← eq]; push_cast; rfl
  have u1 : ((i : Int) + 1).tmod (n : Int) = (p : Int) := by rw [Int.tmod_eq_emod_of_nonneg (by omega)]; exact e1
  have u2 : ((j : Int) + 1).tmod (n : Int) = (q : Int) := by rw [Int.tmod_eq_emod_of_nonneg (by omega)]; exact e2
  clear ep eq
  by_cases h1 : p = j
  · have b1 : ((p : Int) == (j : Int)) = true := by rw [beq_iff_eq]; omega
    rw [decide_eq_true h1, Bool.true_or]
    clear h1
    go_enter Tryz.func196, Tryz.ntmps196
    go_wp2
    go_ret
    exact ⟨rfl, junk_of_below (by (repeat' first | with_reducible (first | apply Below.refl | assumption | apply bw_a | apply bw_d | apply bw_n | apply bw_p | apply bw_c | apply bw_r) | go_size))⟩
  · have b1 : ((p : Int) == (j : Int)) = false := by rw [beq_eq_false_iff_ne]; omega
    rw [decide_eq_false h1, Bool.false_or]
    clear h1
    by_cases h2 : q = i
    · have b2 : ((q : Int) == (i : Int)) = true := by rw [beq_iff_eq]; omega
      rw [decide_eq_true h2]
      clear h2
      go_enter Tryz.func196, Tryz.ntmps196
      go_wp2
      go_ret
      exact ⟨rfl, junk_of_below (by (repeat' first | with_reducible (first | apply Below.refl | assumption | apply bw_a | apply bw_d | apply bw_n | apply bw_p | apply bw_c | apply bw_r) | go_size))⟩
    · have b2 : ((q : Int) == (i : Int)) = false := by rw [beq_eq_false_iff_ne]; omega
      rw [decide_eq_false h2]
      clear h2
      go_enter Tryz.func196, Tryz.ntmps196
      go_wp2
      go_ret
      exact ⟨rfl, junk_of_below (by (repeat' first | with_reducible (first | apply Below.refl | assumption | apply bw_a | apply bw_d | apply bw_n | apply bw_p | apply bw_c | apply bw_r) | go_size))⟩
set_option maxRecDepth 100000 in
theorem n_rgGoesBack (ax ay px py bx by_ : Int) (w : World) : Calls Tryz.prog 194 #[pt ax ay, pt px py, pt bx by_] w fun e w' => e = .returned (.bool (backC (ax, ay) (px, py) (bx, by_))) ∧ Junk w w' := by
  have HT := Lib.hid (fun w' => n_ptTurn ax ay px py bx by_ w')
  have HO := Lib.hid (fun w' => n_ptOn px py ax ay bx by_ w')
  unfold backC turnC onC
  simp only
  generalize turnF ax ay px py bx by_ = t at *
  generalize onB px py ax ay bx by_ = o at *
  unfold pt at *
  by_cases h : t = 0
  · subst h
    simp only [decide_true, Bool.true_and]
    go_enter Tryz.func194, Tryz.ntmps194
    go_wp2_with (first | (go_at_call 97; (with_reducible refine (HT.out _).mono ?_); rintro e w1 ⟨rfl, J1, d1, rfl⟩) | (go_at_call 215; (with_reducible refine (HO.out _).mono ?_); rintro e w1 ⟨rfl, J2, d2, rfl⟩))
    go_ret
    exact ⟨rfl, junk_of_below (by (repeat' first | with_reducible (first | apply Below.refl | assumption | apply bw_a | apply bw_d | apply bw_n | apply bw_p | apply bw_c | apply bw_r) | go_size))⟩
  · have e1 : (t == 0) = false := by rw [beq_eq_false_iff_ne]; exact h
    rw [decide_eq_false h, Bool.false_and]
    clear h
    go_enter Tryz.func194, Tryz.ntmps194
    go_wp2_with (first | (go_at_call 97; (with_reducible refine (HT.out _).mono ?_); rintro e w1 ⟨rfl, J1, d1, rfl⟩) | (go_at_call 215; (with_reducible refine (HO.out _).mono ?_); rintro e w1 ⟨rfl, J2, d2, rfl⟩))
    go_ret
    exact ⟨rfl, junk_of_below (by (repeat' first | with_reducible (first | apply Below.refl | assumption | apply bw_a | apply bw_d | apply bw_n | apply bw_p | apply bw_c | apply bw_r) | go_size))⟩
set_option maxRecDepth 100000 in
set_option maxHeartbeats 1000000 in
theorem n_rgEdMeets (ax ay bx by_ cx cy dx dy : Int) (w : World) : Calls Tryz.prog 197 #[edV (ax, ay) (bx, by_), edV (cx, cy) (dx, dy)] w fun e w' => e = .returned (.bool (!decide (meetQ (ax, ay) (bx, by_) (cx, cy) (dx, dy) = 0))) ∧ Junk w w' := by
  have H1 := Lib.hid (fun w' => n_rgEdFrom ax ay bx by_ w')
  have H2 := Lib.hid (fun w' => n_rgEdTo ax ay bx by_ w')
  have H3 := Lib.hid (fun w' => n_rgEdFrom cx cy dx dy w')
  have H4 := Lib.hid (fun w' => n_rgEdTo cx cy dx dy w')
  have H5 := Lib.hid (fun w' => n_crMeets ax ay bx by_ cx cy dx dy w')
  generalize meetQ (ax, ay) (bx, by_) (cx, cy) (dx, dy) = t at *
  unfold edV
  simp only
  unfold pt at *
  by_cases h : t = 0
  · subst h
    go_enter Tryz.func197, Tryz.ntmps197
    go_upto_region 1 with fail
    refine region_quiet_all (C := Cls ((w.alloc (.cells #[.int .i64 ax, .int .i64 ay, .int .i64 bx, .int .i64 by_] 232)).alloc (.cells #[.int .i64 cx, .int .i64 cy, .int .i64 dx, .int .i64 dy] 232))) (by kernel_rfl) (by kernel_rfl) ⟨#[], _, (plus_nil _).symm⟩ ?_
    repeat (first | (refine qw_skip (by rfl) ?_; simp only [Act.put, List.setIfInBounds_toArray, List.set_cons_succ, List.set_cons_zero]) | (refine qw_want (by rfl) (fun K hK => ?_); go_simp; first | (refine hK _ ?_; clear hK K) | (apply Exists.intro; refine ⟨?_, hK _ ?_⟩; (rintro w3_ ⟨J3_, d3_, rfl⟩; first | (with_reducible exact rfl) | (go_simp; with_reducible exact rfl) | (go_simp; (first | (with_reducible refine (H1.out _).mono ?_) | (with_reducible refine (H2.out _).mono ?_) | (with_reducible refine (H3.out _).mono ?_) | (with_reducible refine (H4.out _).mono ?_) | (with_reducible refine (H5.out _).mono ?_)); rintro e_ w_ ⟨rfl, J4_, d4_, rfl⟩; exact ⟨rfl, J3_ ++ J4_, d4_, by simp only [plus_plus, Array.append_assoc]⟩)); clear hK K)))
    refine qw_nil ?_
    rintro w3 ⟨J3, d3, rfl⟩
    go_wp2_with fail
    go_ret
    exact ⟨rfl, junk_of_below (by (repeat' first | with_reducible (first | apply Below.refl | assumption | apply bw_a | apply bw_d | apply bw_n | apply bw_p | apply bw_c | apply bw_r) | go_size))⟩
  · have e1 : (t == 0) = false := by rw [beq_eq_false_iff_ne]; exact h
    have e2 : (t != 0) = true := by rw [bne, e1]; rfl
    rw [decide_eq_false h]
    clear h
    go_enter Tryz.func197, Tryz.ntmps197
    go_upto_region 1 with fail
    refine region_quiet_all (C := Cls ((w.alloc (.cells #[.int .i64 ax, .int .i64 ay, .int .i64 bx, .int .i64 by_] 232)).alloc (.cells #[.int .i64 cx, .int .i64 cy, .int .i64 dx, .int .i64 dy] 232))) (by kernel_rfl) (by kernel_rfl) ⟨#[], _, (plus_nil _).symm⟩ ?_
    repeat (first | (refine qw_skip (by rfl) ?_; simp only [Act.put, List.setIfInBounds_toArray, List.set_cons_succ, List.set_cons_zero]) | (refine qw_want (by rfl) (fun K hK => ?_); go_simp; first | (refine hK _ ?_; clear hK K) | (apply Exists.intro; refine ⟨?_, hK _ ?_⟩; (rintro w3_ ⟨J3_, d3_, rfl⟩; first | (with_reducible exact rfl) | (go_simp; with_reducible exact rfl) | (go_simp; (first | (with_reducible refine (H1.out _).mono ?_) | (with_reducible refine (H2.out _).mono ?_) | (with_reducible refine (H3.out _).mono ?_) | (with_reducible refine (H4.out _).mono ?_) | (with_reducible refine (H5.out _).mono ?_)); rintro e_ w_ ⟨rfl, J4_, d4_, rfl⟩; exact ⟨rfl, J3_ ++ J4_, d4_, by simp only [plus_plus, Array.append_assoc]⟩)); clear hK K)))
    refine qw_nil ?_
    rintro w3 ⟨J3, d3, rfl⟩
    go_wp2_with fail
    go_ret
    exact ⟨rfl, junk_of_below (by (repeat' first | with_reducible (first | apply Below.refl | assumption | apply bw_a | apply bw_d | apply bw_n | apply bw_p | apply bw_c | apply bw_r) | go_size))⟩
def clo (p q r : Nat) : Value := .func (.func 127) #[] #[.pointer (some ⟨p, 0, none⟩), .pointer (some ⟨q, 0, none⟩), .pointer (some ⟨r, 0, none⟩)]
def Next (w : World) (p q r : Nat) (s : Int × Nat) : Prop := ∀ W, Below w.heap.size w W → Calls Tryz.prog 127 #[.pointer (some ⟨p, 0, none⟩), .pointer (some ⟨q, 0, none⟩), .pointer (some ⟨r, 0, none⟩)] W fun e W' => e = .returned (fltV s) ∧ Junk W W'
set_option maxRecDepth 100000 in
theorem n_rgLong (w : World) (a : Option Addr) (n ca p q r : Nat) (s : Int × Nat) (HN : Next w p q r s) : Calls Tryz.prog 158 #[.slice a n ca, clo p q r] w fun e w' => e = .returned (fltV (if 200 < n then (3, 0) else s)) ∧ Junk w w' := by
  have HN := Lib.hid HN
  obtain ⟨s1, s2⟩ := s
  unfold clo
  by_cases h : 200 < n
  · have i1 : (200 : Int) < (n : Int) := by omega
    rw [if_pos h]
    clear h
    go_enter Tryz.func158, Tryz.ntmps158
    go_wp2_with fail
    refine bodyPost_ret (results_flt rfl _ _ w.heap.size #[.int .i64 3, .int .i64 0] rfl (by simp [go_sem]) rfl) rfl ⟨rfl, junk_of_below (by (repeat' first | with_reducible (first | apply Below.refl | assumption | apply bw_a | apply bw_d | apply bw_n | apply bw_p | apply bw_c | apply bw_r) | go_size))⟩
  · have i1 : ¬ (200 : Int) < (n : Int) := by omega
    rw [if_neg h]
    clear h
    unfold Next fltV at HN
    go_enter Tryz.func158, Tryz.ntmps158
    go_wp2_with (go_at_call 127; (refine (HN.out _ (by (repeat' first | with_reducible (first | apply Below.refl | assumption | apply bw_a | apply bw_d | apply bw_n | apply bw_p | apply bw_c | apply bw_r) | go_size))).mono ?_); rintro e w1 ⟨rfl, J1, d1, rfl⟩)
    refine bodyPost_ret (results_flt rfl _ _ w.heap.size #[.int .i64 s1, .int .i64 (s2 : Int)] rfl (by simp [go_sem]) rfl) rfl ⟨rfl, junk_of_below (by (repeat' first | with_reducible (first | apply Below.refl | assumption | apply bw_a | apply bw_d | apply bw_n | apply bw_p | apply bw_c | apply bw_r) | go_size))⟩
set_option maxRecDepth 100000 in
theorem n_rgFew (w : World) (a : Option Addr) (n ca p q r : Nat) (s : Int × Nat) (HN : ¬ n < 3 → Next w p q r s) : Calls Tryz.prog 159 #[.slice a n ca, clo p q r] w fun e w' => e = .returned (fltV (if n < 3 then (190, 0) else s)) ∧ Junk w w' := by
  obtain ⟨s1, s2⟩ := s
  unfold clo
  by_cases h : n < 3
  · have i1 : (n : Int) < 3 := by omega
    rw [if_pos h]
    clear h
    go_enter Tryz.func159, Tryz.ntmps159
    go_wp2_with fail
    refine bodyPost_ret (results_flt rfl _ _ w.heap.size #[.int .i64 190, .int .i64 0] rfl (by simp [go_sem]) rfl) rfl ⟨rfl, junk_of_below (by (repeat' first | with_reducible (first | apply Below.refl | assumption | apply bw_a | apply bw_d | apply bw_n | apply bw_p | apply bw_c | apply bw_r) | go_size))⟩
  · have i1 : ¬ (n : Int) < 3 := by omega
    rw [if_neg h]
    have HN := Lib.hid (HN h)
    clear h
    unfold Next fltV at HN
    go_enter Tryz.func159, Tryz.ntmps159
    go_wp2_with (go_at_call 127; (refine (HN.out _ (by (repeat' first | with_reducible (first | apply Below.refl | assumption | apply bw_a | apply bw_d | apply bw_n | apply bw_p | apply bw_c | apply bw_r) | go_size))).mono ?_); rintro e w1 ⟨rfl, J1, d1, rfl⟩)
    refine bodyPost_ret (results_flt rfl _ _ w.heap.size #[.int .i64 s1, .int .i64 (s2 : Int)] rfl (by simp [go_sem]) rfl) rfl ⟨rfl, junk_of_below (by (repeat' first | with_reducible (first | apply Below.refl | assumption | apply bw_a | apply bw_d | apply bw_n | apply bw_p | apply bw_c | apply bw_r) | go_size))⟩
end

section
set_option linter.unusedVariables false
set_option linter.unusedSimpArgs false
open Go.RowKit Go.Shelf
def Blk (W : World) (k : Nat) (c : Array Value) (t : TypeId) : Prop := W.heap[k]? = some (.cells c t (0, 0))
theorem Blk.lt {W : World} {k : Nat} {c : Array Value} {t : TypeId} (h : Blk W k c t) : k < W.heap.size := heap_lt h
theorem Blk.row {W : World} {k : Nat} {c : Array Value} {t : TypeId} (h : Blk W k c t) : W.rowAt k = some c := by unfold World.rowAt; rw [show W.heap[k]? = _ from h]; rfl
theorem Blk.cell {W : World} {k : Nat} {c : Array Value} {t : TypeId} (h : Blk W k c t) (j : Nat) : W.cell? ⟨k, j, none⟩ = c[j]? := cell_of_row W k j _ _ _ h
theorem Blk.below {W W' : World} {k : Nat} {c : Array Value} {t : TypeId} (h : Blk W k c t) (hb : Below W.heap.size W W') : Blk W' k c t := (hb.block k h.lt).trans h
theorem Blk.new (W : World) (c : Array Value) (t : TypeId) : Blk (W.alloc (.cells c t)) W.heap.size c t := World.alloc_heap_new W (.cells c t)
theorem Blk.alloc {W : World} {k : Nat} {c : Array Value} {t : TypeId} (h : Blk W k c t) (o : Obj) : Blk (W.alloc o) k c t := h.below ((Below.refl _ W).alloc (Nat.le_refl _) _)
theorem Blk.kept {A B : World} {row : Option Nat} {k : Nat} {c : Array Value} {t : TypeId} (h : Blk A k c t) (hg : A.grownBy B row) (hr : ∀ r, row = some r → ∃ o : Obj, A.heap[r]? = some o ∧ o.isCells = false) : Blk B k c t := by
  refine (hg.block k h.lt fun e => ?_).trans h
  obtain ⟨o, ho, hn⟩ := hr k e.symm
  rw [show A.heap[k]? = _ from h] at ho
  injection ho with ho
  subst ho
  cases hn
theorem Blk.put {W : World} {k D : Nat} {c : Array Value} {t : TypeId} {o o' : Obj} (h : Blk W k c t) (hD : W.heap[D]? = some o) (hn : o.isCells = false) : Blk (W.putObj D o') k c t := by
  refine (World.putObj_heap_other fun e => ?_).trans h
  subst e
  rw [show W.heap[k]? = _ from h] at hD
  injection hD with hD
  subst hD
  cases hn
theorem keepsFrom_below {B : Nat} {W W' : World} (hb : Below W.heap.size W W') : KeepsFrom B W W' := KeepsOthers.from ⟨hb.size, fun k o hk _ => (hb.block k (heap_lt hk)).trans hk⟩ B
theorem Blk.frozen {W : World} {k : Nat} {c : Array Value} {t : TypeId} (h : Blk W k c t) (j : Nat) : W.frozen? ⟨k, j, none⟩ = false := by simp [World.frozen?, show W.heap[k]? = _ from h]
theorem Blk.set {W : World} {k : Nat} {c : Array Value} {t : TypeId} (h : Blk W k c t) (j : Nat) (v : Value) : Blk (W.setCell ⟨k, j, none⟩ v) k (c.setIfInBounds j v) t := by
  obtain ⟨hlt, hk⟩ := Array.getElem?_eq_some_iff.1 h
  show (W.heap.modify k _)[k]? = _
  rw [Array.getElem?_eq_getElem (by rw [Array.size_modify]; exact hlt), Array.getElem_modify_self, hk]
  rfl
theorem Blk.set_other {W : World} {k : Nat} {c : Array Value} {t : TypeId} (h : Blk W k c t) (k2 j : Nat) (v : Value) (hne : k ≠ k2) : Blk (W.setCell ⟨k2, j, none⟩ v) k c t := (Below.heap_setCell _ _ _ k hne).trans h
theorem Blk.set2 {W : World} {k : Nat} {x y : Value} {t : TypeId} (h : Blk W k #[x, y] t) (u v : Value) (J : Array Obj) (d : Nat) : Blk (((W.setCell ⟨k, 0, none⟩ u).setCell ⟨k, 1, none⟩ v).plus J d) k #[u, v] t :=
  ((h.set 0 u).set 1 v).below (Junk.below ⟨J, d, rfl⟩)
theorem set2_below {W : World} {n0 k : Nat} (hk : n0 ≤ k) (hs : n0 ≤ W.heap.size) (u v : Value) (J : Array Obj) (d : Nat) : Below n0 W (((W.setCell ⟨k, 0, none⟩ u).setCell ⟨k, 1, none⟩ v).plus J d) := by
  have h1 : Below n0 W ((W.setCell ⟨k, 0, none⟩ u).setCell ⟨k, 1, none⟩ v) := ((Below.refl n0 W).setCell (p := ⟨k, 0, none⟩) hk u).setCell (p := ⟨k, 1, none⟩) hk v
  exact h1.trans ((Junk.below ⟨J, d, rfl⟩).mono (Nat.le_trans hs h1.size))
theorem set2_keeps {W : World} {B : Nat} (k : Nat) (u v : Value) (J : Array Obj) (d : Nat) : KeepsFrom B W (((W.setCell ⟨k, 0, none⟩ u).setCell ⟨k, 1, none⟩ v).plus J d) :=
  (((KeepsOthers.setCell W ⟨k, 0, none⟩ u).from B).trans ((KeepsOthers.setCell _ ⟨k, 1, none⟩ v).from B)).trans (keepsFrom_below (Junk.below ⟨J, d, rfl⟩))
theorem set2_other {W : World} {k2 : Nat} {c : Array Value} {t : TypeId} (h : Blk W k2 c t) (k : Nat) (u v : Value) (J : Array Obj) (d : Nat) (hne : k2 ≠ k) : Blk (((W.setCell ⟨k, 0, none⟩ u).setCell ⟨k, 1, none⟩ v).plus J d) k2 c t :=
  ((h.set_other k 0 u hne).set_other k 1 v hne).below (Junk.below ⟨J, d, rfl⟩)
theorem set2_size {W : World} (k : Nat) (u v : Value) (J : Array Obj) (d : Nat) : W.heap.size ≤ (((W.setCell ⟨k, 0, none⟩ u).setCell ⟨k, 1, none⟩ v).plus J d).heap.size := (set2_below (n0 := 0) (by omega) (by omega) u v J d).size
theorem heap_set2 {W : World} {k D : Nat} {o : Obj} (h : W.heap[D]? = some o) (hn : o.isCells = false) (u v : Value) (J : Array Obj) (d : Nat) : (((W.setCell ⟨k, 0, none⟩ u).setCell ⟨k, 1, none⟩ v).plus J d).heap[D]? = some o := (set2_keeps (B := 0) k u v J d).same D o (by omega) h hn
def Clean {n : Nat} (G : List (Fin n) → Fin n → Bool) (pre : List (Fin n)) : Prop := ∀ a x b, pre = a ++ x :: b → G a x = false
theorem clean_nil {n : Nat} (G : List (Fin n) → Fin n → Bool) : Clean G [] := fun a x b h => by simp at h
theorem clean_snoc {n : Nat} {G : List (Fin n) → Fin n → Bool} {pre : List (Fin n)} (h : Clean G pre) {x : Fin n} (hx : G pre x = false) : Clean G (pre ++ [x]) := by
  intro a y b e
  rcases List.append_eq_append_iff.1 e with ⟨c, e1, e2⟩ | ⟨c, e1, e2⟩
  · cases c with
    | nil =>
      simp at e1 e2
      rw [e1, ← e2.1]; exact hx
    | cons z c =>
      rw [List.cons_append, List.cons.injEq] at e2
      have := congrArg List.length e2.2
      simp at this
  · cases c with
    | nil =>
      simp at e1 e2
      rw [← e1, e2.1]; exact hx
    | cons z c =>
      rw [List.cons_append] at e2
      injection e2 with e3 e4
      subst e3
      exact h a y c e1
def upto (n k : Nat) (hk : k ≤ n) : List (Fin n) := (List.range k).pmap (fun i h => (⟨i, h⟩ : Fin n)) (fun i hi => by rw [List.mem_range] at hi; omega)
theorem upto_is {n : Nat} {xs : List (Fin n)} (h : UptoQ xs) (hl : xs.length ≤ n) : xs = upto n xs.length hl := by
  apply List.ext_getElem
  · simp [upto]
  · intro i h1 h2
    apply Fin.ext
    rw [h i h1]
    simp [upto]
theorem upto_split {n : Nat} {xs : List (Fin n)} (h : UptoQ xs) {j : Nat} (hj : j < xs.length) (hl : xs.length ≤ n) : ∃ b, xs = upto n j (by omega) ++ (⟨j, by omega⟩ : Fin n) :: b := by
  refine ⟨xs.drop (j + 1), ?_⟩
  have e : xs.take j = upto n j (by omega) := by
    have h2 : UptoQ (xs.take j) := fun i hi => by rw [List.getElem_take]; exact h i (by rw [List.length_take] at hi; omega)
    have h3 := upto_is h2 (by rw [List.length_take]; omega)
    rw [h3]; congr 1; rw [List.length_take]; omega
  rw [← e]
  have e2 : (⟨j, by omega⟩ : Fin n) = xs[j] := Fin.ext (h j hj).symm
  rw [e2, List.getElem_cons_drop, List.take_append_drop]
theorem clean_at {n : Nat} {G : List (Fin n) → Fin n → Bool} {xs : List (Fin n)} (h : UptoQ xs) (hl : xs.length ≤ n) (hc : Clean G xs) {F : Nat → Bool} (hF : ∀ j (hj : j < n), G (upto n j (by omega)) ⟨j, hj⟩ = F j) : ∀ j, j < xs.length → F j = false := by
  intro j hj
  obtain ⟨b, e⟩ := upto_split h hj hl
  rw [← hF j (by omega)]
  exact hc _ _ _ e
theorem clean_first {n : Nat} {G : List (Fin n) → Fin n → Bool} {pre : List (Fin n)} {x : Fin n} (h : UptoQ (pre ++ [x])) (hc : Clean G pre) (hx : G pre x = true) {F : Nat → Bool} (hF : ∀ j (hj : j < n), G (upto n j (by omega)) ⟨j, hj⟩ = F j) : firstQ F n = some x.val := by
  have hl : pre.length = x.val := by
    have := h pre.length (by simp)
    simp at this
    omega
  have hp : UptoQ pre := fun j hj => by
    have := h j (by simp; omega)
    rwa [List.getElem_append_left hj] at this
  have hx2 := x.isLt
  have hle : pre.length ≤ n := by omega
  refine first_some x.isLt ?_ ?_
  · rw [← hF x.val x.isLt]
    have e := upto_is hp hle
    have e3 : upto n pre.length hle = upto n x.val (by omega) := by
      congr 1
    rw [e3] at e
    rw [← e]; exact hx
  · intro j hj
    exact clean_at hp hle hc hF j (by omega)
theorem clean_none {n : Nat} {G : List (Fin n) → Fin n → Bool} {xs : List (Fin n)} (h : UptoQ xs) (hl : xs.length = n) (hc : Clean G xs) {F : Nat → Bool} (hF : ∀ j (hj : j < n), G (upto n j (by omega)) ⟨j, hj⟩ = F j) : firstQ F n = none := by
  rw [first_none]
  intro j hj
  exact clean_at h (by omega) hc hF j (by omega)
end

section
set_option linter.unusedVariables false
set_option linter.unusedSimpArgs false
open Go.RowKit Go.Shelf
attribute [local go_sem] Oper.semAt_some
def VaI (w : World) {n : Nat} (G : List (Fin n) → Fin n → Bool) (pre : List (Fin n)) (W : World) : Prop := Clean G pre ∧ Blk W w.heap.size #[.int .i64 0, .int .i64 0] 33 ∧ Below w.heap.size w W ∧ w.heap.size + 2 ≤ W.heap.size
def VaX (w : World) {n : Nat} (G : List (Fin n) → Fin n → Bool) (e : Int) (c : Code) (pre : List (Fin n)) (W : World) : Prop := c = .ret ∧ (∃ a x, pre = a ++ [x] ∧ Clean G a ∧ G a x = true ∧ Blk W w.heap.size #[.int .i64 e, .int .i64 (x.val : Int)] 33) ∧ Below w.heap.size w W ∧ w.heap.size + 2 ≤ W.heap.size
theorem below_grown {n0 B : Nat} {w X Y : World} {row : Option Nat} (hb : Below n0 w X) (hs : n0 ≤ X.heap.size) (hB : n0 ≤ B) (hg : X.grownBy Y row) (hr : ∀ r, row = some r → B ≤ r ∧ ∃ o : Obj, X.heap[r]? = some o ∧ o.isCells = false) : Below n0 w Y :=
  hb.grown hg hs (fun k hk => Nat.le_trans hB (hr k hk).1)
theorem vaI_own (w : World) {n : Nat} (G : List (Fin n) → Fin n → Bool) (B : Nat) (hB : w.heap.size ≤ B) : OwnFrom B (VaI w G) := by
  rintro s X Y row ⟨h1, h2, h3, h4⟩ hg hr
  exact ⟨h1, h2.kept hg (fun r e => (hr r e).2), below_grown h3 (by omega) hB hg hr, Nat.le_trans h4 hg.size⟩
theorem vaX_own (w : World) {n : Nat} (G : List (Fin n) → Fin n → Bool) (e : Int) (B : Nat) (hB : w.heap.size ≤ B) (c : Code) : OwnFrom B (VaX w G e c) := by
  rintro s X Y row ⟨h1, ⟨a, x, h2, h3, h5, h6⟩, h7, h8⟩ hg hr
  exact ⟨h1, ⟨a, x, h2, h3, h5, h6.kept hg (fun r e => (hr r e).2)⟩, below_grown h7 (by omega) hB hg hr, Nat.le_trans h8 hg.size⟩
set_option maxRecDepth 100000 in
set_option maxHeartbeats 4000000 in
theorem n_rgValid (w : World) (a : Option Addr) (n ca p q r : Nat) (K : List Pt) (hP : PReads w a n K) (hs : n ≤ 4611686018427387903) (s : Int × Nat) (HN : Next w p q r s) :
    Calls Tryz.prog 160 #[.slice a n ca, clo p q r] w fun e w' => e = .returned (fltV (orFault (firstQ (F0 K) n) 2 s)) ∧ Junk w w' := by
  obtain ⟨R, hR⟩ : ∃ R, orFault (firstQ (F0 K) n) 2 s = R := ⟨_, rfl⟩
  rw [hR]
  have HR := Lib.hid hR
  have HN := Lib.hid HN
  clear hR
  refine (callsIn_wide (n := 4)).1 ?_
  refine callsIn_of_wp_marks Tryz.func160 rfl trivial ?_ rfl
  unfold clo
  simp only [Tryz.ntmps160, List.size_toArray, List.length_cons, List.length_nil, Nat.reduceAdd, Nat.reduceSub, Array.replicate_succ, Array.replicate_zero, List.push_toArray, List.append_toArray, List.nil_append, List.cons_append]
  gi_wp2_with (refine ⟨trivial, ?_⟩; gi_at_call 191; refine ((callsIn_wide.2 (n_rgEdges _ _ _ _))).mono ?_; rintro e w' ⟨rfl, rfl⟩)
  obtain ⟨W0, hW0⟩ : ∃ W0, (w.alloc (.cells #[.int .i64 0, .int .i64 0] 33)).alloc (.cells #[.slice a n ca] 23) = W0 := ⟨_, rfl⟩
  have hs0 : W0.heap.size = w.heap.size + 2 := by rw [← hW0]; simp
  have hb0 : Below w.heap.size w W0 := by rw [← hW0]; exact ((Below.refl _ w).alloc (Nat.le_refl _) _).alloc (by simp) _
  have bF : Blk W0 w.heap.size #[.int .i64 0, .int .i64 0] 33 := by rw [← hW0]; exact (Blk.new w _ _).alloc _
  have bE : Blk W0 (w.heap.size + 1) #[.slice a n ca] 23 := by
    rw [← hW0]
    have := Blk.new (w.alloc (.cells #[.int .i64 0, .int .i64 0] 33)) #[.slice a n ca] 23
    rwa [World.size_alloc] at this
  rw [hW0]
  clear hW0
  refine wpIn_rangeFunc_ownH rfl (by omega) (gf := 213) (lb := #[.pointer (some ⟨w.heap.size + 1, 0, none⟩)]) rfl trivial (enters_of Tryz.func213 (by kernel_rfl) rfl)
    (rg_stops w a n ca K hP hs 3 (w.heap.size + 1) (by omega) W0 hb0 bE) keepsE_t (keepsE_b (by omega)) (Below.refl _ _) (fun _ => rfl)
    (VaI w (fun _ x => F0 K x.val)) (VaX w (fun _ x => F0 K x.val) 2) (vaI_own w _ _ (by omega)) (vaX_own w _ _ _ (by omega))
    ⟨clean_nil _, bF, hb0, by omega⟩
    (fun x a' W => ∃ Bx, w.heap.size + 2 ≤ Bx ∧ Blk W Bx #[.int .i64 (K.getD x.val (0, 0)).1, .int .i64 (K.getD x.val (0, 0)).2, .int .i64 (nxtC K x.val).1, .int .i64 (nxtC K x.val).2] 232 ∧
      a' = { tmps := #[.slice a n ca, .func (.func 127) #[] #[.pointer (some ⟨p, 0, none⟩), .pointer (some ⟨q, 0, none⟩), .pointer (some ⟨r, 0, none⟩)], undef, undef, .pointer (some ⟨w.heap.size, 0, none⟩), .int .i64 (x.val : Int), .pointer (some ⟨Bx, 0, none⟩),
        .slice a n ca, .func (.func 213) #[] #[.pointer (some ⟨w.heap.size + 1, 0, none⟩)], .int .i64 (x.val : Int), edV (K.getD x.val (0, 0)) (nxtC K x.val), undef, undef, undef, undef, undef, undef, undef, undef], defers := [] })
    (fun x a' _ X Y row hs hg hr => by obtain ⟨Bx, e1, e2, e3⟩ := hs; exact ⟨Bx, e1, e2.kept hg (fun r e => (hr r e).2), e3⟩)
    ?assign ?body ?done ?stop
  case assign =>
    rintro l pre x W K1 ⟨h1, h2, h3, h4⟩ hK
    unfold edV at *
    gi_wp2
    exact hK _ _ (keepsFrom_below ((Below.refl _ W).alloc (Nat.le_refl _) _)) (keepsE_below (by omega) ((Below.refl _ W).alloc (Nat.le_refl _) _)) ⟨h1, h2.alloc _, h3.trans (((Below.refl _ W).alloc (Nat.le_refl _) _).mono (by omega)), by simp; omega⟩ ⟨W.heap.size, h4, Blk.new W _ _, rfl⟩
  case body =>
    rintro l pre x a' W hl ⟨rr, hr⟩ ⟨h1, h2, h3, h4⟩ ⟨Bx, hBx, bX, rfl⟩ hlt
    obtain ⟨g, hg⟩ : ∃ g, F0 K x.val = g := ⟨_, rfl⟩
    have HG := Lib.hid hg
    unfold F0 okC at hg
    unfold edV
    generalize K.getD x.val (0, 0) = e1 at *
    generalize nxtC K x.val = e2 at *
    obtain ⟨u, v⟩ := e1
    obtain ⟨y, z⟩ := e2
    simp only at bX hg
    have HE := Lib.hid (fun w' => n_rgEdFrom u v y z w')
    have HV := Lib.hid (fun w' => n_ptValid u v w')
    unfold pt at *
    rw [show okP u v = !g by rw [← hg, Bool.not_not]] at HV
    have c0 : W.cell? ⟨Bx, 0, none⟩ = some (.int .i64 u) := bX.cell 0
    have c1 : W.cell? ⟨Bx, 1, none⟩ = some (.int .i64 v) := bX.cell 1
    have c2 : W.cell? ⟨Bx, 2, none⟩ = some (.int .i64 y) := bX.cell 2
    have c3 : W.cell? ⟨Bx, 3, none⟩ = some (.int .i64 z) := bX.cell 3
    have f0 : W.cell? ⟨w.heap.size, 0, none⟩ = some (.int .i64 0) := h2.cell 0
    have f1 : W.cell? ⟨w.heap.size, 1, none⟩ = some (.int .i64 0) := h2.cell 1
    have hBl := bX.lt
    have hfl := h2.lt
    have g0 := h2.frozen 0
    have g1 := h2.frozen 1
    have HI := Lib.hid (show VaI w (fun _ x => F0 K x.val) pre W from ⟨h1, h2, h3, h4⟩)
    have hrow := h2.row
    have h01 : 1 ≤ 4 - 1 - 1 := by omega
    clear h1 h2 h3 bX hg hr
    cases g with
    | false =>
      gi_wp2_with (first | (refine ⟨trivial, ?_⟩; gi_at_call 192; refine (CallsIn.inRound l (callsIn_wide.2 (HE.out _))).mono ?_; rintro e w1 ⟨rfl, J1, d1, rfl⟩) | (refine ⟨trivial, ?_⟩; gi_at_call 100; refine (CallsIn.inRound l (callsIn_wide.2 (HV.out _))).mono ?_; rintro e w1 ⟨rfl, J2, d2, rfl⟩))
      obtain ⟨h1, h2, h3, h4⟩ := HI.out
      have hb : Below W.heap.size W (W.plus (J1 ++ J2) d2) := Junk.below ⟨_, _, rfl⟩
      exact ⟨keepsFrom_below hb, keepsE_below (by omega) hb, clean_snoc h1 HG.out, h2.below hb, h3.trans (hb.mono (by omega)), Nat.le_trans h4 hb.size⟩
    | true =>
      gi_wp2_with (first | (refine ⟨trivial, ?_⟩; gi_at_call 192; refine (CallsIn.inRound l (callsIn_wide.2 (HE.out _))).mono ?_; rintro e w1 ⟨rfl, J1, d1, rfl⟩) | (refine ⟨trivial, ?_⟩; gi_at_call 100; refine (CallsIn.inRound l (callsIn_wide.2 (HV.out _))).mono ?_; rintro e w1 ⟨rfl, J2, d2, rfl⟩))
      obtain ⟨h1, h2, h3, h4⟩ := HI.out
      exact ⟨set2_keeps _ _ _ _ _, rfl, ⟨pre, x, rfl, h1, HG.out, h2.set2 _ _ _ _⟩, h3.trans (set2_below (Nat.le_refl _) (by omega) _ _ _ _), Nat.le_trans h4 (set2_size _ _ _ _ _)⟩
  case done =>
    rintro D ys W hD ⟨hup, hyl⟩ ⟨h1, h2, h3, h4⟩ hK
    have HE := Lib.hid (show R = s by rw [← HR.out, clean_none hup hyl h1 (F := F0 K) (fun _ _ => rfl)]; rfl)
    have HNW := Lib.hid (fun W' (hb : Below W.heap.size W W') => HN.out W' (h3.trans (hb.mono (by omega))))
    obtain ⟨s1, s2⟩ := s
    unfold fltV at HNW
    have hrow := h2.row
    have f0 : W.cell? ⟨w.heap.size, 0, none⟩ = some (.int .i64 0) := h2.cell 0
    have f1 : W.cell? ⟨w.heap.size, 1, none⟩ = some (.int .i64 0) := h2.cell 1
    have HI := Lib.hid (And.intro h2 (And.intro h3 (And.intro h4 hK)))
    have hfl := h2.lt
    have g0 := h2.frozen 0
    have g1 := h2.frozen 1
    clear h1 h2 h3 hK
    gi_wp2_with (refine ⟨trivial, ?_⟩; gi_at_call 127; refine ((callsIn_wide.2 (HNW.out _ (by (repeat' first | with_reducible (first | apply Below.refl | assumption | apply bw_a | apply bw_d | apply bw_n | apply bw_p | apply bw_c | apply bw_r) | go_size))))).mono ?_; rintro e w' ⟨rfl, J3, d3, rfl⟩)
    obtain ⟨h2, h3, h4, hK⟩ := HI.out
    refine ⟨by simp, .inl ⟨_, _, rfl, run_takeDeferred (heap_set2 hK rfl _ _ _ _), ?_⟩⟩
    refine ⟨_, results_flt rfl _ _ w.heap.size #[.int .i64 s1, .int .i64 (s2 : Int)] rfl (((h2.set2 _ _ _ _).put (heap_set2 hK rfl _ _ _ _) rfl).row) rfl, by rw [HE.out]; rfl, junk_of_below ?_⟩
    exact (h3.trans (set2_below (Nat.le_refl _) (by omega) _ _ _ _)).trans (belowK_b (w := w) (Nat.le_refl _) _ D _ _ (by omega) (heap_set2 hK rfl _ _ _ _) rfl rfl)
  case stop =>
    rintro D c pre W hD hup ⟨rfl, ⟨a1, x, rfl, hc, hx, h2⟩, h3, h4⟩ hK
    have HE := Lib.hid (show R = (2, x.val) by rw [← HR.out, clean_first hup hc hx (F := F0 K) (fun _ _ => rfl)]; rfl)
    gi_wp2
    refine ⟨by simp, .inl ⟨_, _, rfl, run_takeDeferred hK, ?_⟩⟩
    refine ⟨_, results_flt rfl _ _ w.heap.size #[.int .i64 2, .int .i64 (x.val : Int)] rfl ((h2.put hK rfl).row) rfl, by rw [HE.out]; rfl, junk_of_below ?_⟩
    exact h3.trans (belowK_b (w := w) (Nat.le_refl _) _ D _ _ (by omega) hK rfl rfl)
end

section
set_option linter.unusedVariables false
set_option linter.unusedSimpArgs false
open Go.RowKit Go.Shelf
attribute [local go_sem] Oper.semAt_some
theorem preads_take {w : World} {a : Option Addr} {n : Nat} {K : List (Int × Int)} (h : PReads w a n K) {i : Nat} (hi : i ≤ n) : PReads w a i (K.take i) := by
  obtain ⟨h1, h2⟩ := h
  refine ⟨by rw [List.length_take]; omega, ?_⟩
  rcases h2 with h2 | ⟨b, o, he, hc⟩
  · exact .inl (by omega)
  · refine .inr ⟨b, o, he, fun k hk => ?_⟩
    have e : (K.take i).getD k (0, 0) = K.getD k (0, 0) := by
      rw [List.getD_eq_getElem?_getD, List.getD_eq_getElem?_getD, List.getElem?_take_of_lt hk]
    rw [e]
    exact hc k (by omega)
def TwI (w : World) (s : Value) {n : Nat} (G : List (Fin n) → Fin n → Bool) (pre : List (Fin n)) (W : World) : Prop := Clean G pre ∧ Blk W (w.heap.size + 1) #[.int .i64 0, .int .i64 0] 33 ∧ Blk W w.heap.size #[s] 23 ∧ Below w.heap.size w W ∧ w.heap.size + 3 ≤ W.heap.size
def TwX (w : World) {n : Nat} (G : List (Fin n) → Fin n → Bool) (e : Int) (c : Code) (pre : List (Fin n)) (W : World) : Prop := c = .ret ∧ (∃ a x, pre = a ++ [x] ∧ Clean G a ∧ G a x = true ∧ Blk W (w.heap.size + 1) #[.int .i64 e, .int .i64 (x.val : Int)] 33) ∧ Below w.heap.size w W ∧ w.heap.size + 3 ≤ W.heap.size
theorem twI_own (w : World) (s : Value) {n : Nat} (G : List (Fin n) → Fin n → Bool) (B : Nat) (hB : w.heap.size ≤ B) : OwnFrom B (TwI w s G) := by
  rintro s X Y row ⟨h1, h2, h5, h3, h4⟩ hg hr
  exact ⟨h1, h2.kept hg (fun r e => (hr r e).2), h5.kept hg (fun r e => (hr r e).2), below_grown h3 (by omega) hB hg hr, Nat.le_trans h4 hg.size⟩
theorem twX_own (w : World) {n : Nat} (G : List (Fin n) → Fin n → Bool) (e : Int) (B : Nat) (hB : w.heap.size ≤ B) (c : Code) : OwnFrom B (TwX w G e c) := by
  rintro s X Y row ⟨h1, ⟨a, x, h2, h3, h5, h6⟩, h7, h8⟩ hg hr
  exact ⟨h1, ⟨a, x, h2, h3, h5, h6.kept hg (fun r e => (hr r e).2)⟩, below_grown h7 (by omega) hB hg hr, Nat.le_trans h8 hg.size⟩
set_option maxRecDepth 100000 in
set_option maxHeartbeats 4000000 in
theorem n_rgTwice (w : World) (a : Option Addr) (n ca p q r : Nat) (K : List Pt) (hP : PReads w a n K) (hs : n ≤ 4611686018427387903) (hca : n ≤ ca) (s : Int × Nat) (HN : Next w p q r s) :
    Calls Tryz.prog 161 #[.slice a n ca, clo p q r] w fun e w' => e = .returned (fltV (orFault (firstQ (F1 K) n) 191 s)) ∧ Junk w w' := by
  obtain ⟨R, hR⟩ : ∃ R, orFault (firstQ (F1 K) n) 191 s = R := ⟨_, rfl⟩
  rw [hR]
  have HR := Lib.hid hR
  have HN := Lib.hid HN
  clear hR
  refine (callsIn_wide (n := 4)).1 ?_
  refine callsIn_of_wp_marks Tryz.func161 rfl trivial ?_ rfl
  unfold clo
  simp only [Tryz.ntmps161, List.size_toArray, List.length_cons, List.length_nil, Nat.reduceAdd, Nat.reduceSub, Array.replicate_succ, Array.replicate_zero, List.push_toArray, List.append_toArray, List.nil_append, List.cons_append]
  gi_wp2_with (refine ⟨trivial, ?_⟩; gi_at_call 191; refine ((callsIn_wide.2 (n_rgEdges _ _ _ _))).mono ?_; rintro e w' ⟨rfl, rfl⟩)
  obtain ⟨W0, hW0⟩ : ∃ W0, ((w.alloc (.cells #[.slice a n ca] 23)).alloc (.cells #[.int .i64 0, .int .i64 0] 33)).alloc (.cells #[.slice a n ca] 23) = W0 := ⟨_, rfl⟩
  have hs0 : W0.heap.size = w.heap.size + 3 := by rw [← hW0]; simp
  have hb0 : Below w.heap.size w W0 := by rw [← hW0]; exact (((Below.refl _ w).alloc (Nat.le_refl _) _).alloc (by simp) _).alloc (by simp; omega) _
  have bS : Blk W0 w.heap.size #[.slice a n ca] 23 := by rw [← hW0]; exact ((Blk.new w _ _).alloc _).alloc _
  have bF : Blk W0 (w.heap.size + 1) #[.int .i64 0, .int .i64 0] 33 := by
    rw [← hW0]
    have := (Blk.new (w.alloc (.cells #[.slice a n ca] 23)) #[.int .i64 0, .int .i64 0] 33).alloc (.cells #[.slice a n ca] 23)
    rwa [World.size_alloc] at this
  have bE : Blk W0 (w.heap.size + 2) #[.slice a n ca] 23 := by
    rw [← hW0]
    have := Blk.new ((w.alloc (.cells #[.slice a n ca] 23)).alloc (.cells #[.int .i64 0, .int .i64 0] 33)) #[.slice a n ca] 23
    rwa [World.size_alloc, World.size_alloc] at this
  rw [hW0]
  clear hW0
  refine wpIn_rangeFunc_ownH rfl (by omega) (gf := 213) (lb := #[.pointer (some ⟨w.heap.size + 1 + 1, 0, none⟩)]) rfl trivial (enters_of Tryz.func213 (by kernel_rfl) rfl)
    (rg_stops w a n ca K hP hs 3 (w.heap.size + 2) (by omega) W0 hb0 bE) keepsE_t (keepsE_b (by omega)) (Below.refl _ _) (fun _ => rfl)
    (TwI w (.slice a n ca) (fun _ x => F1 K x.val)) (TwX w (fun _ x => F1 K x.val) 191) (twI_own w _ _ _ (by omega)) (twX_own w _ _ _ (by omega))
    ⟨clean_nil _, bF, bS, hb0, by omega⟩
    (fun x a' W => ∃ Bx, w.heap.size + 3 ≤ Bx ∧ Blk W Bx #[.int .i64 (K.getD x.val (0, 0)).1, .int .i64 (K.getD x.val (0, 0)).2, .int .i64 (nxtC K x.val).1, .int .i64 (nxtC K x.val).2] 232 ∧
      a' = { tmps := #[.slice a n ca, .func (.func 127) #[] #[.pointer (some ⟨p, 0, none⟩), .pointer (some ⟨q, 0, none⟩), .pointer (some ⟨r, 0, none⟩)], .pointer (some ⟨w.heap.size, 0, none⟩), undef, .pointer (some ⟨w.heap.size + 1, 0, none⟩), .int .i64 (x.val : Int), .pointer (some ⟨Bx, 0, none⟩),
        .slice a n ca, .func (.func 213) #[] #[.pointer (some ⟨w.heap.size + 1 + 1, 0, none⟩)], .int .i64 (x.val : Int), edV (K.getD x.val (0, 0)) (nxtC K x.val), undef, undef, undef, undef, undef, undef, undef, undef, undef, undef], defers := [] })
    (fun x a' _ X Y row hs hg hr => by obtain ⟨Bx, e1, e2, e3⟩ := hs; exact ⟨Bx, e1, e2.kept hg (fun r e => (hr r e).2), e3⟩)
    ?assign ?body ?done ?stop
  case assign =>
    rintro l pre x W K1 ⟨h1, h2, h5, h3, h4⟩ hK
    unfold edV at *
    gi_wp2
    exact hK _ _ (keepsFrom_below ((Below.refl _ W).alloc (Nat.le_refl _) _)) (keepsE_below (by omega) ((Below.refl _ W).alloc (Nat.le_refl _) _)) ⟨h1, h2.alloc _, h5.alloc _, h3.trans (((Below.refl _ W).alloc (Nat.le_refl _) _).mono (by omega)), by simp; omega⟩ ⟨W.heap.size, h4, Blk.new W _ _, rfl⟩
  case body =>
    rintro l pre x a' W hl ⟨rr, hr⟩ ⟨h1, h2, h5, h3, h4⟩ ⟨Bx, hBx, bX, rfl⟩ hlt
    obtain ⟨g, hg⟩ : ∃ g, F1 K x.val = g := ⟨_, rfl⟩
    have HG := Lib.hid hg
    have hPW := hP.below h3
    have hxn := x.isLt
    rcases hP.2 with h0 | ⟨b, o, rfl, hc⟩
    · omega
    have hbW : b < w.heap.size := World.block_lt_of_cell? _ _ (hc x.val hxn).1
    unfold F1 twiceAt at hg
    unfold edV
    obtain ⟨i, hi⟩ : ∃ i, x.val = i := ⟨_, rfl⟩
    rw [hi] at hg bX hxn ⊢
    have HX := Lib.hid hi
    generalize K.getD i (0, 0) = e1 at *
    generalize nxtC K i = e2 at *
    obtain ⟨u, v⟩ := e1
    obtain ⟨y, z⟩ := e2
    simp only at bX hg
    have HE := Lib.hid (fun w' => n_rgEdFrom u v y z w')
    have HC := Lib.hid (fun (J : Array Obj) (d : Nat) => n_slContains (W.plus J d) (some ⟨b, o, none⟩) i ca (K.take i) u v ((preads_take hPW (by omega)).below (Junk.below ⟨J, d, rfl⟩)) (by omega))
    rw [hg] at HC
    unfold pt at *
    have c0 : W.cell? ⟨Bx, 0, none⟩ = some (.int .i64 u) := bX.cell 0
    have c1 : W.cell? ⟨Bx, 1, none⟩ = some (.int .i64 v) := bX.cell 1
    have c2 : W.cell? ⟨Bx, 2, none⟩ = some (.int .i64 y) := bX.cell 2
    have c3 : W.cell? ⟨Bx, 3, none⟩ = some (.int .i64 z) := bX.cell 3
    have c4 : W.cell? ⟨w.heap.size, 0, none⟩ = some (.slice (some ⟨b, o, none⟩) n ca) := h5.cell 0
    have f0 : W.cell? ⟨w.heap.size + 1, 0, none⟩ = some (.int .i64 0) := h2.cell 0
    have f1 : W.cell? ⟨w.heap.size + 1, 1, none⟩ = some (.int .i64 0) := h2.cell 1
    have hBl := bX.lt
    have hfl := h2.lt
    have hfs := h5.lt
    have g0 := h2.frozen 0
    have g1 := h2.frozen 1
    have i1 : (i : Int) ≤ (ca : Int) := by omega
    have i2 : ¬ (i : Int) < 0 := by omega
    have HI := Lib.hid (show TwI w (.slice (some ⟨b, o, none⟩) n ca) (fun _ x => F1 K x.val) pre W from ⟨h1, h2, h5, h3, h4⟩)
    have hrow := h2.row
    have h01 : 1 ≤ 4 - 1 - 1 := by omega
    have hmx : Tryz.prog.follows .mixedOrders = true := by kernel_rfl
    clear h1 h2 h3 h5 bX hg hr hc hPW hi
    cases g with
    | false =>
      gi_wp2_with fail
      refine region_quiet_in (C := Cls W) (wd_round l) (by kernel_rfl) hmx (by kernel_rfl) (cls_drawn _) ?_
      repeat (first | (refine qw_skip (by rfl) ?_; simp only [Act.put, List.setIfInBounds_toArray, List.set_cons_succ, List.set_cons_zero]) | (refine qw_want (by rfl) (fun K hK => ?_); go_simp; first | (refine hK _ ?_; clear hK K) | (apply Exists.intro; refine ⟨?_, hK _ ?_⟩; (rintro w3_ ⟨J3_, d3_, rfl⟩; first | (with_reducible exact rfl) | (go_simp; with_reducible exact rfl) | (go_simp; (first | (with_reducible refine (HE.out _).mono ?_) | (with_reducible refine (HC.out _ _).mono ?_)); rintro e_ w_ ⟨rfl, J4_, d4_, rfl⟩; exact ⟨rfl, J3_ ++ J4_, d4_, by simp only [plus_plus, Array.append_assoc]⟩)); clear hK K)))
      refine qw_nil ?_
      rintro w3 ⟨J2, d2, rfl⟩
      gi_wp2_with fail
      obtain ⟨h1, h2, h5, h3, h4⟩ := HI.out
      have hb : Below W.heap.size W (W.plus J2 d2) := Junk.below ⟨_, _, rfl⟩
      exact ⟨keepsFrom_below hb, keepsE_below (by omega) hb, clean_snoc h1 HG.out, h2.below hb, h5.below hb, h3.trans (hb.mono (by omega)), Nat.le_trans h4 hb.size⟩
    | true =>
      gi_wp2_with fail
      refine region_quiet_in (C := Cls W) (wd_round l) (by kernel_rfl) hmx (by kernel_rfl) (cls_drawn _) ?_
      repeat (first | (refine qw_skip (by rfl) ?_; simp only [Act.put, List.setIfInBounds_toArray, List.set_cons_succ, List.set_cons_zero]) | (refine qw_want (by rfl) (fun K hK => ?_); go_simp; first | (refine hK _ ?_; clear hK K) | (apply Exists.intro; refine ⟨?_, hK _ ?_⟩; (rintro w3_ ⟨J3_, d3_, rfl⟩; first | (with_reducible exact rfl) | (go_simp; with_reducible exact rfl) | (go_simp; (first | (with_reducible refine (HE.out _).mono ?_) | (with_reducible refine (HC.out _ _).mono ?_)); rintro e_ w_ ⟨rfl, J4_, d4_, rfl⟩; exact ⟨rfl, J3_ ++ J4_, d4_, by simp only [plus_plus, Array.append_assoc]⟩)); clear hK K)))
      refine qw_nil ?_
      rintro w3 ⟨J2, d2, rfl⟩
      gi_wp2_with fail
      obtain ⟨h1, h2, h5, h3, h4⟩ := HI.out
      exact ⟨set2_keeps _ _ _ _ _, rfl, ⟨pre, x, rfl, h1, HG.out, by rw [HX.out]; exact h2.set2 _ _ _ _⟩, h3.trans (set2_below (by omega) (by omega) _ _ _ _), Nat.le_trans h4 (set2_size _ _ _ _ _)⟩
  case done =>
    rintro D ys W hD ⟨hup, hyl⟩ ⟨h1, h2, h5, h3, h4⟩ hK
    have HE := Lib.hid (show R = s by rw [← HR.out, clean_none hup hyl h1 (F := F1 K) (fun _ _ => rfl)]; rfl)
    have HNW := Lib.hid (fun W' (hb : Below W.heap.size W W') => HN.out W' (h3.trans (hb.mono (by omega))))
    obtain ⟨s1, s2⟩ := s
    unfold fltV at HNW
    have hrow := h2.row
    have f0 : W.cell? ⟨w.heap.size + 1, 0, none⟩ = some (.int .i64 0) := h2.cell 0
    have f1 : W.cell? ⟨w.heap.size + 1, 1, none⟩ = some (.int .i64 0) := h2.cell 1
    have HI := Lib.hid (And.intro h2 (And.intro h3 (And.intro h4 hK)))
    have hfl := h2.lt
    have g0 := h2.frozen 0
    have g1 := h2.frozen 1
    clear h1 h2 h3 hK
    gi_wp2_with (refine ⟨trivial, ?_⟩; gi_at_call 127; refine ((callsIn_wide.2 (HNW.out _ (by (repeat' first | with_reducible (first | apply Below.refl | assumption | apply bw_a | apply bw_d | apply bw_n | apply bw_p | apply bw_c | apply bw_r) | go_size))))).mono ?_; rintro e w' ⟨rfl, J3, d3, rfl⟩)
    obtain ⟨h2, h3, h4, hK⟩ := HI.out
    refine ⟨by simp, .inl ⟨_, _, rfl, run_takeDeferred (heap_set2 hK rfl _ _ _ _), ?_⟩⟩
    refine ⟨_, results_flt rfl _ _ (w.heap.size + 1) #[.int .i64 s1, .int .i64 (s2 : Int)] rfl (((h2.set2 _ _ _ _).put (heap_set2 hK rfl _ _ _ _) rfl).row) rfl, by rw [HE.out]; rfl, junk_of_below ?_⟩
    exact (h3.trans (set2_below (by omega) (by omega) _ _ _ _)).trans (belowK_b (w := w) (Nat.le_refl _) _ D _ _ (by omega) (heap_set2 hK rfl _ _ _ _) rfl rfl)
  case stop =>
    rintro D c pre W hD hup ⟨rfl, ⟨a1, x, rfl, hc, hx, h2⟩, h3, h4⟩ hK
    have HE := Lib.hid (show R = (191, x.val) by rw [← HR.out, clean_first hup hc hx (F := F1 K) (fun _ _ => rfl)]; rfl)
    gi_wp2
    refine ⟨by simp, .inl ⟨_, _, rfl, run_takeDeferred hK, ?_⟩⟩
    refine ⟨_, results_flt rfl _ _ (w.heap.size + 1) #[.int .i64 191, .int .i64 (x.val : Int)] rfl ((h2.put hK rfl).row) rfl, by rw [HE.out]; rfl, junk_of_below ?_⟩
    exact h3.trans (belowK_b (w := w) (Nat.le_refl _) _ D _ _ (by omega) hK rfl rfl)
end

section
set_option linter.unusedVariables false
set_option linter.unusedSimpArgs false
open Go.RowKit Go.Shelf
attribute [local go_sem] Oper.semAt_some
def lastP {n : Nat} (K : List (Int × Int)) (pre : List (Fin n)) : Int × Int := match pre.getLast? with
  | none => K.getD (n - 1) (0, 0)
  | some x => K.getD x.val (0, 0)
theorem lastP_nil {n : Nat} (K : List (Int × Int)) : lastP K ([] : List (Fin n)) = K.getD (n - 1) (0, 0) := rfl
theorem lastP_snoc {n : Nat} (K : List (Int × Int)) (pre : List (Fin n)) (x : Fin n) : lastP K (pre ++ [x]) = K.getD x.val (0, 0) := by unfold lastP; simp
theorem upto_succ {n j : Nat} (h : j + 1 ≤ n) : upto n (j + 1) h = upto n j (by omega) ++ [⟨j, h⟩] := by
  unfold upto
  apply List.ext_getElem
  · simp
  · intro i h1 h2
    apply Fin.ext
    by_cases hi : i < j
    · rw [List.getElem_append_left (by simpa using hi)]; simp
    · have : i = j := by simp at h1; omega
      subst this
      simp
theorem nxt_cyc {K : List (Int × Int)} {j : Nat} (h : 0 < K.length) : nxtC K j = cyc K ((j : Int) + 1) := by
  unfold nxtC
  rw [← cyc_nat (Nat.mod_lt _ h)]
  refine cyc_mod ?_
  push_cast
  rw [Int.emod_emod]
theorem last_cyc {n : Nat} {K : List (Int × Int)} (hl : K.length = n) {j : Nat} (hj : j < n) : lastP K (upto n j (by omega)) = cyc K ((j : Int) - 1) := by
  cases j with
  | zero =>
    show K.getD (n - 1) (0, 0) = _
    rw [← cyc_nat (K := K) (k := n - 1) (by omega)]
    refine cyc_mod ?_
    rw [hl, show ((n - 1 : Nat) : Int) = ((0 : Nat) : Int) - 1 + (n : Int) by omega, Int.add_emod_right]
  | succ j =>
    rw [upto_succ (by omega), lastP_snoc]
    simp only
    rw [← cyc_nat (K := K) (k := j) (by omega)]
    congr 1; omega
def GB {n : Nat} (K : List (Int × Int)) (a : List (Fin n)) (x : Fin n) : Bool := backC (lastP K a) (K.getD x.val (0, 0)) (nxtC K x.val)
theorem gb_is {n : Nat} {K : List (Int × Int)} (hl : K.length = n) (j : Nat) (hj : j < n) : GB K (upto n j (by omega)) ⟨j, hj⟩ = F2 K j := by
  unfold GB F2 backAt
  rw [last_cyc hl hj, nxt_cyc (by omega)]
def BaI (w : World) (K : List (Int × Int)) {n : Nat} (G : List (Fin n) → Fin n → Bool) (pre : List (Fin n)) (W : World) : Prop := Clean G pre ∧ Blk W w.heap.size #[.int .i64 0, .int .i64 0] 33 ∧ Blk W (w.heap.size + 1) #[.int .i64 (lastP K pre).1, .int .i64 (lastP K pre).2] 42 ∧ Below w.heap.size w W ∧ w.heap.size + 3 ≤ W.heap.size
def BaX (w : World) {n : Nat} (G : List (Fin n) → Fin n → Bool) (e : Int) (c : Code) (pre : List (Fin n)) (W : World) : Prop := c = .ret ∧ (∃ a x, pre = a ++ [x] ∧ Clean G a ∧ G a x = true ∧ Blk W w.heap.size #[.int .i64 e, .int .i64 (x.val : Int)] 33) ∧ Below w.heap.size w W ∧ w.heap.size + 3 ≤ W.heap.size
theorem baI_own (w : World) (K : List (Int × Int)) {n : Nat} (G : List (Fin n) → Fin n → Bool) (B : Nat) (hB : w.heap.size ≤ B) : OwnFrom B (BaI w K G) := by
  rintro s X Y row ⟨h1, h2, h5, h3, h4⟩ hg hr
  exact ⟨h1, h2.kept hg (fun r e => (hr r e).2), h5.kept hg (fun r e => (hr r e).2), below_grown h3 (by omega) hB hg hr, Nat.le_trans h4 hg.size⟩
theorem baX_own (w : World) {n : Nat} (G : List (Fin n) → Fin n → Bool) (e : Int) (B : Nat) (hB : w.heap.size ≤ B) (c : Code) : OwnFrom B (BaX w G e c) := by
  rintro s X Y row ⟨h1, ⟨a, x, h2, h3, h5, h6⟩, h7, h8⟩ hg hr
  exact ⟨h1, ⟨a, x, h2, h3, h5, h6.kept hg (fun r e => (hr r e).2)⟩, below_grown h7 (by omega) hB hg hr, Nat.le_trans h8 hg.size⟩
theorem set2_kp {W : World} {n0 k Bn : Nat} (hk : n0 ≤ k) (hs : n0 ≤ W.heap.size) (hne : Bn ≠ k) (u v : Value) (J : Array Obj) (d : Nat) : KeepsE n0 Bn W (((W.setCell ⟨k, 0, none⟩ u).setCell ⟨k, 1, none⟩ v).plus J d) := by
  refine ⟨set2_below hk hs u v J d, fun c t f h => ?_⟩
  have h1 := (Below.heap_setCell W ⟨k, 0, none⟩ u Bn hne).trans h
  have h2 := (Below.heap_setCell (W.setCell ⟨k, 0, none⟩ u) ⟨k, 1, none⟩ v Bn hne).trans h1
  exact ((Junk.below (w := (W.setCell ⟨k, 0, none⟩ u).setCell ⟨k, 1, none⟩ v) ⟨J, d, rfl⟩).block Bn (heap_lt h2)).trans h2
set_option maxRecDepth 100000 in
set_option maxHeartbeats 4000000 in
theorem n_rgBack (w : World) (a : Option Addr) (n ca p q r : Nat) (K : List Pt) (hP : PReads w a n K) (hs : n ≤ 4611686018427387903) (h1n : 0 < n) (s : Int × Nat) (HN : Next w p q r s) :
    Calls Tryz.prog 162 #[.slice a n ca, clo p q r] w fun e w' => e = .returned (fltV (orFault (firstQ (F2 K) n) 192 s)) ∧ Junk w w' := by
  obtain ⟨R, hR⟩ : ∃ R, orFault (firstQ (F2 K) n) 192 s = R := ⟨_, rfl⟩
  rw [hR]
  have HR := Lib.hid hR
  have HN := Lib.hid HN
  clear hR
  rcases hP.2 with h0 | ⟨b, o, rfl, hc⟩
  · omega
  have HlK := Lib.hid hP.1
  obtain ⟨q1, q2⟩ := hc (n - 1) (by omega)
  obtain ⟨m, hm⟩ : ∃ m, n - 1 = m := ⟨_, rfl⟩
  have hL0 : lastP K ([] : List (Fin n)) = K.getD m (0, 0) := by rw [lastP_nil, hm]
  rw [hm] at q1 q2
  generalize K.getD m (0, 0) = e0 at *
  obtain ⟨u0, v0⟩ := e0
  simp only at q1 q2
  have i1 : (m : Int) < (n : Int) := by omega
  have i2 : (n : Int) - 1 = (m : Int) := by omega
  have hbl0 : b < w.heap.size := World.block_lt_of_cell? _ _ q1
  have HP := Lib.hid hP
  clear hc hP hm
  refine (callsIn_wide (n := 4)).1 ?_
  refine callsIn_of_wp_marks Tryz.func162 rfl trivial ?_ rfl
  unfold clo
  simp only [Tryz.ntmps162, List.size_toArray, List.length_cons, List.length_nil, Nat.reduceAdd, Nat.reduceSub, Array.replicate_succ, Array.replicate_zero, List.push_toArray, List.append_toArray, List.nil_append, List.cons_append]
  gi_wp2_with (refine ⟨trivial, ?_⟩; gi_at_call 191; refine ((callsIn_wide.2 (n_rgEdges _ _ _ _))).mono ?_; rintro e w' ⟨rfl, rfl⟩)
  obtain ⟨W0, hW0⟩ : ∃ W0, ((w.alloc (.cells #[.int .i64 0, .int .i64 0] 33)).alloc (.cells #[.int .i64 u0, .int .i64 v0] 42)).alloc (.cells #[.slice (some ⟨b, o, none⟩) n ca] 23) = W0 := ⟨_, rfl⟩
  have hs0 : W0.heap.size = w.heap.size + 3 := by rw [← hW0]; simp
  have hb0 : Below w.heap.size w W0 := by rw [← hW0]; exact (((Below.refl _ w).alloc (Nat.le_refl _) _).alloc (by simp) _).alloc (by simp; omega) _
  have bF : Blk W0 w.heap.size #[.int .i64 0, .int .i64 0] 33 := by rw [← hW0]; exact ((Blk.new w _ _).alloc _).alloc _
  have bL : Blk W0 (w.heap.size + 1) #[.int .i64 u0, .int .i64 v0] 42 := by
    rw [← hW0]
    have := (Blk.new (w.alloc (.cells #[.int .i64 0, .int .i64 0] 33)) #[.int .i64 u0, .int .i64 v0] 42).alloc (.cells #[.slice (some ⟨b, o, none⟩) n ca] 23)
    rwa [World.size_alloc] at this
  have bE : Blk W0 (w.heap.size + 2) #[.slice (some ⟨b, o, none⟩) n ca] 23 := by
    rw [← hW0]
    have := Blk.new ((w.alloc (.cells #[.int .i64 0, .int .i64 0] 33)).alloc (.cells #[.int .i64 u0, .int .i64 v0] 42)) #[.slice (some ⟨b, o, none⟩) n ca] 23
    rwa [World.size_alloc, World.size_alloc] at this
  rw [hW0]
  clear hW0
  refine wpIn_rangeFunc_ownH rfl (by omega) (gf := 213) (lb := #[.pointer (some ⟨w.heap.size + 1 + 1, 0, none⟩)]) rfl trivial (enters_of Tryz.func213 (by kernel_rfl) rfl)
    (rg_stops w (some ⟨b, o, none⟩) n ca K HP.out hs 3 (w.heap.size + 2) (by omega) W0 hb0 bE) keepsE_t (keepsE_b (by omega)) (Below.refl _ _) (fun _ => rfl)
    (BaI w K (GB K)) (BaX w (GB K) 192) (baI_own w K _ _ (by omega)) (baX_own w _ _ _ (by omega))
    ⟨clean_nil _, bF, by rw [hL0]; exact bL, hb0, by omega⟩
    (fun x a' W => ∃ Bx, w.heap.size + 3 ≤ Bx ∧ Blk W Bx #[.int .i64 (K.getD x.val (0, 0)).1, .int .i64 (K.getD x.val (0, 0)).2, .int .i64 (nxtC K x.val).1, .int .i64 (nxtC K x.val).2] 232 ∧
      a' = { tmps := #[.slice (some ⟨b, o, none⟩) n ca, .func (.func 127) #[] #[.pointer (some ⟨p, 0, none⟩), .pointer (some ⟨q, 0, none⟩), .pointer (some ⟨r, 0, none⟩)], undef, undef, .pointer (some ⟨w.heap.size, 0, none⟩), .pointer (some ⟨w.heap.size + 1, 0, none⟩), .int .i64 (x.val : Int), .pointer (some ⟨Bx, 0, none⟩),
        .slice (some ⟨b, o, none⟩) n ca, .slice (some ⟨b, o, none⟩) n ca, .int .i64 (n : Int), .int .i64 (m : Int), .pointer (some ⟨b, o + m * 2, none⟩), .agg #[.int .i64 u0, .int .i64 v0], .slice (some ⟨b, o, none⟩) n ca,
        .func (.func 213) #[] #[.pointer (some ⟨w.heap.size + 1 + 1, 0, none⟩)], .int .i64 (x.val : Int), edV (K.getD x.val (0, 0)) (nxtC K x.val), undef, undef, undef, undef, undef, undef, undef, undef, undef, undef, undef, undef], defers := [] })
    (fun x a' _ X Y row hs hg hr => by obtain ⟨Bx, e1, e2, e3⟩ := hs; exact ⟨Bx, e1, e2.kept hg (fun r e => (hr r e).2), e3⟩)
    ?assign ?body ?done ?stop
  case assign =>
    rintro l pre x W K1 ⟨h1, h2, h5, h3, h4⟩ hK
    unfold edV at *
    gi_wp2
    exact hK _ _ (keepsFrom_below ((Below.refl _ W).alloc (Nat.le_refl _) _)) (keepsE_below (by omega) ((Below.refl _ W).alloc (Nat.le_refl _) _)) ⟨h1, h2.alloc _, h5.alloc _, h3.trans (((Below.refl _ W).alloc (Nat.le_refl _) _).mono (by omega)), by simp; omega⟩ ⟨W.heap.size, h4, Blk.new W _ _, rfl⟩
  case body =>
    rintro l pre x a' W hl ⟨rr, hr⟩ ⟨h1, h2, h5, h3, h4⟩ ⟨Bx, hBx, bX, rfl⟩ hlt
    obtain ⟨g, hg⟩ : ∃ g, GB K pre x = g := ⟨_, rfl⟩
    have HG := Lib.hid hg
    have hln : lastP K (pre ++ [x]) = K.getD x.val (0, 0) := lastP_snoc K pre x
    unfold GB at hg
    unfold edV
    obtain ⟨i, hi⟩ : ∃ i, x.val = i := ⟨_, rfl⟩
    rw [hi] at hg bX hln ⊢
    have HX := Lib.hid hi
    have HI := Lib.hid (show BaI w K (GB K) pre W from ⟨h1, h2, h5, h3, h4⟩)
    generalize lastP K pre = e3 at *
    generalize K.getD i (0, 0) = e1 at *
    generalize nxtC K i = e2 at *
    obtain ⟨u, v⟩ := e1
    obtain ⟨y, z⟩ := e2
    obtain ⟨s1, s2⟩ := e3
    simp only at bX h5
    have HL := Lib.hid hln
    have HE := Lib.hid (fun w' => n_rgEdFrom u v y z w')
    have HT := Lib.hid (fun w' => n_rgEdTo u v y z w')
    have HC := Lib.hid (fun w' => n_rgGoesBack s1 s2 u v y z w')
    rw [hg] at HC
    unfold pt at *
    have c0 : W.cell? ⟨Bx, 0, none⟩ = some (.int .i64 u) := bX.cell 0
    have c1 : W.cell? ⟨Bx, 1, none⟩ = some (.int .i64 v) := bX.cell 1
    have c2 : W.cell? ⟨Bx, 2, none⟩ = some (.int .i64 y) := bX.cell 2
    have c3 : W.cell? ⟨Bx, 3, none⟩ = some (.int .i64 z) := bX.cell 3
    have c4 : W.cell? ⟨w.heap.size + 1, 0, none⟩ = some (.int .i64 s1) := h5.cell 0
    have c5 : W.cell? ⟨w.heap.size + 1, 1, none⟩ = some (.int .i64 s2) := h5.cell 1
    have f0 : W.cell? ⟨w.heap.size, 0, none⟩ = some (.int .i64 0) := h2.cell 0
    have f1 : W.cell? ⟨w.heap.size, 1, none⟩ = some (.int .i64 0) := h2.cell 1
    have hBl := bX.lt
    have hfl := h2.lt
    have hfs := h5.lt
    have g0 := h2.frozen 0
    have g1 := h2.frozen 1
    have g2 := h5.frozen 0
    have g3 := h5.frozen 1
    have hrow := h2.row
    have hro5 := h5.row
    have h01 : 1 ≤ 4 - 1 - 1 := by omega
    have hmx : Tryz.prog.follows .mixedOrders = true := by kernel_rfl
    clear h1 h2 h3 bX hg hr hi hln
    have H5 := Lib.hid h5
    clear h5
    cases g with
    | false =>
      gi_wp2_with fail
      refine region_quiet_in (C := Cls W) (wd_round l) (by kernel_rfl) hmx (by kernel_rfl) (cls_drawn _) ?_
      repeat (first | (refine qw_skip (by rfl) ?_; simp only [Act.put, List.setIfInBounds_toArray, List.set_cons_succ, List.set_cons_zero]) | (refine qw_want (by rfl) (fun K hK => ?_); go_simp; first | (refine hK _ ?_; clear hK K) | (apply Exists.intro; refine ⟨?_, hK _ ?_⟩; (rintro w3_ ⟨J3_, d3_, rfl⟩; first | (with_reducible exact rfl) | (go_simp; with_reducible exact rfl) | (go_simp; (first | (with_reducible refine (HE.out _).mono ?_) | (with_reducible refine (HT.out _).mono ?_) | (with_reducible refine (HC.out _).mono ?_)); rintro e_ w_ ⟨rfl, J4_, d4_, rfl⟩; exact ⟨rfl, J3_ ++ J4_, d4_, by simp only [plus_plus, Array.append_assoc]⟩)); clear hK K)))
      refine qw_nil ?_
      rintro w3 ⟨J2, d2, rfl⟩
      gi_wp2_with (refine ⟨trivial, ?_⟩; gi_at_call 192; refine (CallsIn.inRound l (callsIn_wide.2 (HE.out _))).mono ?_; rintro e w1 ⟨rfl, J1, d1, rfl⟩)
      obtain ⟨h1, h2, _, h3, h4⟩ := HI.out
      exact ⟨set2_keeps _ _ _ _ _, set2_kp (by omega) (by omega) (by omega) _ _ _ _, clean_snoc h1 HG.out, set2_other h2 _ _ _ _ _ (by omega), by rw [HL.out]; exact H5.out.set2 _ _ _ _, h3.trans (set2_below (by omega) (by omega) _ _ _ _), Nat.le_trans h4 (set2_size _ _ _ _ _)⟩
    | true =>
      gi_wp2_with fail
      refine region_quiet_in (C := Cls W) (wd_round l) (by kernel_rfl) hmx (by kernel_rfl) (cls_drawn _) ?_
      repeat (first | (refine qw_skip (by rfl) ?_; simp only [Act.put, List.setIfInBounds_toArray, List.set_cons_succ, List.set_cons_zero]) | (refine qw_want (by rfl) (fun K hK => ?_); go_simp; first | (refine hK _ ?_; clear hK K) | (apply Exists.intro; refine ⟨?_, hK _ ?_⟩; (rintro w3_ ⟨J3_, d3_, rfl⟩; first | (with_reducible exact rfl) | (go_simp; with_reducible exact rfl) | (go_simp; (first | (with_reducible refine (HE.out _).mono ?_) | (with_reducible refine (HT.out _).mono ?_) | (with_reducible refine (HC.out _).mono ?_)); rintro e_ w_ ⟨rfl, J4_, d4_, rfl⟩; exact ⟨rfl, J3_ ++ J4_, d4_, by simp only [plus_plus, Array.append_assoc]⟩)); clear hK K)))
      refine qw_nil ?_
      rintro w3 ⟨J2, d2, rfl⟩
      gi_wp2_with fail
      obtain ⟨h1, h2, _, h3, h4⟩ := HI.out
      exact ⟨set2_keeps _ _ _ _ _, rfl, ⟨pre, x, rfl, h1, HG.out, by rw [HX.out]; exact h2.set2 _ _ _ _⟩, h3.trans (set2_below (by omega) (by omega) _ _ _ _), Nat.le_trans h4 (set2_size _ _ _ _ _)⟩
  case done =>
    rintro D ys W hD ⟨hup, hyl⟩ ⟨h1, h2, h5, h3, h4⟩ hK
    have HE := Lib.hid (show R = s by rw [← HR.out, clean_none hup hyl h1 (F := F2 K) (fun j hj => gb_is HlK.out j hj)]; rfl)
    have HNW := Lib.hid (fun W' (hb : Below W.heap.size W W') => HN.out W' (h3.trans (hb.mono (by omega))))
    obtain ⟨s1, s2⟩ := s
    unfold fltV at HNW
    have hrow := h2.row
    have f0 : W.cell? ⟨w.heap.size, 0, none⟩ = some (.int .i64 0) := h2.cell 0
    have f1 : W.cell? ⟨w.heap.size, 1, none⟩ = some (.int .i64 0) := h2.cell 1
    have HI := Lib.hid (And.intro h2 (And.intro h3 (And.intro h4 hK)))
    have hfl := h2.lt
    have g0 := h2.frozen 0
    have g1 := h2.frozen 1
    clear h1 h2 h3 hK
    gi_wp2_with (refine ⟨trivial, ?_⟩; gi_at_call 127; refine ((callsIn_wide.2 (HNW.out _ (by (repeat' first | with_reducible (first | apply Below.refl | assumption | apply bw_a | apply bw_d | apply bw_n | apply bw_p | apply bw_c | apply bw_r) | go_size))))).mono ?_; rintro e w' ⟨rfl, J3, d3, rfl⟩)
    obtain ⟨h2, h3, h4, hK⟩ := HI.out
    refine ⟨by simp, .inl ⟨_, _, rfl, run_takeDeferred (heap_set2 hK rfl _ _ _ _), ?_⟩⟩
    refine ⟨_, results_flt rfl _ _ w.heap.size #[.int .i64 s1, .int .i64 (s2 : Int)] rfl (((h2.set2 _ _ _ _).put (heap_set2 hK rfl _ _ _ _) rfl).row) rfl, by rw [HE.out]; rfl, junk_of_below ?_⟩
    exact (h3.trans (set2_below (Nat.le_refl _) (by omega) _ _ _ _)).trans (belowK_b (w := w) (Nat.le_refl _) _ D _ _ (by omega) (heap_set2 hK rfl _ _ _ _) rfl rfl)
  case stop =>
    rintro D c pre W hD hup ⟨rfl, ⟨a1, x, rfl, hc, hx, h2⟩, h3, h4⟩ hK
    have HE := Lib.hid (show R = (192, x.val) by rw [← HR.out, clean_first hup hc hx (F := F2 K) (fun j hj => gb_is HlK.out j hj)]; rfl)
    gi_wp2
    refine ⟨by simp, .inl ⟨_, _, rfl, run_takeDeferred hK, ?_⟩⟩
    refine ⟨_, results_flt rfl _ _ w.heap.size #[.int .i64 192, .int .i64 (x.val : Int)] rfl ((h2.put hK rfl).row) rfl, by rw [HE.out]; rfl, junk_of_below ?_⟩
    exact h3.trans (belowK_b (w := w) (Nat.le_refl _) _ D _ _ (by omega) hK rfl rfl)
end

section
set_option linter.unusedVariables false
set_option linter.unusedSimpArgs false
open Go.RowKit Go.Shelf
attribute [local go_sem] Oper.semAt_some
def gM (K : List (Int × Int)) (n i k : Nat) : Bool := decide (i < k) && !nbQ i k n && !decide (meetQ (K.getD i (0, 0)) (nxtC K i) (K.getD k (0, 0)) (nxtC K k) = 0)
theorem gM_is {K : List (Int × Int)} {n i k : Nat} (hl : K.length = n) (hi : i < n) (hk : k < n) : gM K n i k = (decide (i + 2 ≤ k) && meetTwo K i k) := by
  unfold gM meetTwo nbQ
  rw [nxt_cyc (by omega), nxt_cyc (by omega), hl]
  by_cases h : i < k
  · have e1 : (i + 1) % n = i + 1 := Nat.mod_eq_of_lt (by omega)
    rw [e1, decide_eq_true h, Bool.true_and]
    by_cases h2 : i + 1 = k
    · rw [decide_eq_true h2, decide_eq_false (show ¬ i + 2 ≤ k by omega)]; rfl
    · rw [decide_eq_false h2, decide_eq_true (show i + 2 ≤ k by omega), Bool.false_or, Bool.true_and]
      congr 2
      apply decide_eq_decide.2
      by_cases h3 : k + 1 = n
      · rw [h3, Nat.mod_self]; omega
      · rw [Nat.mod_eq_of_lt (by omega)]; omega
  · rw [decide_eq_false h, decide_eq_false (show ¬ i + 2 ≤ k by omega)]; rfl
theorem gM_none {K : List (Int × Int)} {n i : Nat} (hl : K.length = n) (hi : i < n) {xs : List (Fin n)} (h : UptoQ xs) (hx : xs.length = n) (hc : Clean (fun _ y => gM K n i y.val) xs) : F3 K i = false := by
  have := clean_at h (by omega) hc (F := fun k => gM K n i k) (fun _ _ => rfl)
  unfold F3 meetsAt
  rw [List.any_eq_false]
  intro k hk
  rw [List.mem_range, hl] at hk
  rw [← gM_is hl hi hk, this k (by omega)]
  decide
theorem gM_some {K : List (Int × Int)} {n i : Nat} (hl : K.length = n) (hi : i < n) {y : Fin n} (h : gM K n i y.val = true) : F3 K i = true := by
  unfold F3 meetsAt
  rw [List.any_eq_true]
  exact ⟨y.val, by rw [List.mem_range, hl]; exact y.isLt, by rw [← gM_is hl hi y.isLt]; exact h⟩
theorem keepsE_kept {n0 Bn B : Nat} {W X Y : World} {row : Option Nat} (h : KeepsE n0 Bn W X) (hs : n0 ≤ X.heap.size) (hB : n0 ≤ B) (hg : X.grownBy Y row) (hr : ∀ r, row = some r → B ≤ r ∧ ∃ o : Obj, X.heap[r]? = some o ∧ o.isCells = false) : KeepsE n0 Bn W Y :=
  ⟨below_grown h.1 hs hB hg hr, fun c t f hk => by
    have h1 := h.2 c t f hk
    refine (hg.block Bn (heap_lt h1) fun e => ?_).trans h1
    obtain ⟨_, o, ho, hn⟩ := hr Bn e.symm
    rw [h1] at ho
    injection ho with ho
    subst ho
    cases hn⟩
def MeI (w W : World) (B Bi Bx : Nat) (s ci : Value) (ce : Array Value) {n : Nat} (G : List (Fin n) → Fin n → Bool) (pre : List (Fin n)) (W' : World) : Prop :=
  (Clean G pre ∧ Blk W' (w.heap.size + 1) #[.int .i64 0, .int .i64 0] 33 ∧ Blk W' w.heap.size #[s] 23 ∧ Blk W' Bi #[ci] 3 ∧ Blk W' Bx ce 232) ∧ KeepsE w.heap.size (w.heap.size + 2) W W' ∧ KeepsFrom B W W' ∧ w.heap.size + 3 ≤ W'.heap.size
def MeX (w W : World) (B : Nat) (i : Nat) {n : Nat} (G : List (Fin n) → Fin n → Bool) (c : Code) (_ : List (Fin n)) (W' : World) : Prop :=
  c = .ret ∧ ((∃ a y, G a y = true) ∧ Blk W' (w.heap.size + 1) #[.int .i64 193, .int .i64 (i : Int)] 33) ∧ KeepsE w.heap.size (w.heap.size + 2) W W' ∧ KeepsFrom B W W' ∧ w.heap.size + 3 ≤ W'.heap.size
theorem meI_own (w W : World) (B Bi Bx : Nat) (s ci : Value) (ce : Array Value) {n : Nat} (G : List (Fin n) → Fin n → Bool) (B2 : Nat) (hB : w.heap.size ≤ B2) (hk : OwnFrom (β := List (Fin n)) B2 (fun _ W' => KeepsFrom B W W')) : OwnFrom B2 (MeI w W B Bi Bx s ci ce G) := by
  rintro t X Y row ⟨⟨h1, h2, h3, h4, h5⟩, h6, h7, h8⟩ hg hr
  have hr' := fun r e => (hr r e).2
  exact ⟨⟨h1, h2.kept hg hr', h3.kept hg hr', h4.kept hg hr', h5.kept hg hr'⟩, keepsE_kept h6 (by omega) hB hg hr, hk t X Y row h7 hg hr, Nat.le_trans h8 hg.size⟩
theorem meX_own (w W : World) (B i : Nat) {n : Nat} (G : List (Fin n) → Fin n → Bool) (B2 : Nat) (hB : w.heap.size ≤ B2) (hk : OwnFrom (β := List (Fin n)) B2 (fun _ W' => KeepsFrom B W W')) (c : Code) : OwnFrom B2 (MeX w W B i G c) := by
  rintro t X Y row ⟨h1, ⟨h2, h3⟩, h6, h7, h8⟩ hg hr
  exact ⟨h1, ⟨h2, h3.kept hg (fun r e => (hr r e).2)⟩, keepsE_kept h6 (by omega) hB hg hr, hk t X Y row h7 hg hr, Nat.le_trans h8 hg.size⟩
set_option maxRecDepth 100000 in
theorem n_rgNone (w : World) : Calls Tryz.prog 124 #[] w fun e w' => e = .returned (fltV (0, 0)) ∧ Junk w w' := by
  go_enter Tryz.func124, Tryz.ntmps124
  go_wp2
  refine bodyPost_ret (results_flt rfl _ _ w.heap.size #[.int .i64 0, .int .i64 0] rfl (by simp [go_sem]) rfl) rfl ⟨rfl, junk_of_below (by (repeat' first | with_reducible (first | apply Below.refl | assumption | apply bw_a | apply bw_d | apply bw_n | apply bw_p | apply bw_c | apply bw_r) | go_size))⟩
set_option maxRecDepth 100000 in
set_option maxHeartbeats 4000000 in
theorem n_rgMeet (w : World) (a : Option Addr) (n ca : Nat) (K : List Pt) (hP : PReads w a n K) (hs : n ≤ 4611686018427387903) :
    Calls Tryz.prog 163 #[.slice a n ca, .func (.func 124) #[] #[]] w fun e w' => e = .returned (fltV (orFault (firstQ (F3 K) n) 193 (0, 0))) ∧ Junk w w' := by
  obtain ⟨R, hR⟩ : ∃ R, orFault (firstQ (F3 K) n) 193 (0, 0) = R := ⟨_, rfl⟩
  rw [hR]
  have HR := Lib.hid hR
  have HlK := Lib.hid hP.1
  clear hR
  refine (callsIn_wide (n := 8)).1 ?_
  refine callsIn_of_wp_marks Tryz.func163 rfl trivial ?_ rfl
  simp only [Tryz.ntmps163, List.size_toArray, List.length_cons, List.length_nil, Nat.reduceAdd, Nat.reduceSub, Array.replicate_succ, Array.replicate_zero, List.push_toArray, List.append_toArray, List.nil_append, List.cons_append]
  gi_wp2_with (refine ⟨trivial, ?_⟩; gi_at_call 191; refine ((callsIn_wide.2 (n_rgEdges _ _ _ _))).mono ?_; rintro e w' ⟨rfl, rfl⟩)
  obtain ⟨W0, hW0⟩ : ∃ W0, ((w.alloc (.cells #[.slice a n ca] 23)).alloc (.cells #[.int .i64 0, .int .i64 0] 33)).alloc (.cells #[.slice a n ca] 23) = W0 := ⟨_, rfl⟩
  have hs0 : W0.heap.size = w.heap.size + 3 := by rw [← hW0]; simp
  have hb0 : Below w.heap.size w W0 := by rw [← hW0]; exact (((Below.refl _ w).alloc (Nat.le_refl _) _).alloc (by simp) _).alloc (by simp; omega) _
  have bS : Blk W0 w.heap.size #[.slice a n ca] 23 := by rw [← hW0]; exact ((Blk.new w _ _).alloc _).alloc _
  have bF : Blk W0 (w.heap.size + 1) #[.int .i64 0, .int .i64 0] 33 := by
    rw [← hW0]
    have := (Blk.new (w.alloc (.cells #[.slice a n ca] 23)) #[.int .i64 0, .int .i64 0] 33).alloc (.cells #[.slice a n ca] 23)
    rwa [World.size_alloc] at this
  have bE : Blk W0 (w.heap.size + 2) #[.slice a n ca] 23 := by
    rw [← hW0]
    have := Blk.new ((w.alloc (.cells #[.slice a n ca] 23)).alloc (.cells #[.int .i64 0, .int .i64 0] 33)) #[.slice a n ca] 23
    rwa [World.size_alloc, World.size_alloc] at this
  rw [hW0]
  clear hW0
  refine wpIn_rangeFunc_ownH rfl (by omega) (gf := 213) (lb := #[.pointer (some ⟨w.heap.size + 1 + 1, 0, none⟩)]) rfl trivial (enters_of Tryz.func213 (by kernel_rfl) rfl)
    (rg_stops w a n ca K hP hs 7 (w.heap.size + 2) (by omega) W0 hb0 bE) keepsE_t (keepsE_b (by omega)) (Below.refl _ _) (fun _ => rfl)
    (TwI w (.slice a n ca) (fun _ x => F3 K x.val)) (TwX w (fun _ x => F3 K x.val) 193) (twI_own w _ _ _ (by omega)) (twX_own w _ _ _ (by omega))
    ⟨clean_nil _, bF, bS, hb0, by omega⟩
    (fun x a' W => ∃ Bi Bx, w.heap.size + 3 ≤ Bi ∧ w.heap.size + 3 ≤ Bx ∧ Blk W Bi #[.int .i64 (x.val : Int)] 3 ∧ Blk W Bx #[.int .i64 (K.getD x.val (0, 0)).1, .int .i64 (K.getD x.val (0, 0)).2, .int .i64 (nxtC K x.val).1, .int .i64 (nxtC K x.val).2] 232 ∧
      a' = { tmps := #[.slice a n ca, .func (.func 124) #[] #[], .pointer (some ⟨w.heap.size, 0, none⟩), undef, .pointer (some ⟨w.heap.size + 1, 0, none⟩), .pointer (some ⟨Bi, 0, none⟩), .pointer (some ⟨Bx, 0, none⟩), undef, undef,
        .slice a n ca, .func (.func 213) #[] #[.pointer (some ⟨w.heap.size + 1 + 1, 0, none⟩)], .int .i64 (x.val : Int), edV (K.getD x.val (0, 0)) (nxtC K x.val), undef, undef, undef, undef, undef, undef, undef, undef, undef, undef, undef, undef, undef, undef, undef, undef, undef, undef, undef, undef, undef, undef, undef, undef], defers := [] })
    (fun x a' _ X Y row hs hg hr => by obtain ⟨Bi, Bx, e0, e1, e2, e4, e3⟩ := hs; exact ⟨Bi, Bx, e0, e1, e2.kept hg (fun r e => (hr r e).2), e4.kept hg (fun r e => (hr r e).2), e3⟩)
    ?assign ?body ?done ?stop
  case assign =>
    rintro l pre x W K1 ⟨h1, h2, h5, h3, h4⟩ hK
    unfold edV at *
    gi_wp2
    have hb9 : Below W.heap.size W ((W.alloc (.cells #[.int .i64 (x.val : Int)] 3)).alloc (.cells #[.int .i64 (K.getD x.val (0, 0)).1, .int .i64 (K.getD x.val (0, 0)).2, .int .i64 (nxtC K x.val).1, .int .i64 (nxtC K x.val).2] 232)) := ((Below.refl _ W).alloc (Nat.le_refl _) _).alloc (by simp) _
    exact hK _ _ (keepsFrom_below hb9) (keepsE_below (by omega) hb9) ⟨h1, h2.below hb9, h5.below hb9, h3.trans (hb9.mono (by omega)), Nat.le_trans h4 hb9.size⟩ ⟨W.heap.size, W.heap.size + 1, h4, by omega, (Blk.new W _ _).alloc _, by have := Blk.new (W.alloc (.cells #[.int .i64 (x.val : Int)] 3)) #[.int .i64 (K.getD x.val (0, 0)).1, .int .i64 (K.getD x.val (0, 0)).2, .int .i64 (nxtC K x.val).1, .int .i64 (nxtC K x.val).2] 232; rwa [World.size_alloc] at this, rfl⟩
  case body =>
    rintro l pre x a' W hl ⟨rr, hr⟩ ⟨h1, h2, h5, h3, h4⟩ ⟨Bi, Bx, hBi, hBx, bI, bX, rfl⟩ hlt
    have c4 : W.cell? ⟨w.heap.size, 0, none⟩ = some (.slice a n ca) := h5.cell 0
    have hfs := h5.lt
    have h1' : 1 ≤ 8 - 1 - 1 := by omega
    gi_wp2_with (refine ⟨trivial, ?_⟩; gi_at_call 191; refine (CallsIn.inRound l (callsIn_wide.2 (n_rgEdges _ _ _ _))).mono ?_; rintro e w' ⟨rfl, rfl⟩)
    have hb9 : Below W.heap.size W (W.alloc (.cells #[.slice a n ca] 23)) := (Below.refl _ W).alloc (Nat.le_refl _) _
    have hr' : (W.alloc (.cells #[.slice a n ca] 23)).heap[l]? = some (.loop rr) := (hb9.block l (heap_lt hr)).trans hr
    have bN := Blk.new W #[.slice a n ca] 23
    have hxn := x.isLt
    refine wpIn_rangeFunc_ownN (l₀ := l) (r₀ := rr) rfl hr' (by omega) (gf := 213) (lb := #[.pointer (some ⟨W.heap.size, 0, none⟩)]) rfl trivial (enters_of Tryz.func213 (by kernel_rfl) rfl)
      ((rg_stops w a n ca K hP hs 5 W.heap.size (by omega) _ (h3.trans (hb9.mono (by omega))) bN).inRound l) keepsE_t (keepsE_b (by simp; omega)) (Below.refl _ _) (fun _ => rfl)
      (MeI w W W0.heap.size Bi Bx (.slice a n ca) (.int .i64 (x.val : Int)) #[.int .i64 (K.getD x.val (0, 0)).1, .int .i64 (K.getD x.val (0, 0)).2, .int .i64 (nxtC K x.val).1, .int .i64 (nxtC K x.val).2] (fun _ y => gM K n x.val y.val))
      (MeX w W W0.heap.size x.val (fun _ y => gM K n x.val y.val))
      (meI_own w W _ _ _ _ _ _ _ _ (by simp; omega) (ownFrom_keepsFrom (by simp)))
      (meX_own w W _ _ _ _ (by simp; omega) (ownFrom_keepsFrom (by simp)))
      ⟨⟨clean_nil _, h2.below hb9, h5.below hb9, bI.below hb9, bX.below hb9⟩, keepsE_below (by omega) hb9, keepsFrom_below hb9, by simp; omega⟩
      (fun y a'' W' => ∃ By, w.heap.size + 3 ≤ By ∧ Blk W' By #[.int .i64 (K.getD y.val (0, 0)).1, .int .i64 (K.getD y.val (0, 0)).2, .int .i64 (nxtC K y.val).1, .int .i64 (nxtC K y.val).2] 232 ∧
        a'' = { tmps := #[.slice a n ca, .func (.func 124) #[] #[], .pointer (some ⟨w.heap.size, 0, none⟩), undef, .pointer (some ⟨w.heap.size + 1, 0, none⟩), .pointer (some ⟨Bi, 0, none⟩), .pointer (some ⟨Bx, 0, none⟩), .int .i64 (y.val : Int), .pointer (some ⟨By, 0, none⟩),
          .slice a n ca, .func (.func 213) #[] #[.pointer (some ⟨w.heap.size + 1 + 1, 0, none⟩)], .int .i64 (x.val : Int), edV (K.getD x.val (0, 0)) (nxtC K x.val), .slice a n ca, .func (.func 213) #[] #[.pointer (some ⟨W.heap.size, 0, none⟩)], .int .i64 (y.val : Int), edV (K.getD y.val (0, 0)) (nxtC K y.val), undef, undef, undef, undef, undef, undef, undef, undef, undef, undef, undef, undef, undef, undef, undef, undef, undef, undef, undef, undef], defers := [] })
      (fun y a'' _ X Y row hs hg hr => by obtain ⟨By, e1, e2, e3⟩ := hs; exact ⟨By, e1, e2.kept hg (fun r e => (hr r e).2), e3⟩)
      ?assign2 ?body2 ?done2 ?stop2
    case assign2 =>
      rintro l2 pre2 y W2 K1 ⟨⟨i1, i2, i3, i4, i5⟩, i6, i7, i8⟩ hK
      unfold edV at *
      gi_wp2
      have hb : Below W2.heap.size W2 (W2.alloc (.cells #[.int .i64 (K.getD y.val (0, 0)).1, .int .i64 (K.getD y.val (0, 0)).2, .int .i64 (nxtC K y.val).1, .int .i64 (nxtC K y.val).2] 232)) := (Below.refl _ W2).alloc (Nat.le_refl _) _
      exact hK _ _ (keepsFrom_below hb) (keepsE_below (by omega) hb) ⟨⟨i1, i2.below hb, i3.below hb, i4.below hb, i5.below hb⟩, keepsE_t i6 (keepsE_below (by omega) hb), i7.trans (keepsFrom_below hb), Nat.le_trans i8 hb.size⟩ ⟨W2.heap.size, i8, Blk.new W2 _ _, rfl⟩
    case body2 =>
      rintro l2 pre2 y a'' W2 hl2 ⟨rr2, hr2⟩ ⟨⟨i1, i2, i3, i4, i5⟩, i6, i7, i8⟩ ⟨By, hBy, bY, rfl⟩ hlt2
      obtain ⟨g, hg⟩ : ∃ g, gM K n x.val y.val = g := ⟨_, rfl⟩
      have hyn := y.isLt
      have HS0 := Lib.hid hs0
      clear hs0
      have HI0 := (show MeI w W W0.heap.size Bi Bx (.slice a n ca) (.int .i64 (x.val : Int)) #[.int .i64 (K.getD x.val (0, 0)).1, .int .i64 (K.getD x.val (0, 0)).2, .int .i64 (nxtC K x.val).1, .int .i64 (nxtC K x.val).2] (fun _ y => gM K n x.val y.val) pre2 W2 from ⟨⟨i1, i2, i3, i4, i5⟩, i6, i7, i8⟩)
      unfold edV
      obtain ⟨i, hi⟩ : ∃ i, x.val = i := ⟨_, rfl⟩
      obtain ⟨j, hj⟩ : ∃ j, y.val = j := ⟨_, rfl⟩
      rw [hi] at hg i4 i5 hxn HI0 ⊢
      have HG := Lib.hid hg
      rw [hj] at hg bY hyn ⊢
      unfold gM at hg
      have HX := Lib.hid hi
      generalize K.getD i (0, 0) = e1 at *
      generalize nxtC K i = e2 at *
      generalize K.getD j (0, 0) = e3 at *
      generalize nxtC K j = e4 at *
      obtain ⟨u, v⟩ := e1
      obtain ⟨y1, z1⟩ := e2
      obtain ⟨u2, v2⟩ := e3
      obtain ⟨y2, z2⟩ := e4
      simp only at i5 bY HI0
      have HI := Lib.hid HI0
      clear HI0
      have HM := Lib.hid (fun w' => n_rgEdMeets u v y1 z1 u2 v2 y2 z2 w')
      have HB := Lib.hid (fun w' => n_rgNb i j n hxn hyn hs w')
      unfold edV at HM
      simp only at HM
      generalize nbQ i j n = nb at *
      generalize decide (meetQ (u, v) (y1, z1) (u2, v2) (y2, z2) = 0) = me at *
      have c0 : W2.cell? ⟨Bx, 0, none⟩ = some (.int .i64 u) := i5.cell 0
      have c1 : W2.cell? ⟨Bx, 1, none⟩ = some (.int .i64 v) := i5.cell 1
      have c2 : W2.cell? ⟨Bx, 2, none⟩ = some (.int .i64 y1) := i5.cell 2
      have c3 : W2.cell? ⟨Bx, 3, none⟩ = some (.int .i64 z1) := i5.cell 3
      have k0 : W2.cell? ⟨By, 0, none⟩ = some (.int .i64 u2) := bY.cell 0
      have k1 : W2.cell? ⟨By, 1, none⟩ = some (.int .i64 v2) := bY.cell 1
      have k2 : W2.cell? ⟨By, 2, none⟩ = some (.int .i64 y2) := bY.cell 2
      have k3 : W2.cell? ⟨By, 3, none⟩ = some (.int .i64 z2) := bY.cell 3
      have k4 : W2.cell? ⟨Bi, 0, none⟩ = some (.int .i64 (i : Int)) := i4.cell 0
      have k5 : W2.cell? ⟨w.heap.size, 0, none⟩ = some (.slice a n ca) := i3.cell 0
      have f0 : W2.cell? ⟨w.heap.size + 1, 0, none⟩ = some (.int .i64 0) := i2.cell 0
      have f1 : W2.cell? ⟨w.heap.size + 1, 1, none⟩ = some (.int .i64 0) := i2.cell 1
      have q1 := i5.lt
      have q2 := bY.lt
      have q3 := i4.lt
      have q4 := i3.lt
      have q5 := i2.lt
      have g0 := i2.frozen 0
      have g1 := i2.frozen 1
      have hrow := i2.row
      have h01 : 1 ≤ 8 - 1 - 1 - 1 - 1 := by omega
      clear h1 h2 h3 h5 bI bX i1 i2 i3 i4 i5 i6 i7 bY hr2 c4 hfs hr' bN hb9 hr hi hj
      by_cases hij : i < j
      · have w1 : (i : Int) < (j : Int) := by omega
        rw [decide_eq_true hij, Bool.true_and] at hg
        clear hij
        cases nb with
        | true =>
          simp only [Bool.not_true, Bool.false_and] at hg
          subst hg
          gi_wp2_with (first | (refine ⟨trivial, ?_⟩; gi_at_call 196; refine (CallsIn.inRound l2 (CallsIn.inRound l (callsIn_wide.2 (HB.out _)))).mono ?_; rintro e w1 ⟨rfl, J1, d1, rfl⟩))
          refine ⟨trivial, ?_⟩
          gi_wp2_with fail
          obtain ⟨⟨i1, i2, i3, i4, i5⟩, i6, i7, i8⟩ := HI.out
          have hb : Below W2.heap.size W2 _ := Junk.below ⟨J1, d1, rfl⟩
          exact ⟨keepsFrom_below hb, keepsE_below (by omega) hb, ⟨clean_snoc i1 HG.out, i2.below hb, i3.below hb, i4.below hb, i5.below hb⟩, keepsE_t i6 (keepsE_below (by omega) hb), i7.trans (keepsFrom_below hb), Nat.le_trans i8 hb.size⟩
        | false =>
          simp only [Bool.not_false, Bool.true_and] at hg
          cases me with
          | true =>
            obtain rfl : g = false := by rw [← hg]; rfl
            gi_wp2_with (first | (refine ⟨trivial, ?_⟩; gi_at_call 196; refine (CallsIn.inRound l2 (CallsIn.inRound l (callsIn_wide.2 (HB.out _)))).mono ?_; rintro e w1 ⟨rfl, J1, d1, rfl⟩) | (refine ⟨trivial, ?_⟩; gi_at_call 197; refine (CallsIn.inRound l2 (CallsIn.inRound l (callsIn_wide.2 (HM.out _)))).mono ?_; rintro e w1 ⟨rfl, J2, d2, rfl⟩))
            obtain ⟨⟨i1, i2, i3, i4, i5⟩, i6, i7, i8⟩ := HI.out
            have hb : Below W2.heap.size W2 _ := Junk.below ⟨J1 ++ J2, d2, rfl⟩
            exact ⟨keepsFrom_below hb, keepsE_below (by omega) hb, ⟨clean_snoc i1 HG.out, i2.below hb, i3.below hb, i4.below hb, i5.below hb⟩, keepsE_t i6 (keepsE_below (by omega) hb), i7.trans (keepsFrom_below hb), Nat.le_trans i8 hb.size⟩
          | false =>
            obtain rfl : g = true := by rw [← hg]; rfl
            gi_wp2_with (first | (refine ⟨trivial, ?_⟩; gi_at_call 196; refine (CallsIn.inRound l2 (CallsIn.inRound l (callsIn_wide.2 (HB.out _)))).mono ?_; rintro e w1 ⟨rfl, J1, d1, rfl⟩) | (refine ⟨trivial, ?_⟩; gi_at_call 197; refine (CallsIn.inRound l2 (CallsIn.inRound l (callsIn_wide.2 (HM.out _)))).mono ?_; rintro e w1 ⟨rfl, J2, d2, rfl⟩))
            obtain ⟨⟨i1, i2, i3, i4, i5⟩, i6, i7, i8⟩ := HI.out
            exact ⟨set2_keeps _ _ _ _ _, rfl, ⟨⟨pre2, y, HG.out⟩, i2.set2 _ _ _ _⟩, keepsE_t i6 (set2_kp (by omega) (by omega) (by omega) _ _ _ _), i7.trans (set2_keeps _ _ _ _ _), Nat.le_trans i8 (set2_size _ _ _ _ _)⟩
      · have w1 : ¬ (i : Int) < (j : Int) := by omega
        rw [decide_eq_false hij, Bool.false_and, Bool.false_and] at hg
        subst hg
        clear hij
        gi_wp2_with fail
        refine ⟨trivial, ?_⟩
        gi_wp2_with fail
        refine ⟨trivial, ?_⟩
        gi_wp2_with fail
        obtain ⟨⟨i1, i2, i3, i4, i5⟩, i6, i7, i8⟩ := HI.out
        exact ⟨KeepsFrom.refl _ _, keepsE_below (by omega) (Below.refl _ _), ⟨clean_snoc i1 HG.out, i2, i3, i4, i5⟩, i6, i7, i8⟩
    case done2 =>
      rintro xs W2 ⟨hup, hxl⟩ ⟨⟨i1, i2, i3, i4, i5⟩, i6, i7, i8⟩
      gi_wp2
      exact ⟨(by first | exact i7 | (rw [← hs0]; exact i7)), i6, clean_snoc h1 (gM_none HlK.out hxn hup hxl i1), i2, i3, h3.trans i6.1, i8⟩
    case stop2 =>
      rintro c pre2 W2 hup ⟨rfl, ⟨⟨_, y, hy⟩, i2⟩, i6, i7, i8⟩
      gi_wp2
      exact ⟨(by first | exact i7 | (rw [← hs0]; exact i7)), rfl, ⟨pre, x, rfl, h1, gM_some HlK.out hxn hy, i2⟩, h3.trans i6.1, i8⟩
  case done =>
    rintro D ys W hD ⟨hup, hyl⟩ ⟨h1, h2, h5, h3, h4⟩ hK
    have HE := Lib.hid (show R = (0, 0) by rw [← HR.out, clean_none hup hyl h1 (F := F3 K) (fun _ _ => rfl)]; rfl)
    have HNW := Lib.hid (fun W' => n_rgNone W')
    unfold fltV at HNW
    simp only at HNW
    have hrow := h2.row
    have f0 : W.cell? ⟨w.heap.size + 1, 0, none⟩ = some (.int .i64 0) := h2.cell 0
    have f1 : W.cell? ⟨w.heap.size + 1, 1, none⟩ = some (.int .i64 0) := h2.cell 1
    have HI := Lib.hid (And.intro h2 (And.intro h3 (And.intro h4 hK)))
    have hfl := h2.lt
    have g0 := h2.frozen 0
    have g1 := h2.frozen 1
    clear h1 h2 h3 hK
    gi_wp2_with (refine ⟨trivial, ?_⟩; gi_at_call 124; refine ((callsIn_wide.2 (HNW.out _))).mono ?_; rintro e w' ⟨rfl, J3, d3, rfl⟩)
    obtain ⟨h2, h3, h4, hK⟩ := HI.out
    refine ⟨by simp, .inl ⟨_, _, rfl, run_takeDeferred (heap_set2 hK rfl _ _ _ _), ?_⟩⟩
    refine ⟨_, results_flt rfl _ _ (w.heap.size + 1) #[.int .i64 0, .int .i64 0] rfl (((h2.set2 _ _ _ _).put (heap_set2 hK rfl _ _ _ _) rfl).row) rfl, by rw [HE.out]; rfl, junk_of_below ?_⟩
    exact (h3.trans (set2_below (by omega) (by omega) _ _ _ _)).trans (belowK_b (w := w) (Nat.le_refl _) _ D _ _ (by omega) (heap_set2 hK rfl _ _ _ _) rfl rfl)
  case stop =>
    rintro D c pre W hD hup ⟨rfl, ⟨a1, x, rfl, hc, hx, h2⟩, h3, h4⟩ hK
    have HE := Lib.hid (show R = (193, x.val) by rw [← HR.out, clean_first hup hc hx (F := F3 K) (fun _ _ => rfl)]; rfl)
    gi_wp2
    refine ⟨by simp, .inl ⟨_, _, rfl, run_takeDeferred hK, ?_⟩⟩
    refine ⟨_, results_flt rfl _ _ (w.heap.size + 1) #[.int .i64 193, .int .i64 (x.val : Int)] rfl ((h2.put hK rfl).row) rfl, by rw [HE.out]; rfl, junk_of_below ?_⟩
    exact h3.trans (belowK_b (w := w) (Nat.le_refl _) _ D _ _ (by omega) hK rfl rfl)
end

section
set_option linter.unusedVariables false
set_option linter.unusedSimpArgs false
open Go.RowKit Go.Shelf
attribute [local go_sem] Oper.semAt_some
def chks : Array Value := #[.func (.func 158) #[] #[], .func (.func 159) #[] #[], .func (.func 160) #[] #[], .func (.func 161) #[] #[], .func (.func 162) #[] #[], .func (.func 163) #[] #[]]
theorem n_rgChecks (w : World) : Calls Tryz.prog 126 #[] w fun e w' => e = .returned (.slice (some ⟨w.heap.size, 0, none⟩) 6 6) ∧ w' = w.alloc (.cells chks 174) := by
  unfold chks
  go_enter Tryz.func126, Tryz.ntmps126
  go_wp2
  go_ret
  exact ⟨rfl, rfl⟩
theorem n_rgBackward (w : World) (v : Value) (hv : ∃ a n c, v = .slice a n c) : Calls Tryz.prog 125 #[v] w fun e w' => e = .returned (.func (.func 157) #[] #[.pointer (some ⟨w.heap.size, 0, none⟩)]) ∧ w' = w.alloc (.cells #[v] 172) := by
  obtain ⟨a, n, c, rfl⟩ := hv
  go_enter Tryz.func125, Tryz.ntmps125
  go_wp2
  go_ret
  exact ⟨rfl, rfl⟩
def chkV : Nat → Value
  | 0 => .func (.func 158) #[] #[]
  | 1 => .func (.func 159) #[] #[]
  | 2 => .func (.func 160) #[] #[]
  | 3 => .func (.func 161) #[] #[]
  | 4 => .func (.func 162) #[] #[]
  | _ => .func (.func 163) #[] #[]
def endV : Value := .func (.func 124) #[] #[]
set_option maxRecDepth 100000 in
theorem n_clo0 (W : World) (Bc Bl Bn : Nat) (a : Option Addr) (n ca : Nat) (p q r : Nat) (s : Int × Nat) (hc : Blk W Bc #[chkV 0] 174) (hl : Blk W Bl #[.slice a n ca] 23) (hn : Blk W Bn #[(clo p q r)] 168)
    (HF : ∀ W', Below W.heap.size W W' → Calls Tryz.prog 158 #[.slice a n ca, (clo p q r)] W' fun e W'' => e = .returned (fltV s) ∧ Junk W' W'') : Next W Bc Bl Bn s := by
  intro W' hb
  have HF := Lib.hid HF
  have HB := Lib.hid hb
  obtain ⟨s1, s2⟩ := s
  have c0 : W'.cell? ⟨Bc, 0, none⟩ = some (chkV 0) := (hc.below hb).cell 0
  have c1 : W'.cell? ⟨Bl, 0, none⟩ = some (.slice a n ca) := (hl.below hb).cell 0
  have c2 : W'.cell? ⟨Bn, 0, none⟩ = some (clo p q r) := (hn.below hb).cell 0
  have l0 := (hc.below hb).lt
  have l1 := (hl.below hb).lt
  have l2 := (hn.below hb).lt
  have hsz := hb.size
  unfold clo at *
  unfold chkV at c0
  unfold fltV at *
  clear hc hl hn hb
  go_enter Tryz.func127, Tryz.ntmps127
  go_wp2_with (go_at_call 158; (refine (HF.out _ (HB.out.trans (by (repeat' first | with_reducible (first | apply Below.refl | assumption | apply bw_a | apply bw_d | apply bw_n | apply bw_p | apply bw_c | apply bw_r) | go_size)))).mono ?_); rintro e w1 ⟨rfl, J1, d1, rfl⟩)
  refine bodyPost_ret (results_flt rfl _ _ W'.heap.size #[.int .i64 s1, .int .i64 (s2 : Int)] rfl (by simp [go_sem]) rfl) rfl ⟨rfl, junk_of_below (by (repeat' first | with_reducible (first | apply Below.refl | assumption | apply bw_a | apply bw_d | apply bw_n | apply bw_p | apply bw_c | apply bw_r) | go_size))⟩
set_option maxRecDepth 100000 in
theorem n_clo1 (W : World) (Bc Bl Bn : Nat) (a : Option Addr) (n ca : Nat) (p q r : Nat) (s : Int × Nat) (hc : Blk W Bc #[chkV 1] 174) (hl : Blk W Bl #[.slice a n ca] 23) (hn : Blk W Bn #[(clo p q r)] 168)
    (HF : ∀ W', Below W.heap.size W W' → Calls Tryz.prog 159 #[.slice a n ca, (clo p q r)] W' fun e W'' => e = .returned (fltV s) ∧ Junk W' W'') : Next W Bc Bl Bn s := by
  intro W' hb
  have HF := Lib.hid HF
  have HB := Lib.hid hb
  obtain ⟨s1, s2⟩ := s
  have c0 : W'.cell? ⟨Bc, 0, none⟩ = some (chkV 1) := (hc.below hb).cell 0
  have c1 : W'.cell? ⟨Bl, 0, none⟩ = some (.slice a n ca) := (hl.below hb).cell 0
  have c2 : W'.cell? ⟨Bn, 0, none⟩ = some (clo p q r) := (hn.below hb).cell 0
  have l0 := (hc.below hb).lt
  have l1 := (hl.below hb).lt
  have l2 := (hn.below hb).lt
  have hsz := hb.size
  unfold clo at *
  unfold chkV at c0
  unfold fltV at *
  clear hc hl hn hb
  go_enter Tryz.func127, Tryz.ntmps127
  go_wp2_with (go_at_call 159; (refine (HF.out _ (HB.out.trans (by (repeat' first | with_reducible (first | apply Below.refl | assumption | apply bw_a | apply bw_d | apply bw_n | apply bw_p | apply bw_c | apply bw_r) | go_size)))).mono ?_); rintro e w1 ⟨rfl, J1, d1, rfl⟩)
  refine bodyPost_ret (results_flt rfl _ _ W'.heap.size #[.int .i64 s1, .int .i64 (s2 : Int)] rfl (by simp [go_sem]) rfl) rfl ⟨rfl, junk_of_below (by (repeat' first | with_reducible (first | apply Below.refl | assumption | apply bw_a | apply bw_d | apply bw_n | apply bw_p | apply bw_c | apply bw_r) | go_size))⟩
set_option maxRecDepth 100000 in
theorem n_clo2 (W : World) (Bc Bl Bn : Nat) (a : Option Addr) (n ca : Nat) (p q r : Nat) (s : Int × Nat) (hc : Blk W Bc #[chkV 2] 174) (hl : Blk W Bl #[.slice a n ca] 23) (hn : Blk W Bn #[(clo p q r)] 168)
    (HF : ∀ W', Below W.heap.size W W' → Calls Tryz.prog 160 #[.slice a n ca, (clo p q r)] W' fun e W'' => e = .returned (fltV s) ∧ Junk W' W'') : Next W Bc Bl Bn s := by
  intro W' hb
  have HF := Lib.hid HF
  have HB := Lib.hid hb
  obtain ⟨s1, s2⟩ := s
  have c0 : W'.cell? ⟨Bc, 0, none⟩ = some (chkV 2) := (hc.below hb).cell 0
  have c1 : W'.cell? ⟨Bl, 0, none⟩ = some (.slice a n ca) := (hl.below hb).cell 0
  have c2 : W'.cell? ⟨Bn, 0, none⟩ = some (clo p q r) := (hn.below hb).cell 0
  have l0 := (hc.below hb).lt
  have l1 := (hl.below hb).lt
  have l2 := (hn.below hb).lt
  have hsz := hb.size
  unfold clo at *
  unfold chkV at c0
  unfold fltV at *
  clear hc hl hn hb
  go_enter Tryz.func127, Tryz.ntmps127
  go_wp2_with (go_at_call 160; (refine (HF.out _ (HB.out.trans (by (repeat' first | with_reducible (first | apply Below.refl | assumption | apply bw_a | apply bw_d | apply bw_n | apply bw_p | apply bw_c | apply bw_r) | go_size)))).mono ?_); rintro e w1 ⟨rfl, J1, d1, rfl⟩)
  refine bodyPost_ret (results_flt rfl _ _ W'.heap.size #[.int .i64 s1, .int .i64 (s2 : Int)] rfl (by simp [go_sem]) rfl) rfl ⟨rfl, junk_of_below (by (repeat' first | with_reducible (first | apply Below.refl | assumption | apply bw_a | apply bw_d | apply bw_n | apply bw_p | apply bw_c | apply bw_r) | go_size))⟩
set_option maxRecDepth 100000 in
theorem n_clo3 (W : World) (Bc Bl Bn : Nat) (a : Option Addr) (n ca : Nat) (p q r : Nat) (s : Int × Nat) (hc : Blk W Bc #[chkV 3] 174) (hl : Blk W Bl #[.slice a n ca] 23) (hn : Blk W Bn #[(clo p q r)] 168)
    (HF : ∀ W', Below W.heap.size W W' → Calls Tryz.prog 161 #[.slice a n ca, (clo p q r)] W' fun e W'' => e = .returned (fltV s) ∧ Junk W' W'') : Next W Bc Bl Bn s := by
  intro W' hb
  have HF := Lib.hid HF
  have HB := Lib.hid hb
  obtain ⟨s1, s2⟩ := s
  have c0 : W'.cell? ⟨Bc, 0, none⟩ = some (chkV 3) := (hc.below hb).cell 0
  have c1 : W'.cell? ⟨Bl, 0, none⟩ = some (.slice a n ca) := (hl.below hb).cell 0
  have c2 : W'.cell? ⟨Bn, 0, none⟩ = some (clo p q r) := (hn.below hb).cell 0
  have l0 := (hc.below hb).lt
  have l1 := (hl.below hb).lt
  have l2 := (hn.below hb).lt
  have hsz := hb.size
  unfold clo at *
  unfold chkV at c0
  unfold fltV at *
  clear hc hl hn hb
  go_enter Tryz.func127, Tryz.ntmps127
  go_wp2_with (go_at_call 161; (refine (HF.out _ (HB.out.trans (by (repeat' first | with_reducible (first | apply Below.refl | assumption | apply bw_a | apply bw_d | apply bw_n | apply bw_p | apply bw_c | apply bw_r) | go_size)))).mono ?_); rintro e w1 ⟨rfl, J1, d1, rfl⟩)
  refine bodyPost_ret (results_flt rfl _ _ W'.heap.size #[.int .i64 s1, .int .i64 (s2 : Int)] rfl (by simp [go_sem]) rfl) rfl ⟨rfl, junk_of_below (by (repeat' first | with_reducible (first | apply Below.refl | assumption | apply bw_a | apply bw_d | apply bw_n | apply bw_p | apply bw_c | apply bw_r) | go_size))⟩
set_option maxRecDepth 100000 in
theorem n_clo4 (W : World) (Bc Bl Bn : Nat) (a : Option Addr) (n ca : Nat) (p q r : Nat) (s : Int × Nat) (hc : Blk W Bc #[chkV 4] 174) (hl : Blk W Bl #[.slice a n ca] 23) (hn : Blk W Bn #[(clo p q r)] 168)
    (HF : ∀ W', Below W.heap.size W W' → Calls Tryz.prog 162 #[.slice a n ca, (clo p q r)] W' fun e W'' => e = .returned (fltV s) ∧ Junk W' W'') : Next W Bc Bl Bn s := by
  intro W' hb
  have HF := Lib.hid HF
  have HB := Lib.hid hb
  obtain ⟨s1, s2⟩ := s
  have c0 : W'.cell? ⟨Bc, 0, none⟩ = some (chkV 4) := (hc.below hb).cell 0
  have c1 : W'.cell? ⟨Bl, 0, none⟩ = some (.slice a n ca) := (hl.below hb).cell 0
  have c2 : W'.cell? ⟨Bn, 0, none⟩ = some (clo p q r) := (hn.below hb).cell 0
  have l0 := (hc.below hb).lt
  have l1 := (hl.below hb).lt
  have l2 := (hn.below hb).lt
  have hsz := hb.size
  unfold clo at *
  unfold chkV at c0
  unfold fltV at *
  clear hc hl hn hb
  go_enter Tryz.func127, Tryz.ntmps127
  go_wp2_with (go_at_call 162; (refine (HF.out _ (HB.out.trans (by (repeat' first | with_reducible (first | apply Below.refl | assumption | apply bw_a | apply bw_d | apply bw_n | apply bw_p | apply bw_c | apply bw_r) | go_size)))).mono ?_); rintro e w1 ⟨rfl, J1, d1, rfl⟩)
  refine bodyPost_ret (results_flt rfl _ _ W'.heap.size #[.int .i64 s1, .int .i64 (s2 : Int)] rfl (by simp [go_sem]) rfl) rfl ⟨rfl, junk_of_below (by (repeat' first | with_reducible (first | apply Below.refl | assumption | apply bw_a | apply bw_d | apply bw_n | apply bw_p | apply bw_c | apply bw_r) | go_size))⟩
set_option maxRecDepth 100000 in
theorem n_clo5 (W : World) (Bc Bl Bn : Nat) (a : Option Addr) (n ca : Nat) (s : Int × Nat) (hc : Blk W Bc #[chkV 5] 174) (hl : Blk W Bl #[.slice a n ca] 23) (hn : Blk W Bn #[endV] 168)
    (HF : ∀ W', Below W.heap.size W W' → Calls Tryz.prog 163 #[.slice a n ca, endV] W' fun e W'' => e = .returned (fltV s) ∧ Junk W' W'') : Next W Bc Bl Bn s := by
  intro W' hb
  have HF := Lib.hid HF
  have HB := Lib.hid hb
  obtain ⟨s1, s2⟩ := s
  have c0 : W'.cell? ⟨Bc, 0, none⟩ = some (chkV 5) := (hc.below hb).cell 0
  have c1 : W'.cell? ⟨Bl, 0, none⟩ = some (.slice a n ca) := (hl.below hb).cell 0
  have c2 : W'.cell? ⟨Bn, 0, none⟩ = some endV := (hn.below hb).cell 0
  have l0 := (hc.below hb).lt
  have l1 := (hl.below hb).lt
  have l2 := (hn.below hb).lt
  have hsz := hb.size
  unfold endV at *
  unfold chkV at c0
  unfold fltV at *
  clear hc hl hn hb
  go_enter Tryz.func127, Tryz.ntmps127
  go_wp2_with (go_at_call 163; (refine (HF.out _ (HB.out.trans (by (repeat' first | with_reducible (first | apply Below.refl | assumption | apply bw_a | apply bw_d | apply bw_n | apply bw_p | apply bw_c | apply bw_r) | go_size)))).mono ?_); rintro e w1 ⟨rfl, J1, d1, rfl⟩)
  refine bodyPost_ret (results_flt rfl _ _ W'.heap.size #[.int .i64 s1, .int .i64 (s2 : Int)] rfl (by simp [go_sem]) rfl) rfl ⟨rfl, junk_of_below (by (repeat' first | with_reducible (first | apply Below.refl | assumption | apply bw_a | apply bw_d | apply bw_n | apply bw_p | apply bw_c | apply bw_r) | go_size))⟩
end

section
set_option linter.unusedVariables false
set_option linter.unusedSimpArgs false
open Go.RowKit Go.Shelf
attribute [local go_sem] Oper.semAt_some
def KeepsF (n0 B1 B2 : Nat) (W W' : World) : Prop := KeepsE n0 B1 W W' ∧ KeepsE n0 B2 W W'
theorem keepsF_t {n0 B1 B2 : Nat} {A B C : World} (h : KeepsF n0 B1 B2 A B) (k : KeepsF n0 B1 B2 B C) : KeepsF n0 B1 B2 A C := ⟨keepsE_t h.1 k.1, keepsE_t h.2 k.2⟩
theorem keepsF_b {n0 B1 B2 : Nat} {w : World} (hn : n0 ≤ w.heap.size) (W : World) (l : Nat) (o o' : Obj) (hl : w.heap.size ≤ l) (h : W.heap[l]? = some o) (hc : o.isCells = false) (hw : o.isWalk = false) : KeepsF n0 B1 B2 W (W.putObj l o') :=
  ⟨keepsE_b hn W l o o' hl h hc hw, keepsE_b hn W l o o' hl h hc hw⟩
def BwAt (w0 : World) (J : List (Fin 6) → World → Prop) (Bc Bn : Nat) (i : Value) (wr : World) : Prop :=
  ∃ pre : List (Fin 6), i = .int .i64 (5 - (pre.length : Int)) ∧ pre.length ≤ 6 ∧ UptoQ pre ∧ J pre wr ∧ Below w0.heap.size w0 wr ∧ Blk wr Bc chks 174 ∧ Blk wr Bn #[.slice (some ⟨Bc, 0, none⟩) 6 6] 172
theorem chk_at {W : World} {Bc : Nat} (h : Blk W Bc chks 174) (j : Nat) (hj : j < 6) : W.cell? ⟨Bc, j, none⟩ = some (chkV j) := by
  rw [h.cell j]
  match j, hj with
  | 0, _ => rfl
  | 1, _ => rfl
  | 2, _ => rfl
  | 3, _ => rfl
  | 4, _ => rfl
  | 5, _ => rfl
set_option maxRecDepth 100000 in
set_option maxHeartbeats 2000000 in
theorem n_rgBack1 (w0 : World) (m l Bc Bn : Nat) (hm : 1 ≤ m) (J Jx : List (Fin 6) → World → Prop)
    (hY : ∀ pre (x : Fin 6) W, J pre W → pre.length < 6 → YieldAt Fence.wide (m - 1) Tryz.prog l #[.int .i64 (5 - (x.val : Int)), chkV (5 - x.val)] W fun e W' => (e = .returned (.bool true) ∧ J (pre ++ [x]) W' ∧ KeepsF w0.heap.size Bc Bn W W') ∨ (e = .returned (.bool false) ∧ Jx (pre ++ [x]) W'))
    (W : World) (hB : Below w0.heap.size w0 W) (hBc : Blk W Bc chks 174) (hBn : Blk W Bn #[.slice (some ⟨Bc, 0, none⟩) 6 6] 172) (h0 : J [] W) :
    CallsIn Fence.wide m Tryz.prog 157 #[.func (.yield l) #[] #[], .pointer (some ⟨Bn, 0, none⟩)] W fun e W' => (∃ v, e = .returned v) ∧ ((∃ xs, (UptoQ xs ∧ xs.length = 6) ∧ J xs W') ∨ (∃ pre, UptoQ pre ∧ Jx pre W')) := by
  refine callsIn_of_wp Tryz.func157 rfl trivial ?_ rfl
  have hcn : W.cell? ⟨Bn, 0, none⟩ = some (.slice (some ⟨Bc, 0, none⟩) 6 6) := hBn.cell 0
  have HBn := Lib.hid hBn
  simp only [Tryz.ntmps157, List.size_toArray, List.length_cons, List.length_nil, Nat.reduceAdd, Nat.reduceSub, Array.replicate_succ, Array.replicate_zero, List.push_toArray, List.append_toArray, List.nil_append, List.cons_append]
  clear hBn
  gi_wp2_with fail
  gi_loopw [3] (fun i wr => BwAt w0 J Bc Bn i wr) (fun i _ => (intOf i + 1).toNat)
  case atStart => exact ⟨[], rfl, by simp, upto_nil, h0, hB, hBc, HBn.out⟩
  case round =>
    obtain ⟨pre, rfl, hl1, hup, hJs, hBr, hBcr, hBnr⟩ := hrel
    by_cases hlt : pre.length < 6
    · obtain ⟨x, hx⟩ : ∃ x : Fin 6, x.val = pre.length := ⟨⟨pre.length, hlt⟩, rfl⟩
      obtain ⟨fn, tmps, assign, body, hy, hR⟩ := hY pre x wr hJs hlt
      have HU := Lib.hid (upto_snoc hup x hx)
      rw [hx] at hy
      clear hx hup hJs hY
      generalize hk : pre.length = k at *
      have HK := Lib.hid hk
      clear hk
      obtain ⟨j, hj⟩ : ∃ j, 5 - k = j := ⟨_, rfl⟩
      have e1 : 5 - (k : Int) = (j : Int) := by omega
      have hj6 : j < 6 := by omega
      have s1 := chk_at hBcr j hj6
      rw [hj, e1] at hy
      rw [e1]
      have hcr : wr.cell? ⟨Bn, 0, none⟩ = some (.slice (some ⟨Bc, 0, none⟩) 6 6) := hBnr.cell 0
      generalize chkV j = c at *
      have i1 : (j : Int) < 6 := by omega
      have HJ := Lib.hid hj
      have HE := Lib.hid e1
      have HBr := Lib.hid hBr
      have HBcr := Lib.hid hBcr
      have HBnr := Lib.hid hBnr
      have hl0 := hBnr.lt
      have hl2 := hBcr.lt
      clear hj e1 hBr hBcr hBnr hBc hB h0
      gi_wp2_with fail
      refine hR.mono ?_
      rintro e W4 (⟨rfl, hJ4, hk4⟩ | ⟨rfl, hJx4⟩)
      · have HRR := Lib.hid (show BwAt w0 J Bc Bn (.int .i64 ((j : Int) - 1)) W4 from ⟨pre ++ [x], by rw [List.length_append, HK.out, ← HE.out]; simp; omega, by rw [List.length_append, HK.out]; exact hlt, HU.out, hJ4, HBr.out.trans hk4.1.1, hk4.1.2 _ _ _ HBcr.out, hk4.2.2 _ _ _ HBnr.out⟩)
        clear hJ4 hk4
        gi_wp2
        go_roundw
        case rel => exact HRR.out
        case measure => simp [intOf]
      · have HU2 := Lib.hid hJx4
        clear hJx4
        gi_wp2
        refine bodyPost_ret (results_none rfl _ _ _) rfl ?_
        exact ⟨⟨_, rfl⟩, .inr ⟨_, HU.out, HU2.out⟩⟩
    · have hn : pre.length = 6 := by omega
      rw [hn]
      clear hY hBr hBcr hBnr
      gi_wp2
      go_end0
      exact ⟨⟨_, rfl⟩, .inl ⟨pre, ⟨hup, hn⟩, hJs⟩⟩
theorem rg_back_stops (w0 : World) (m Bc Bn : Nat) (hm : 1 ≤ m) (w : World) (hB : Below w0.heap.size w0 w) (hBc : Blk w Bc chks 174) (hBn : Blk w Bn #[.slice (some ⟨Bc, 0, none⟩) 6 6] 172) :
    SeqStopsK Fence.wide m Tryz.prog 157 #[.pointer (some ⟨Bn, 0, none⟩)] (fun x : Fin 6 => #[.int .i64 (5 - (x.val : Int)), chkV (5 - x.val)]) (KeepsF w0.heap.size Bc Bn) (fun xs => UptoQ xs ∧ xs.length = 6) UptoQ 6 w := by
  intro l J Jx W hW hJ hJx hY h0
  exact n_rgBack1 w0 m l Bc Bn hm J Jx hY W (hB.trans (hW.mono hB.size)) (hBc.below hW) (hBn.below hW) h0
def ChainL (w W : World) : List (Fin 6) → Value → Prop
  | [], v => v = endV
  | x :: xs, v => ∃ Bc Bn v', v = clo Bc w.heap.size Bn ∧ w.heap.size + 5 ≤ Bc ∧ w.heap.size + 5 ≤ Bn ∧ Blk W Bc #[chkV (5 - x.val)] 174 ∧ Blk W Bn #[v'] 168 ∧ ChainL w W xs v'
theorem ChainL.kept {w X Y : World} (h : ∀ k c t, w.heap.size + 5 ≤ k → Blk X k c t → Blk Y k c t) : ∀ (xs : List (Fin 6)) (v : Value), ChainL w X xs v → ChainL w Y xs v
  | [], _, e => e
  | _ :: xs, _, ⟨Bc, Bn, v', h1, h2, h3, h4, h5, h6⟩ => ⟨Bc, Bn, v', h1, h2, h3, h _ _ _ h2 h4, h _ _ _ h3 h5, ChainL.kept h xs v' h6⟩
def CkI (w : World) (s : Value) (pre : List (Fin 6)) (W : World) : Prop :=
  (∃ v, ChainL w W pre.reverse v ∧ Blk W (w.heap.size + 2) #[v] 168) ∧ Blk W (w.heap.size + 1) #[.int .i64 0, .int .i64 0] 33 ∧ Blk W w.heap.size #[s] 23 ∧ Below w.heap.size w W ∧ w.heap.size + 5 ≤ W.heap.size
theorem ckI_own (w : World) (s : Value) (B : Nat) (hB : w.heap.size ≤ B) : OwnFrom B (CkI w s) := by
  rintro t X Y row ⟨⟨v, h1, h2⟩, h3, h4, h5, h6⟩ hg hr
  have hr' := fun r e => (hr r e).2
  exact ⟨⟨v, ChainL.kept (fun k c t _ h => h.kept hg hr') _ _ h1, h2.kept hg hr'⟩, h3.kept hg hr', h4.kept hg hr', below_grown h5 (by omega) hB hg hr, Nat.le_trans h6 hg.size⟩
end

section
set_option linter.unusedVariables false
set_option linter.unusedSimpArgs false
open Go.RowKit Go.Shelf
attribute [local go_sem] Oper.semAt_some
theorem fin6 {xs : List (Fin 6)} (h : UptoQ xs) (hl : xs.length = 6) : xs.reverse = [5, 4, 3, 2, 1, 0] := by
  have := upto_is h (by omega)
  rw [this]
  have e : ∀ (k : Nat) (hk : k ≤ 6), k = 6 → (upto 6 k hk).reverse = [5, 4, 3, 2, 1, 0] := by
    rintro k hk rfl
    rfl
  exact e _ _ hl
theorem blk_new2 {W : World} {k : Nat} (h : k = W.heap.size) (c : Array Value) (t : TypeId) : Blk (W.alloc (.cells c t)) k c t := by subst h; exact Blk.new W c t
theorem chk_func (j : Nat) : ∃ f, chkV j = .func (.func f) #[] #[] := by
  match j with
  | 0 => exact ⟨_, rfl⟩
  | 1 => exact ⟨_, rfl⟩
  | 2 => exact ⟨_, rfl⟩
  | 3 => exact ⟨_, rfl⟩
  | 4 => exact ⟨_, rfl⟩
  | _ + 5 => exact ⟨_, rfl⟩
theorem chain_func {w W : World} : ∀ {xs : List (Fin 6)} {v : Value}, ChainL w W xs v → ∃ f cp, v = .func (.func f) #[] cp
  | [], _, h => ⟨_, _, h⟩
  | _ :: _, _, ⟨_, _, _, h, _⟩ => ⟨_, _, h⟩
theorem set1_kp {W : World} {n0 k Bn : Nat} (hk : n0 ≤ k) (hs : n0 ≤ W.heap.size) (hne : Bn ≠ k) (u : Value) (o : Obj) : KeepsE n0 Bn W ((W.setCell ⟨k, 0, none⟩ u).alloc o) := by
  have h0 : Below n0 W (W.setCell ⟨k, 0, none⟩ u) := (Below.refl n0 W).setCell (p := ⟨k, 0, none⟩) hk u
  refine ⟨h0.alloc (by have := h0.size; omega) o, fun c t f h => ?_⟩
  have h1 := (Below.heap_setCell W ⟨k, 0, none⟩ u Bn hne).trans h
  exact (((Below.refl _ (W.setCell ⟨k, 0, none⟩ u)).alloc (Nat.le_refl _) o).block Bn (heap_lt h1)).trans h1
theorem chain_next {w W : World} {a : Option Addr} {n ca : Nat} {K : List Pt} (hP : PReads w a n K) (hs : n ≤ 4611686018427387903) (hca : n ≤ ca) (hB : Below w.heap.size w W) (hS : Blk W w.heap.size #[.slice a n ca] 23) {v : Value} (h : ChainL w W [5, 4, 3, 2, 1, 0] v) :
    ∃ Bc Bn, v = clo Bc w.heap.size Bn ∧ Next W Bc w.heap.size Bn (checkF K) := by
  obtain ⟨c1, n1, v1, rfl, _, _, hc1, hn1, c2, n2, v2, rfl, _, _, hc2, hn2, c3, n3, v3, rfl, _, _, hc3, hn3, c4, n4, v4, rfl, _, _, hc4, hn4, c5, n5, v5, rfl, _, _, hc5, hn5, c6, n6, v6, rfl, _, _, hc6, hn6, rfl⟩ := h
  have hl := hP.1
  refine ⟨c1, n1, rfl, ?_⟩
  have e1 : checkF K = if 200 < n then (3, 0) else (if n < 3 then (190, 0) else orFault (firstQ (F0 K) n) 2 (orFault (firstQ (F1 K) n) 191 (orFault (firstQ (F2 K) n) 192 (orFault (firstQ (F3 K) n) 193 (0, 0))))) := by
    rw [← hl]; rfl
  rw [e1]
  have hPW : ∀ W', Below W.heap.size W W' → PReads W' a n K := fun W' hb => (hP.below hB).below hb
  have up : ∀ {p q r : Nat} {s : Int × Nat} {W' : World}, Below W.heap.size W W' → Next W p q r s → Next W' p q r s := fun hb h X hX => h X (hb.trans (hX.mono hb.size))
  refine n_clo0 W c1 w.heap.size n1 a n ca c2 w.heap.size n2 _ hc1 hS hn1 fun W1 hb1 => n_rgLong W1 a n ca c2 w.heap.size n2 _ (up hb1 ?_)
  refine n_clo1 W c2 w.heap.size n2 a n ca c3 w.heap.size n3 _ hc2 hS hn2 fun W1 hb1 => n_rgFew W1 a n ca c3 w.heap.size n3 _ (fun h3 => up hb1 ?_)
  refine n_clo2 W c3 w.heap.size n3 a n ca c4 w.heap.size n4 _ hc3 hS hn3 fun W1 hb1 => n_rgValid W1 a n ca c4 w.heap.size n4 K (hPW _ hb1) hs _ (up hb1 ?_)
  refine n_clo3 W c4 w.heap.size n4 a n ca c5 w.heap.size n5 _ hc4 hS hn4 fun W1 hb1 => n_rgTwice W1 a n ca c5 w.heap.size n5 K (hPW _ hb1) hs hca _ (up hb1 ?_)
  refine n_clo4 W c5 w.heap.size n5 a n ca c6 w.heap.size n6 _ hc5 hS hn5 fun W1 hb1 => n_rgBack W1 a n ca c6 w.heap.size n6 K (hPW _ hb1) hs (by omega) _ (up hb1 ?_)
  exact n_clo5 W c6 w.heap.size n6 a n ca _ hc6 hS hn6 fun W1 hb1 => n_rgMeet W1 a n ca K (hPW _ hb1) hs
set_option maxRecDepth 100000 in
set_option maxHeartbeats 4000000 in
theorem n_rgCheck (w : World) (a : Option Addr) (n ca : Nat) (K : List Pt) (hP : PReads w a n K) (hs : n ≤ 400) (hca : n ≤ ca) :
    Calls Tryz.prog 98 #[.slice a n ca] w fun e w' => e = .returned (fltV (checkF K)) ∧ Junk w w' := by
  obtain ⟨R, hR⟩ : ∃ R, checkF K = R := ⟨_, rfl⟩
  have HCN := Lib.hid (fun W hB hS v h => chain_next (W := W) (v := v) hP (show n ≤ 4611686018427387903 by omega) hca hB hS h)
  rw [hR] at HCN
  rw [hR]
  clear hR
  refine (callsIn_wide (n := 4)).1 ?_
  refine callsIn_of_wp_marks Tryz.func98 rfl trivial ?_ rfl
  have HCk := Lib.hid n_rgChecks
  simp only [Tryz.ntmps98, List.size_toArray, List.length_cons, List.length_nil, Nat.reduceAdd, Nat.reduceSub, Array.replicate_succ, Array.replicate_zero, List.push_toArray, List.append_toArray, List.nil_append, List.cons_append]
  generalize hck : chks = C at HCk
  have HC := Lib.hid hck
  clear hck
  gi_wp2_with (first | (refine ⟨trivial, ?_⟩; gi_at_call 126; refine ((callsIn_wide.2 (HCk.out _))).mono ?_; rintro e w' ⟨rfl, rfl⟩) | (refine ⟨trivial, ?_⟩; gi_at_call 125; refine ((callsIn_wide.2 (n_rgBackward _ _ ⟨_, _, _, rfl⟩))).mono ?_; rintro e w' ⟨rfl, rfl⟩))
  obtain ⟨W0, hW0⟩ : ∃ W0, ((((w.alloc (.cells #[.slice a n ca] 23)).alloc (.cells #[.int .i64 0, .int .i64 0] 33)).alloc (.cells #[.func (.func 124) #[] #[]] 168)).alloc (.cells C 174)).alloc (.cells #[.slice (some ⟨w.heap.size + 1 + 1 + 1, 0, none⟩) 6 6] 172) = W0 := ⟨_, rfl⟩
  have hs0 : W0.heap.size = w.heap.size + 5 := by rw [← hW0]; simp
  have hb0 : Below w.heap.size w W0 := by rw [← hW0]; (repeat' first | with_reducible (first | apply Below.refl | assumption | apply bw_a | apply bw_d | apply bw_n | apply bw_p | apply bw_c | apply bw_r) | go_size)
  have b0 : Blk W0 w.heap.size #[.slice a n ca] 23 := by rw [← hW0]; exact ((((Blk.new w _ _).alloc _).alloc _).alloc _).alloc _
  have b1 : Blk W0 (w.heap.size + 1) #[.int .i64 0, .int .i64 0] 33 := by
    rw [← hW0]
    exact (((blk_new2 (by simp) _ _).alloc _).alloc _).alloc _
  have b2 : Blk W0 (w.heap.size + 2) #[endV] 168 := by
    rw [← hW0]
    exact ((blk_new2 (by simp) _ _).alloc _).alloc _
  have b3 : Blk W0 (w.heap.size + 3) chks 174 := by
    rw [← hW0, HC.out]
    exact (blk_new2 (by simp) _ _).alloc _
  have b4 : Blk W0 (w.heap.size + 4) #[.slice (some ⟨w.heap.size + 3, 0, none⟩) 6 6] 172 := by
    rw [← hW0]
    exact blk_new2 (by simp) _ _
  rw [hW0]
  clear hW0
  refine wpIn_rangeFunc_ownH rfl (by omega) (gf := 157) (lb := #[.pointer (some ⟨w.heap.size + 1 + 1 + 1 + 1, 0, none⟩)]) rfl trivial (enters_of Tryz.func157 (by kernel_rfl) rfl)
    (rg_back_stops w 3 (w.heap.size + 3) (w.heap.size + 4) (by omega) W0 hb0 b3 b4) keepsF_t (keepsF_b (by omega)) (Below.refl _ _) (fun _ => rfl)
    (CkI w (.slice a n ca)) (fun _ _ _ => False) (ckI_own w _ _ (by omega)) (fun _ _ _ _ _ hs _ _ => hs)
    ⟨⟨endV, rfl, b2⟩, b1, b0, hb0, by omega⟩
    (fun x a' W => ∃ Bx, w.heap.size + 5 ≤ Bx ∧ Blk W Bx #[chkV (5 - x.val)] 174 ∧
      a' = { tmps := #[.slice a n ca, .pointer (some ⟨w.heap.size, 0, none⟩), .pointer (some ⟨w.heap.size + 1, 0, none⟩), .pointer (some ⟨w.heap.size + 1 + 1, 0, none⟩), undef, .pointer (some ⟨Bx, 0, none⟩), undef,
        .slice (some ⟨w.heap.size + 1 + 1 + 1, 0, none⟩) 6 6, .func (.func 157) #[] #[.pointer (some ⟨w.heap.size + 1 + 1 + 1 + 1, 0, none⟩)], .int .i64 (5 - (x.val : Int)), chkV (5 - x.val), undef, undef, undef, undef], defers := [] })
    (fun x a' _ X Y row hs hg hr => by obtain ⟨Bx, e1, e2, e3⟩ := hs; exact ⟨Bx, e1, e2.kept hg (fun r e => (hr r e).2), e3⟩)
    ?assign ?body ?done ?stop
  case assign =>
    rintro l pre x W K1 ⟨⟨v, hv, h1⟩, h2, h3, h4, h5⟩ hK
    obtain ⟨f, hf⟩ := chk_func (5 - x.val)
    rw [hf] at hK ⊢
    gi_wp2
    have hb : Below W.heap.size W (W.alloc (.cells #[.func (.func f) #[] #[]] 174)) := (Below.refl _ W).alloc (Nat.le_refl _) _
    exact hK _ _ (keepsFrom_below hb) ⟨keepsE_below (by omega) hb, keepsE_below (by omega) hb⟩ ⟨⟨v, ChainL.kept (fun _ _ _ _ h => h.below hb) _ _ hv, h1.below hb⟩, h2.below hb, h3.below hb, h4.trans (hb.mono (by omega)), Nat.le_trans h5 hb.size⟩ ⟨W.heap.size, h5, Blk.new W _ _, rfl⟩
  case body =>
    rintro l pre x a' W hl ⟨rr, hr⟩ ⟨⟨v, hv, h1⟩, h2, h3, h4, h5⟩ ⟨Bx, hBx, bX, rfl⟩ hlt
    obtain ⟨f, cp, rfl⟩ := chain_func hv
    have c0 : W.cell? ⟨w.heap.size + 1 + 1, 0, none⟩ = some (.func (.func f) #[] cp) := h1.cell 0
    have g0 : W.frozen? ⟨w.heap.size + 1 + 1, 0, none⟩ = false := h1.frozen 0
    have l0 : w.heap.size + 1 + 1 < W.heap.size := h1.lt
    have HI := Lib.hid (And.intro hv (And.intro h1 (And.intro h2 (And.intro h3 (And.intro h4 bX)))))
    clear hv h1 h2 h3 h4 bX hr
    gi_wp2
    obtain ⟨hv, h1, h2, h3, h4, bX⟩ := HI.out
    have hA : ∀ V : Value, Below (W.setCell ⟨w.heap.size + 2, 0, none⟩ V).heap.size (W.setCell ⟨w.heap.size + 2, 0, none⟩ V) ((W.setCell ⟨w.heap.size + 2, 0, none⟩ V).alloc (.cells #[.func (.func f) #[] cp] 168)) := fun V => (Below.refl _ _).alloc (Nat.le_refl _) _
    have hS : ∀ V : Value, (W.setCell ⟨w.heap.size + 2, 0, none⟩ V).heap.size = W.heap.size := fun V => by simp
    refine ⟨((KeepsOthers.setCell W ⟨w.heap.size + 2, 0, none⟩ _).from _).trans (keepsFrom_below (hA _)), ⟨set1_kp (by omega) (by omega) (by omega) _ _, set1_kp (by omega) (by omega) (by omega) _ _⟩, ⟨_, ?_, (h1.set 0 _).below (hA _)⟩, (h2.set_other _ _ _ (by omega)).below (hA _), (h3.set_other _ _ _ (by omega)).below (hA _), h4.trans (set1_kp (Bn := 0) (by omega) (by omega) (by omega) _ _).1, by simp; omega⟩
    rw [List.reverse_append]
    exact ⟨Bx, W.heap.size, _, rfl, hBx, h5, (bX.set_other _ _ _ (by omega)).below (hA _), blk_new2 (by simp) _ _, ChainL.kept (fun k c t hk h => (h.set_other _ _ _ (by omega)).below (hA _)) _ _ hv⟩
  case done =>
    rintro D ys W hD ⟨hup, hyl⟩ ⟨⟨v, hv, h1⟩, h2, h3, h4, h5⟩ hK
    rw [fin6 hup hyl] at hv
    obtain ⟨Bc, Bn, rfl, hN⟩ := HCN.out W h4 h3 _ hv
    have HN := Lib.hid hN
    clear hN
    obtain ⟨s1, s2⟩ := R
    have hrow := h2.row
    have f0 : W.cell? ⟨w.heap.size + 1, 0, none⟩ = some (.int .i64 0) := h2.cell 0
    have f1 : W.cell? ⟨w.heap.size + 1, 1, none⟩ = some (.int .i64 0) := h2.cell 1
    have c0 : W.cell? ⟨w.heap.size + 1 + 1, 0, none⟩ = some (clo Bc w.heap.size Bn) := h1.cell 0
    have l0 : w.heap.size + 1 + 1 < W.heap.size := h1.lt
    have HI := Lib.hid (And.intro h2 (And.intro h4 (And.intro h5 hK)))
    have hfl := h2.lt
    have g0 := h2.frozen 0
    have g1 := h2.frozen 1
    unfold clo at c0
    unfold Next fltV at HN
    simp only at HN
    clear h1 h2 h3 h4 hK hv
    gi_wp2_with (refine ⟨trivial, ?_⟩; gi_at_call 127; refine ((callsIn_wide.2 (HN.out _ (by (repeat' first | with_reducible (first | apply Below.refl | assumption | apply bw_a | apply bw_d | apply bw_n | apply bw_p | apply bw_c | apply bw_r) | go_size))))).mono ?_; rintro e w' ⟨rfl, J3, d3, rfl⟩)
    obtain ⟨h2, h3, h4, hK⟩ := HI.out
    refine ⟨by simp, .inl ⟨_, _, rfl, run_takeDeferred (heap_set2 hK rfl _ _ _ _), ?_⟩⟩
    refine ⟨_, results_flt rfl _ _ (w.heap.size + 1) #[.int .i64 s1, .int .i64 (s2 : Int)] rfl (((h2.set2 _ _ _ _).put (heap_set2 hK rfl _ _ _ _) rfl).row) rfl, rfl, junk_of_below ?_⟩
    exact (h3.trans (set2_below (by omega) (by omega) _ _ _ _)).trans (belowK_b (w := w) (Nat.le_refl _) _ D _ _ (by omega) (heap_set2 hK rfl _ _ _ _) rfl rfl)
  case stop =>
    rintro D c pre W _ _ h _
    exact h.elim
end
end Go.Proofs.YthphdiigjimchaaGreat

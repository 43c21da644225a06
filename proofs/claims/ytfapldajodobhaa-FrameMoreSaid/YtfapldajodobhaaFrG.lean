/- Contract of frame's Scan. -/
import Derived.Test.YtfapldajodobhaaFrE
import Derived.Test.YtfapldajodobhaaFrL
namespace Go.Proofs.Ytfapldajodobhaa
set_option linter.unusedVariables false
set_option linter.unusedSimpArgs false
open Go.RowKit Go.Shelf

attribute [local go_sem] Oper.semAt_some

/-- The last bytes behind. -/
def lastV {w0 : World} (b : Value) : List (Fr w0) → Value
  | [] => b
  | x :: xs => lastV x.v2 xs
theorem lastV_snoc {w0 : World} (x : Fr w0) : ∀ (b : Value) (xs : List (Fr w0)), lastV b (xs ++ [x]) = x.v2
  | _, [] => rfl
  | _, y :: ys => lastV_snoc x y.v2 ys
theorem Chain.last {w0 : World} : ∀ {L M : List UInt8} {xs : List (Fr w0)} {b : Value}, Chain L xs M → SlIn w0 b L → SlIn w0 (lastV b xs) M
  | L, M, [], b, h, hb => by
    obtain rfl : M = L := h
    exact hb
  | L, M, x :: xs, b, h, _ => Chain.last (b := x.v2) h.2 x.h2

/-- What Scan holds between two rounds. -/
def ScanI (w : World) (b : Value) (pre : List (Fr w)) (W : World) : Prop :=
  (∃ v ps, Boxed W w.heap.size 33 v ∧ LOwns W (w.heap.size + 3) v ps ∧ ps.map (·.2) = pre.map Fr.R) ∧ Boxed W (w.heap.size + 1) 22 (lastV b pre) ∧ Below w.heap.size w W ∧ w.heap.size + 3 ≤ W.heap.size

theorem oper_appendIn {F : Fence} {n : Nat} {P : Program} {o : Oper} {a : Act} {w w' : World} {K : Act → World → Prop} {Q : Exit → Act → World → Prop} (s x : Operand) (t : TypeId)
    (ho : o.op = Op.call { callee := Callee.builtin Builtin.append, args := #[s, x], argTypes := #[t, t] }) {v u v' : Value} (hs : a.eval s = v) (hx : a.eval x = u)
    (hrun : (Builtin.append_ #[t, t] o.type #[v, u]).run P w = .ok v' w') (h : K (a.put o.dst v') w') : o.wpIn F n P a w K Q := by
  unfold Oper.wpIn
  refine ⟨?_, ?_⟩
  · simp [Oper.about, ho, resolve, Target.leads, Sem.run_pure]
  · rw [Oper.semAt_plain F _ _ (by rw [ho]; intro c hc'; cases hc')]
    simp [execOp, ho, resolve, invoke, builtin, hs, hx, hrun, Result.andThen]
    exact h
/-- One round: the append, and what the stores leave. -/
theorem scan_append (w : World) (b0 : Value) (pre : List (Fr w)) (x : Fr w) {W w2 : World} {v : Value} {ps : List (Value × List UInt8)} {ac : Option Addr} {nc cc : Nat} {R : List UInt8}
    (h1 : Boxed W w.heap.size 33 v) (h2 : LOwns W (w.heap.size + 3) v ps) (h3 : ps.map (·.2) = pre.map Fr.R) (h4 : Boxed W (w.heap.size + 1) 22 (lastV b0 pre)) (h5 : Below w.heap.size w W) (hlim : ps.length ≤ 1099511627776)
    (hs3 : w.heap.size + 3 ≤ W.heap.size) (hxR : x.R = R) (hW2 : Below W.heap.size W w2) (HF : BFull w2 W.heap.size (.slice ac nc cc) R) (ty : TypeId) (B : Nat) :
    ∃ v' w4, (Builtin.append_ #[33, 33] ty #[v, .slice (some ⟨w2.heap.size, 0, none⟩) 1 1]).run Try.prog (w2.alloc (.cells #[.slice ac nc cc] 22)) = .ok v' w4 ∧
      (∃ g c, v' = .slice (some ⟨g, 0, none⟩) (ps.length + 1) c) ∧
      w4.cell? ⟨w.heap.size, 0, none⟩ = some v ∧ w4.frozen? ⟨w.heap.size, 0, none⟩ = false ∧ (w4.setCell ⟨w.heap.size, 0, none⟩ v').cell? ⟨w.heap.size + 1, 0, none⟩ = some (lastV b0 pre) ∧ (w4.setCell ⟨w.heap.size, 0, none⟩ v').frozen? ⟨w.heap.size + 1, 0, none⟩ = false ∧
      (KeepsFrom B W ((w4.setCell ⟨w.heap.size, 0, none⟩ v').setCell ⟨w.heap.size + 1, 0, none⟩ x.v2) ∧ KeepsT w.heap.size W ((w4.setCell ⟨w.heap.size, 0, none⟩ v').setCell ⟨w.heap.size + 1, 0, none⟩ x.v2) ∧
        ScanI w b0 (pre ++ [x]) ((w4.setCell ⟨w.heap.size, 0, none⟩ v').setCell ⟨w.heap.size + 1, 0, none⟩ x.v2)) := by
  obtain ⟨i0, hi0, hz0, hz1, hz2⟩ := info_sl
  have hb3 : Below W.heap.size W (w2.alloc (.cells #[.slice ac nc cc] 22)) := hW2.alloc hW2.size _
  have hL3 := h2.below hb3
  have hnew : (w2.alloc (.cells #[.slice ac nc cc] 22)).heap[w2.heap.size]? = some (.cells #[.slice ac nc cc] 22 (0, 0)) := World.alloc_heap_new _ _
  obtain ⟨v', w4, hrun, hown, hgrow, _⟩ := run_append_own (P := Try.prog) (w2.alloc (.cells #[.slice ac nc cc] 22)) (w.heap.size + 3) 33 ty 22 i0 (.slice none 0 0) 1 24 Try.underlying33 hi0 hz0 hz1 hz2 rfl (by decide) v ps.length (ps.map (·.1)) hL3.row
    ⟨w2.heap.size, 0, none⟩ 1 1 [.slice ac nc cc] rfl (fun j u hu => by
      cases j with
      | zero => simp at hu; subst hu; exact (show Boxed (w2.alloc (.cells #[.slice ac nc cc] 22)) w2.heap.size 22 (.slice ac nc cc) from hnew).cell
      | succ j => simp at hu) (by intro u hu; simp at hu; subst hu; rfl) (by unfold maxLen; omega) (by omega) (by simp; have := hW2.size; omega)
  have hnr : ∀ k t c f, t ≠ 22 → (w2.alloc (.cells #[.slice ac nc cc] 22)).heap[k]? = some (.cells c t f) → some k ≠ v.ownBlock := fun k t c f ht hk e => by
    obtain ⟨_, c2, hc2⟩ := ownsRow_block hL3.row k e.symm
    rw [hk] at hc2
    injection hc2 with hc2
    injection hc2 with _ e2 _
    exact ht e2
  have hnl : ∀ k, k < w.heap.size + 3 → some k ≠ v.ownBlock := fun k hk e => by
    obtain ⟨hb, _⟩ := ownsRow_block hL3.row k e.symm
    omega
  have h1' : Boxed w4 w.heap.size 33 v := (hgrow.block w.heap.size (by have := hb3.size; have := h1.lt; omega) (hnl w.heap.size (by omega))).trans ((hb3.block _ h1.lt).trans h1)
  have h4' : Boxed w4 (w.heap.size + 1) 22 (lastV b0 pre) := (hgrow.block (w.heap.size + 1) (by have := hb3.size; have := h4.lt; omega) (hnl (w.heap.size + 1) (by omega))).trans ((hb3.block _ h4.lt).trans h4)
  obtain ⟨g, c, hv'⟩ := ownsRow_succ hown
  refine ⟨v', w4, hrun, ⟨g, c, hv'⟩, h1'.cell, h1'.frozen, ?_, ?_, ?_⟩
  · exact (World.cell?_of_block (Below.heap_setCell _ _ _ (w.heap.size + 1) (by show w.heap.size + 1 ≠ w.heap.size; omega))).trans h4'.cell
  · exact (World.frozen?_of_block (Below.heap_setCell _ _ _ (w.heap.size + 1) (by show w.heap.size + 1 ≠ w.heap.size; omega))).trans h4'.frozen
  have h4s : Boxed (w4.setCell ⟨w.heap.size, 0, none⟩ v') (w.heap.size + 1) 22 (lastV b0 pre) := (Below.heap_setCell _ _ _ (w.heap.size + 1) (by show w.heap.size + 1 ≠ w.heap.size; omega)).trans h4'
  have hb4 : Below w.heap.size W w4 := Below.grown (hb3.mono (by omega)) hgrow (by have := hb3.size; omega) (fun k hk => by obtain ⟨hb, _⟩ := ownsRow_block hL3.row k hk; omega)
  have hb5 : Below w.heap.size W (w4.setCell ⟨w.heap.size, 0, none⟩ v') := hb4.setCell (p := ⟨w.heap.size, 0, none⟩) (Nat.le_refl _) v'
  have hBW : Below w.heap.size W ((w4.setCell ⟨w.heap.size, 0, none⟩ v').setCell ⟨w.heap.size + 1, 0, none⟩ x.v2) := hb5.setCell (p := ⟨w.heap.size + 1, 0, none⟩) (Nat.le_add_right _ _) x.v2
  refine ⟨?_, ⟨hBW, ?_⟩, ⟨?_, ?_, h5.trans hBW, Nat.le_trans hs3 hBW.size⟩⟩
  · refine KeepsOthers.from ?_ B
    refine ((KeepsOthers.trans ⟨hb3.size, fun k o hk _ => (hb3.block k (heap_lt hk)).trans hk⟩ (KeepsOthers.of_grownBy hgrow fun j o ej hj => ?_)).trans (KeepsOthers.setCell _ _ _)).trans (KeepsOthers.setCell _ _ _)
    obtain ⟨_, c2, hc2⟩ := ownsRow_block hL3.row j ej
    rw [hj] at hc2
    injection hc2 with hc2
    subst hc2
    rfl
  · intro k c f hk
    have k3 := (hb3.block k (heap_lt hk)).trans hk
    have k4 := (hgrow.block k (heap_lt k3) (hnr k _ _ _ (by decide) k3)).trans k3
    have n1 : k ≠ w.heap.size := fun e => by subst e; rw [show w4.heap[w.heap.size]? = _ from h1'] at k4; injection k4 with k4; injection k4 with _ e2 _; exact absurd e2 (by decide)
    have n2 : k ≠ w.heap.size + 1 := fun e => by subst e; rw [show w4.heap[w.heap.size + 1]? = _ from h4'] at k4; injection k4 with k4; injection k4 with _ e2 _; exact absurd e2 (by decide)
    exact (Below.heap_setCell _ _ _ k n2).trans ((Below.heap_setCell _ _ _ k n1).trans k4)
  · refine ⟨v', ps ++ [(.slice ac nc cc, R)], ?_, ?_, by simp [h3, hxR]⟩
    · exact (Below.heap_setCell _ _ _ w.heap.size (by show w.heap.size ≠ w.heap.size + 1; omega)).trans (h1'.set v')
    · have hK4 : Keeps (w.heap.size + 3) 5 (w2.alloc (.cells #[.slice ac nc cc] 22)) w4 := keeps_grown hgrow _ _ fun r c e _ hc => (hnr r _ _ _ (by decide) hc) e.symm
      have hu : BFull (w2.alloc (.cells #[.slice ac nc cc] 22)) (w.heap.size + 3) (.slice ac nc cc) R := (HF.keeps (keeps_below ((Below.refl _ w2).alloc (Nat.le_refl _) _) _ _)).base hs3
      have := LOwns.snoc hL3 hu (fun p hp k hk e => by
        have hA := ((h2.each p hp).block k hk).2.1
        have hBk := (HF.block k e).1
        omega) hown hK4
      exact (this.keeps (keeps_set _ (by omega)) (keeps_set _ (by omega))).keeps (keeps_set _ (by omega)) (keeps_set _ (by omega))
  · rw [lastV_snoc]
    exact h4s.set x.v2

theorem scanI_own (w : World) (b : Value) (B : Nat) (hB : w.heap.size ≤ B) : OwnFrom B (ScanI w b) := by
  rintro s X Y row ⟨⟨v, ps, h1, h2, h3⟩, h4, h5, h6⟩ hg hr
  have hnc : ∀ r c t f, row = some r → X.heap[r]? = some (.cells c t f) → False := fun r c t f e hc => by
    obtain ⟨_, o, ho, hn⟩ := hr r e
    rw [hc] at ho
    injection ho with ho
    subst ho
    cases hn
  refine ⟨⟨v, ps, h1.kept hg (fun e => hnc _ _ _ _ e.symm h1), h2.keeps (keeps_grown hg _ _ fun r c e _ hc => hnc r c _ _ e hc) (keeps_grown hg _ _ fun r c e _ hc => hnc r c _ _ e hc), h3⟩, h4.kept hg (fun e => hnc _ _ _ _ e.symm h4), h5.grown hg h5.size (fun k hk => Nat.le_trans hB (hr k hk).1), Nat.le_trans h6 hg.size⟩

def ScanRes (w : World) (L : List UInt8) (e : Ending) (w' : World) : Prop :=
  (∃ v ps, e = .returned (.tuple #[v, .int .i64 ((L.length - (scanF L).2.length : Nat) : Int), .int .i64 ((stateF (scanF L).2 : Nat) : Int)]) ∧ ps.map (·.2) = (scanF L).1 ∧ LOwns w' (w.heap.size + 3) v ps) ∧ Junk w w'

set_option maxRecDepth 100000 in
set_option maxHeartbeats 4000000 in
theorem n_Scan (w : World) (a : Option Addr) (len cap : Nat) (L : List UInt8) (h : BIn w a len L cap) : Calls Try.prog 20 #[.slice a len cap] w (ScanRes w L) := by
  refine (callsIn_wide (n := 4)).1 ?_
  refine callsIn_of_wp_marks Try.func20 rfl trivial ?_ rfl
  simp only [Try.ntmps20, List.size_toArray, List.length_cons, List.length_nil, Nat.reduceAdd, Nat.reduceSub, Array.replicate_succ, Array.replicate_zero, List.push_toArray, List.append_toArray, List.nil_append, List.cons_append]
  gi_wp2_with (refine ⟨trivial, ?_⟩; gi_at_call 31; refine ((callsIn_wide.2 (n_frames _ _ _ _))).mono ?_; rintro e w' ⟨rfl, rfl⟩)
  obtain ⟨W0, hW0⟩ : ∃ W0, ((w.alloc (.cells #[.slice none 0 0] 33)).alloc (.cells #[.slice a len cap] 22)).alloc (.cells #[.slice a len cap] 22) = W0 := ⟨_, rfl⟩
  have hs0 : W0.heap.size = w.heap.size + 3 := by rw [← hW0]; simp
  have hb0 : Below w.heap.size w W0 := by rw [← hW0]; exact (((Below.refl _ w).alloc (Nat.le_refl _) _).alloc (by simp) _).alloc (by simp; omega) _
  have hc0 : W0.cell? ⟨w.heap.size + 2, 0, none⟩ = some (.slice a len cap) := by rw [← hW0]; simp [go_sem]
  have hB5 : Boxed W0 w.heap.size 33 (.slice none 0 0) := by rw [← hW0]; exact ((Boxed.new w _ _).alloc _).alloc _
  have hB6 : Boxed W0 (w.heap.size + 1) 22 (.slice a len cap) := by
    rw [← hW0]
    have := (Boxed.new (w.alloc (.cells #[.slice none 0 0] 33)) 22 (.slice a len cap)).alloc (.cells #[.slice a len cap] 22)
    rwa [World.size_alloc] at this
  rw [hW0]
  clear hW0
  have hlim0 : ∀ (ps : List (Value × List UInt8)) (pre : List (Fr w)), ps.map (·.2) = pre.map Fr.R → pre.length < L.length + 1 → ps.length ≤ 1099511627776 := fun ps pre h1 h2 => by
    have := congrArg List.length h1
    have hL := h.reads.1
    have hs := h.small
    simp at this
    omega
  refine wpIn_rangeFunc_ownG rfl (by omega) (gf := 36) (lb := #[.pointer (some ⟨w.heap.size + 2, 0, none⟩)]) rfl trivial (enters_of Try.func36 (by kernel_rfl) rfl)
    (iter_stops w a len cap L h 3 (w.heap.size + 2) (by omega) W0 hb0 hc0) keepsT_t (keepsT_b (by omega)) (Below.refl _ _) (fun _ => rfl)
    (ScanI w (.slice a len cap)) (fun _ _ _ => False) (scanI_own w _ _ (by omega)) (fun _ _ _ _ _ hs _ _ => hs)
    ⟨⟨_, [], hB5, lowns_nil _ _, rfl⟩, hB6, hb0, by omega⟩
    (fun x => { tmps := #[Value.slice a len cap, undef, Value.slice none 0 0, Value.int IntKind.i64 0, Value.int IntKind.i64 0,
          Value.pointer (some ⟨w.heap.size, 0, none⟩), Value.pointer (some ⟨w.heap.size + 1, 0, none⟩), x.v1, x.v2, Value.slice a len cap,
          Value.slice a len cap, Value.func (Fn.func 36) #[] #[Value.pointer (some ⟨w.heap.size + 1 + 1, 0, none⟩)], x.v1, x.v2,
          undef, undef, undef, undef, undef, undef, undef, undef, undef, undef, undef, undef, undef, undef], defers := [] }) ?assign ?body ?done ?stop
  case assign =>
    intro l x W K hK
    gi_wp2
    exact hK
  case body =>
    rintro l pre ⟨v1, v2, R, T, ⟨a1, n1, c1, rfl, hb1⟩, ⟨a2, n2, c2, rfl, hb2⟩⟩ W ⟨⟨v, ps, h1, h2, h3⟩, h4, h5, hs3⟩ hlen
    obtain ⟨x, hx⟩ : ∃ x : Fr w, x = ⟨.slice a1 n1 c1, .slice a2 n2 c2, R, T, ⟨a1, n1, c1, rfl, hb1⟩, ⟨a2, n2, c2, rfl, hb2⟩⟩ := ⟨_, rfl⟩
    rw [← hx]
    have hxR : x.R = R := by rw [hx]
    have hx2 : x.v2 = .slice a2 n2 c2 := by rw [hx]
    have hx1 : x.v1 = .slice a1 n1 c1 := by rw [hx]
    have HX := Lib.hid hxR
    clear hx hxR
    have hcell5 := h1.cell
    have hfz5 := h1.frozen
    have hB1 := hb1.below h5
    have HCl := Lib.hid (fun w' (hB : BIn w' a1 n1 R c1) => n_Clone w' a1 n1 c1 R hB)
    try dsimp only
    rw [hx1, hx2]
    gi_wp2_with fail
    have hmx : Try.prog.follows .mixedOrders = true := by kernel_rfl
    refine wpIn_region_any hmx ?_
    try (change wpAnyIn _ _ _ _ _ _ _ _ _ (World.drew _))
    have hlim : ps.length ≤ 1099511627776 := hlim0 ps pre h3 hlen
    refine wpAnyIn_ready (rs := [0, 1]) (by kernel_rfl) (by simp) ?_
    refine AllReadyIn.cons rfl (fun K hK => ?_) (AllReadyIn.cons rfl (fun K hK => ?_) AllReadyIn.nil)
    · go_simp
      refine hK _ _ ?_
      clear hK K
      refine wpAnyIn_ready (rs := [1]) (by kernel_rfl) (by simp) ?_
      refine AllReadyIn.cons rfl (fun K hK => ?_) AllReadyIn.nil
      go_simp
      refine hK _ _ ?_
      clear hK K
      refine wpAnyIn_ready (rs := [2]) (by kernel_rfl) (by simp) ?_
      refine AllReadyIn.cons rfl (fun K hK => ?_) AllReadyIn.nil
      go_simp
      refine ⟨trivial, ?_⟩
      refine (CallsIn.inRound l (callsIn_wide.2 (HCl.out W.drew (hB1.below ((Below.refl W.heap.size W).drew))))).mono ?_
      rintro e w2 ⟨vc, rfl, hco, hca, hcb⟩
      have hW2 : Below W.heap.size W w2 := ((Below.refl W.heap.size W).drew).trans hcb
      obtain ⟨ac, cc, rfl, hcr, hcn⟩ := breads_of_owns hco
      have hcell2 : w2.cell? ⟨w.heap.size, 0, none⟩ = some v := (World.cell?_of_block (hW2.block _ h1.lt)).trans hcell5
      have hlt2 : w.heap.size < w2.heap.size := by have := hW2.size; omega
      have HF := Lib.hid (show BFull w2 W.heap.size (.slice ac R.length cc) R from ⟨hco, hca⟩)
      clear hco hca hcr hcn hcb
      refine hK _ _ ?_
      clear hK K
      refine wpAnyIn_ready (rs := [3]) (by kernel_rfl) (by simp) ?_
      refine AllReadyIn.cons rfl (fun K hK => ?_) AllReadyIn.nil
      go_simp
      refine hK _ _ ?_
      clear hK K
      refine wpAnyIn_ready (rs := [4]) (by kernel_rfl) (by simp) ?_
      refine AllReadyIn.cons rfl (fun K hK => ?_) AllReadyIn.nil
      obtain ⟨v', w4, hrun, ⟨g', c', rfl⟩, hcell4, hfz4, hcell6, hfz6, hfin⟩ := scan_append w (.slice a len cap) pre x h1 h2 h3 h4 h5 hlim hs3 HX.out hW2 HF.out 33 W0.heap.size
      rw [hx2] at hfin
      have HFin := Lib.hid hfin
      clear hfin
      refine oper_appendIn _ _ _ rfl rfl rfl hrun ?_
      refine hK _ _ ?_
      clear hK K hrun
      refine wpAnyIn_ready (rs := [5]) (by kernel_rfl) (by simp) ?_
      refine AllReadyIn.cons rfl (fun K hK => ?_) AllReadyIn.nil
      go_simp
      refine hK _ _ ?_
      clear hK K
      refine wpAnyIn_done (by kernel_rfl) ?_ _
      gi_wp2
      exact HFin.out
    · go_simp
      refine hK _ _ ?_
      clear hK K
      refine wpAnyIn_ready (rs := [0, 2]) (by kernel_rfl) (by simp) ?_
      refine AllReadyIn.cons rfl (fun K hK => ?_) (AllReadyIn.cons rfl (fun K hK => ?_) AllReadyIn.nil)
      · go_simp
        refine hK _ _ ?_
        clear hK K
        refine wpAnyIn_ready (rs := [2]) (by kernel_rfl) (by simp) ?_
        refine AllReadyIn.cons rfl (fun K hK => ?_) AllReadyIn.nil
        go_simp
        refine ⟨trivial, ?_⟩
        refine (CallsIn.inRound l (callsIn_wide.2 (HCl.out W.drew (hB1.below ((Below.refl W.heap.size W).drew))))).mono ?_
        rintro e w2 ⟨vc, rfl, hco, hca, hcb⟩
        have hW2 : Below W.heap.size W w2 := ((Below.refl W.heap.size W).drew).trans hcb
        obtain ⟨ac, cc, rfl, hcr, hcn⟩ := breads_of_owns hco
        have hcell2 : w2.cell? ⟨w.heap.size, 0, none⟩ = some v := (World.cell?_of_block (hW2.block _ h1.lt)).trans hcell5
        have hlt2 : w.heap.size < w2.heap.size := by have := hW2.size; omega
        have HF := Lib.hid (show BFull w2 W.heap.size (.slice ac R.length cc) R from ⟨hco, hca⟩)
        clear hco hca hcr hcn hcb
        refine hK _ _ ?_
        clear hK K
        refine wpAnyIn_ready (rs := [3]) (by kernel_rfl) (by simp) ?_
        refine AllReadyIn.cons rfl (fun K hK => ?_) AllReadyIn.nil
        go_simp
        refine hK _ _ ?_
        clear hK K
        refine wpAnyIn_ready (rs := [4]) (by kernel_rfl) (by simp) ?_
        refine AllReadyIn.cons rfl (fun K hK => ?_) AllReadyIn.nil
        obtain ⟨v', w4, hrun, ⟨g', c', rfl⟩, hcell4, hfz4, hcell6, hfz6, hfin⟩ := scan_append w (.slice a len cap) pre x h1 h2 h3 h4 h5 hlim hs3 HX.out hW2 HF.out 33 W0.heap.size
        rw [hx2] at hfin
        have HFin := Lib.hid hfin
        clear hfin
        refine oper_appendIn _ _ _ rfl rfl rfl hrun ?_
        refine hK _ _ ?_
        clear hK K hrun
        refine wpAnyIn_ready (rs := [5]) (by kernel_rfl) (by simp) ?_
        refine AllReadyIn.cons rfl (fun K hK => ?_) AllReadyIn.nil
        go_simp
        refine hK _ _ ?_
        clear hK K
        refine wpAnyIn_done (by kernel_rfl) ?_ _
        gi_wp2
        exact HFin.out
      · go_simp
        refine ⟨trivial, ?_⟩
        refine (CallsIn.inRound l (callsIn_wide.2 (HCl.out W.drew (hB1.below ((Below.refl W.heap.size W).drew))))).mono ?_
        rintro e w2 ⟨vc, rfl, hco, hca, hcb⟩
        have hW2 : Below W.heap.size W w2 := ((Below.refl W.heap.size W).drew).trans hcb
        obtain ⟨ac, cc, rfl, hcr, hcn⟩ := breads_of_owns hco
        have hcell2 : w2.cell? ⟨w.heap.size, 0, none⟩ = some v := (World.cell?_of_block (hW2.block _ h1.lt)).trans hcell5
        have hlt2 : w.heap.size < w2.heap.size := by have := hW2.size; omega
        have HF := Lib.hid (show BFull w2 W.heap.size (.slice ac R.length cc) R from ⟨hco, hca⟩)
        clear hco hca hcr hcn hcb
        refine hK _ _ ?_
        clear hK K
        refine wpAnyIn_ready (rs := [0, 3]) (by kernel_rfl) (by simp) ?_
        refine AllReadyIn.cons rfl (fun K hK => ?_) (AllReadyIn.cons rfl (fun K hK => ?_) AllReadyIn.nil)
        · go_simp
          refine hK _ _ ?_
          clear hK K
          refine wpAnyIn_ready (rs := [3]) (by kernel_rfl) (by simp) ?_
          refine AllReadyIn.cons rfl (fun K hK => ?_) AllReadyIn.nil
          go_simp
          refine hK _ _ ?_
          clear hK K
          refine wpAnyIn_ready (rs := [4]) (by kernel_rfl) (by simp) ?_
          refine AllReadyIn.cons rfl (fun K hK => ?_) AllReadyIn.nil
          obtain ⟨v', w4, hrun, ⟨g', c', rfl⟩, hcell4, hfz4, hcell6, hfz6, hfin⟩ := scan_append w (.slice a len cap) pre x h1 h2 h3 h4 h5 hlim hs3 HX.out hW2 HF.out 33 W0.heap.size
          rw [hx2] at hfin
          have HFin := Lib.hid hfin
          clear hfin
          refine oper_appendIn _ _ _ rfl rfl rfl hrun ?_
          refine hK _ _ ?_
          clear hK K hrun
          refine wpAnyIn_ready (rs := [5]) (by kernel_rfl) (by simp) ?_
          refine AllReadyIn.cons rfl (fun K hK => ?_) AllReadyIn.nil
          go_simp
          refine hK _ _ ?_
          clear hK K
          refine wpAnyIn_done (by kernel_rfl) ?_ _
          gi_wp2
          exact HFin.out
        · go_simp
          refine hK _ _ ?_
          clear hK K
          refine wpAnyIn_ready (rs := [0]) (by kernel_rfl) (by simp) ?_
          refine AllReadyIn.cons rfl (fun K hK => ?_) AllReadyIn.nil
          go_simp
          refine hK _ _ ?_
          clear hK K
          refine wpAnyIn_ready (rs := [4]) (by kernel_rfl) (by simp) ?_
          refine AllReadyIn.cons rfl (fun K hK => ?_) AllReadyIn.nil
          obtain ⟨v', w4, hrun, ⟨g', c', rfl⟩, hcell4, hfz4, hcell6, hfz6, hfin⟩ := scan_append w (.slice a len cap) pre x h1 h2 h3 h4 h5 hlim hs3 HX.out hW2 HF.out 33 W0.heap.size
          rw [hx2] at hfin
          have HFin := Lib.hid hfin
          clear hfin
          refine oper_appendIn _ _ _ rfl rfl rfl hrun ?_
          refine hK _ _ ?_
          clear hK K hrun
          refine wpAnyIn_ready (rs := [5]) (by kernel_rfl) (by simp) ?_
          refine AllReadyIn.cons rfl (fun K hK => ?_) AllReadyIn.nil
          go_simp
          refine hK _ _ ?_
          clear hK K
          refine wpAnyIn_done (by kernel_rfl) ?_ _
          gi_wp2
          exact HFin.out
  case done =>
    rintro D ys W hD ⟨M, hch, hsp⟩ ⟨⟨v, ps, h1, h2, h3⟩, h4, h5, hs3⟩ hK
    obtain ⟨aM, nM, cM, eM, hBM⟩ := hch.last (b := .slice a len cap) ⟨a, len, cap, rfl, h⟩
    rw [eM] at h4
    have hscan := hch.scan hsp
    have hcell5 := h1.cell
    have hcell6 := h4.cell
    have hlt5 := h1.lt
    have hlt6 := h4.lt
    have hLl := h.reads.1
    have hMl := hBM.reads.1
    have hSt := Lib.hid (show ∀ w1, Cls W w1 → Calls Try.prog 33 #[.slice aM nM cM] w1 fun e w'' => e = .returned (.int .i64 ((stateF M : Nat) : Int)) ∧ Cls W w'' by
      rintro w1 ⟨J, d, rfl⟩
      exact (n_stateOf _ aM nM cM M (hBM.below (h5.trans ((Junk.below ⟨J, d, rfl⟩).mono (by omega))))).mono fun _ _ ⟨h1, J2, d2, h2⟩ => ⟨h1, J ++ J2, d2, by rw [h2, plus_plus]⟩)
    have hsmall := h.small
    have hML := hch.few
    gi_wp2_with fail
    refine wpIn_wide.2 ?_
    refine wp_rq6 (C := Cls W) (by kernel_rfl) (by kernel_rfl) ⟨#[], W.drawn + 1, rfl⟩ ?_
    have e1 : IntKind.i64.wrap ((len : Int) - (nM : Int)) = ((len - nM : Nat) : Int) := by simp [IntKind.wrap, IntKind.signed, IntKind.bits]; omega
    repeat (refine wpQuiet_step (fun K hK => ?_); go_simp; first | (refine hK _ ?_; clear hK K) | (apply Exists.intro; refine ⟨?_, hK _ ?_⟩; (intro w3_ hw3_; first | (with_reducible exact rfl) | (go_simp; with_reducible exact rfl) | (with_reducible exact hSt.out _ hw3_) | (obtain ⟨J3_, d3_, rfl⟩ := hw3_; go_simp; with_reducible exact rfl) | (obtain ⟨J3_, d3_, rfl⟩ := hw3_; go_simp; with_reducible exact ⟨rfl, _, _, rfl⟩)); clear hK K))
    refine wpQuiet_nil ?_
    intro w3 hw3
    obtain ⟨J3, d3', rfl⟩ := hw3
    gi_wp2
    have hK2 : (W.plus J3 d3').heap[D]? = some (.deferred (some [])) := (heap_plus W J3 d3' D (heap_lt hK)).trans hK
    refine ⟨by simp, .inl ⟨_, _, rfl, run_takeDeferred hK2, ?_⟩⟩
    have hbW : Below W.heap.size W (W.plus J3 d3') := Junk.below ⟨J3, d3', rfl⟩
    have hkp : ∀ t, Keeps (w.heap.size + 3) t (W.plus J3 d3') ((W.plus J3 d3').putObj D (.deferred none)) := fun t => keeps_grown (grownBy_putObj' _ D _) _ _ fun r c e _ hc => by
      injection e with e
      subst e
      rw [hK2] at hc
      injection hc with hc
      cases hc
    refine ⟨_, results_tmp3 rfl _ _ _, ⟨v, ps, ?_, ?_, (h2.below hbW).keeps (hkp _) (hkp _)⟩, junk_of_below ?_⟩
    · rw [hscan, hMl, hLl]; rfl
    · rw [hscan]; exact h3
    · have hb9 : Below w.heap.size w (W.plus J3 d3') := h5.trans (hbW.mono (by omega))
      exact hb9.trans (belowK_b (w := w) (Nat.le_refl _) _ D _ _ (by omega) hK2 rfl rfl)
  case stop =>
    rintro D c pre W _ _ h _
    exact h.elim
end Go.Proofs.Ytfapldajodobhaa

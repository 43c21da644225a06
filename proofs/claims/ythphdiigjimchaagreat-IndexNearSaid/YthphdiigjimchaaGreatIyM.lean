/- The law IndexNear: a list of regions is copied, two of it and two places are exchanged. -/
import Derived.Test.YthphdiigjimchaaGreatIxLaw
import Derived.Test.YthphdiigjimchaaGreatBnLaw
namespace Go.Proofs.YthphdiigjimchaaGreat
set_option linter.unusedVariables false
set_option linter.unusedSimpArgs false
open Go.RowKit Go.Joins
theorem reg_empty (w : World) : (w.alloc (.cells #[] 28)).ownsRow w.heap.size 28 1 (.slice (some ⟨w.heap.size, 0, none⟩) 0 0) 0 [] :=
  ⟨rfl, .inr ⟨w.heap.size, 0, #[], rfl, Nat.le_refl _, World.alloc_heap_new _ _, Nat.le_refl _, Nat.zero_le _, rfl, rfl⟩⟩
theorem lrc_vals {w : World} {a : Option Addr} {n ca : Nat} {L : List (List (List Pt))} (h : LRC w a n ca L) : ∃ vs : List Value, vs.length = n ∧ (∀ i, i < n → ∃ x m c, vs[i]? = some (.slice x m c) ∧ GRC w x m c (L.getD i [])) ∧ (n = 0 ∨ ∃ b o, a = some ⟨b, o, none⟩ ∧ ∀ i, i < n → w.cell? ⟨b, o + i, none⟩ = vs[i]?) := by
  rcases h.cells with h0 | ⟨b, o, e, hc⟩
  · subst h0
    exact ⟨[], rfl, fun i hi => by omega, .inl rfl⟩
  · refine ⟨(List.range n).map fun i => (w.cell? ⟨b, o + i, none⟩).getD undef, by simp, fun i hi => ?_, .inr ⟨b, o, e, fun i hi => ?_⟩⟩
    · obtain ⟨x, m, c, e1, e2⟩ := hc i hi
      exact ⟨x, m, c, by rw [List.getElem?_map, List.getElem?_range hi, Option.map_some, e1]; rfl, e2⟩
    · obtain ⟨x, m, c, e1, e2⟩ := hc i hi
      rw [List.getElem?_map, List.getElem?_range hi, Option.map_some, e1]; rfl
set_option maxRecDepth 100000 in
theorem wpList_lcopy {ops : Array Oper} {rest : List Oper} {o : Oper} {a : Act} {w : World} {Q : Exit → Act → World → Prop} (hgd : o.guard = none) (s x : Operand)
    (ho : o.op = .call { callee := .builtin .append, args := #[s, x], argTypes := #[22, 22] }) (hs : a.eval s = .slice (some ⟨w.heap.size, 0, none⟩) 0 0)
    (A : Option Addr) (len cap : Nat) (L : List (List (List Pt))) (hx : a.eval x = .slice A len cap) (hr : LRC w A len cap L) (hm : len ≤ 100000)
    (h : ∀ v' w' vs, w'.ownsRow w.heap.size 28 1 v' len vs → vs.length = len → (∀ i, i < len → ∃ x m c, vs[i]? = some (.slice x m c) ∧ GRC w x m c (L.getD i [])) → Below w.heap.size w w' → wpList Tryz.prog ops Q rest (a.put o.dst v') w') : wpList Tryz.prog ops Q (o :: rest) a (w.alloc (.cells #[] 28)) := by
  obtain ⟨i0, hi0, hz0, hz1, hz2⟩ := info_reg
  have hb0 : Below w.heap.size w (w.alloc (.cells #[] 28)) := (Below.refl _ _).alloc (Nat.le_refl _) _
  obtain ⟨vs, hv1, hv2, hv3⟩ := lrc_vals hr
  rcases A with _ | ad
  · have h0 : cap = 0 := hr.ok.nil rfl
    have h1 := hr.ok.le
    obtain rfl : len = 0 := by omega
    subst h0
    obtain rfl : vs = [] := List.eq_nil_of_length_eq_zero hv1
    refine wpList_append_own_none hgd s x _ ho w.heap.size 28 i0 1 Tryz.underlying22 hi0 _ 0 [] hs (reg_empty w) hx ?_
    exact h _ _ [] (reg_empty w) rfl hv2 hb0
  · refine wpList_append_own _ hgd s x _ ho w.heap.size 28 i0 _ 1 24 Tryz.underlying22 hi0 hz0 hz1 hz2 rfl (by decide) _ 0 [] hs (reg_empty w) ad len cap vs hx
      (by rw [hv1, Nat.mul_one]) (fun j y hy => ?_) (fun y hy => ?_) (by simp only [maxLen]; omega) (by omega) (by simp) ?_
    · have hj : j < len := by rw [← hv1]; exact (List.getElem?_eq_some_iff.1 hy).1
      rcases hv3 with h0 | ⟨b, o', e, hc⟩
      · omega
      · injection e with e
        subst e
        have ha : (⟨b, o', none⟩ : Addr).add j = ⟨b, o' + j, none⟩ := by unfold Addr.add; split <;> simp_all
        have := hc j hj
        rw [hy] at this
        rw [ha, hb0.cell (World.block_lt_of_cell? _ _ this)]
        exact this
    · obtain ⟨j, hj, e⟩ := List.mem_iff_getElem.1 hy
      obtain ⟨x', m', c', e1, _⟩ := hv2 j (by omega)
      rw [List.getElem?_eq_getElem hj, e] at e1
      injection e1 with e1
      rw [e1]; rfl
    · intro v' w' hown hg _
      rw [Nat.zero_add, List.nil_append] at hown
      exact h _ _ vs hown hv1 hv2 (hb0.grown hg (by simp) (by intro k hk; simp [Value.ownBlock] at hk; omega))
def HoldsA (w : World) (g n : Nat) (f : Nat → Value) (A : List Nat) : Prop := ∀ k, k < n → w.cell? ⟨g, k, none⟩ = some (f (A.getD k 0))
theorem HoldsA.turn {w : World} {g n a b : Nat} {f : Nat → Value} {A : List Nat} (h : HoldsA w g n f A) (hA : A.length = n) (ha : a < n) (hb : b < n) :
    HoldsA ((w.setCell ⟨g, a, none⟩ (f (A.getD b 0))).setCell ⟨g, b, none⟩ (f (A.getD a 0))) g n f (swapL A a b) := fun k hk => by
  have hs := tswap_get (A := A) (a := a) (b := b) (k := k) (by omega) (by omega) (by omega)
  rw [hs]
  have ne : ∀ i j : Nat, i ≠ j → (⟨g, i, none⟩ : Addr) ≠ ⟨g, j, none⟩ := fun i j hij e => by injection e with _ e _; exact hij e
  have cb : (w.setCell ⟨g, a, none⟩ (f (A.getD b 0))).cell? ⟨g, k, none⟩ = some (f (if k = a then A.getD b 0 else A.getD k 0)) := by
    by_cases e : k = a
    · subst e
      rw [if_pos rfl]
      exact World.cell?_setCell_same _ _ _ (h k hk)
    · rw [if_neg e, World.cell?_setCell_other _ _ _ _ (ne _ _ (fun q => e q.symm))]
      exact h k hk
  by_cases e : k = b
  · subst e
    rw [if_pos rfl]
    exact World.cell?_setCell_same _ _ _ cb
  · rw [if_neg e]
    exact (World.cell?_setCell_other _ _ _ _ (ne _ _ (fun q => e q.symm))).trans cb
theorem HoldsA.keep {w w' : World} {g n : Nat} {f : Nat → Value} {A : List Nat} (h : HoldsA w g n f A) (hk : w'.heap[g]? = w.heap[g]?) : HoldsA w' g n f A := fun k hn => (World.cell?_of_block (a := ⟨g, k, none⟩) hk).trans (h k hn)
def plV (i : Nat) : Value := .int .i64 (i : Int)
def rgV (vs : List Value) (i : Nat) : Value := vs.getD i (.slice none 0 0)
structure TuX (W : World) (gm ga n : Nat) (vs : List Value) (A : List Nat) (wr : World) : Prop where
  pm : A.Perm (List.range n)
  bx : HoldsA wr gm n (rgV vs) A
  ax : HoldsA wr ga n plV A
  fm : ∀ j, 0 < n → wr.frozen? ⟨gm, j, none⟩ = false
  fa : ∀ j, 0 < n → wr.frozen? ⟨ga, j, none⟩ = false
  lm : 0 < n → gm < wr.heap.size ∧ ga < wr.heap.size
  kp : Kept2 gm ga W wr
def TuXB (W : World) (gm ga n tn : Nat) (vs : List Value) (x : Value) (wr : World) : Prop := ∃ (i : Nat) (A : List Nat), x = .int .i64 (i : Int) ∧ i ≤ tn ∧ TuX W gm ga n vs A wr
theorem TuX.len {W wr : World} {gm ga n : Nat} {vs : List Value} {A : List Nat} (h : TuX W gm ga n vs A wr) : A.length = n := by rw [h.pm.length_eq, List.length_range]
theorem TuX.keep {W wr w' : World} {gm ga n : Nat} {vs : List Value} {A : List Nat} (h : TuX W gm ga n vs A wr) (hb : Below wr.heap.size wr w') : TuX W gm ga n vs A w' := by
  refine ⟨h.pm, fun k hk => ?_, fun k hk => ?_, fun j h0 => (frozen_of_block (hb.block _ (h.lm h0).1)).trans (h.fm j h0), fun j h0 => (frozen_of_block (hb.block _ (h.lm h0).2)).trans (h.fa j h0),
    fun h0 => ⟨Nat.lt_of_lt_of_le (h.lm h0).1 hb.size, Nat.lt_of_lt_of_le (h.lm h0).2 hb.size⟩, h.kp.trans (Kept2.of_below hb)⟩
  · exact (World.cell?_of_block (a := ⟨gm, k, none⟩) (hb.block _ (h.lm (by omega)).1)).trans (h.bx k hk)
  · exact (World.cell?_of_block (a := ⟨ga, k, none⟩) (hb.block _ (h.lm (by omega)).2)).trans (h.ax k hk)
abbrev exX (w : World) (gm ga a b : Nat) (x y p q : Value) : World := (((w.setCell ⟨gm, a, none⟩ y).setCell ⟨gm, b, none⟩ x).setCell ⟨ga, a, none⟩ q).setCell ⟨ga, b, none⟩ p
theorem TuX.turn {W wr : World} {gm ga n a b : Nat} {vs : List Value} {A : List Nat} (h : TuX W gm ga n vs A wr) (ha : a < n) (hb : b < n) (hne : gm ≠ ga) :
    TuX W gm ga n vs (swapL A a b) (exX wr gm ga a b (rgV vs (A.getD a 0)) (rgV vs (A.getD b 0)) (plV (A.getD a 0)) (plV (A.getD b 0))) := by
  have hA := h.len
  have o1 : ∀ (v : World) (k : Nat) (u : Value), (v.setCell ⟨ga, k, none⟩ u).heap[gm]? = v.heap[gm]? := fun v k u => Below.heap_setCell _ _ _ gm hne
  have o2 : ∀ (v : World) (k : Nat) (u : Value), (v.setCell ⟨gm, k, none⟩ u).heap[ga]? = v.heap[ga]? := fun v k u => Below.heap_setCell _ _ _ ga hne.symm
  refine ⟨(tswap_perm (by omega) (by omega)).trans h.pm, ?_, ?_, fun j h0 => ?_, fun j h0 => ?_, fun h0 => ?_, h.kp.trans ⟨?_, fun k hk h1 h2 => ?_⟩⟩
  · exact (h.bx.turn hA ha hb).keep ((o1 _ _ _).trans (o1 _ _ _))
  · exact HoldsA.turn (h.ax.keep ((o2 _ _ _).trans (o2 _ _ _))) hA ha hb
  · unfold exX
    rw [World.frozen?_setCell, World.frozen?_setCell, World.frozen?_setCell, World.frozen?_setCell]; exact h.fm j h0
  · unfold exX
    rw [World.frozen?_setCell, World.frozen?_setCell, World.frozen?_setCell, World.frozen?_setCell]; exact h.fa j h0
  · have e : (exX wr gm ga a b (rgV vs (A.getD a 0)) (rgV vs (A.getD b 0)) (plV (A.getD a 0)) (plV (A.getD b 0))).heap.size = wr.heap.size := by unfold exX; simp
    rw [e]; exact h.lm h0
  · unfold exX; (repeat' first | with_reducible (first | apply Below.refl | assumption | apply bw_a | apply bw_d | apply bw_n | apply bw_p | apply bw_c | apply bw_r) | go_size)
  · unfold exX
    rw [Below.heap_setCell _ _ _ k h2, Below.heap_setCell _ _ _ k h2, Below.heap_setCell _ _ _ k h1, Below.heap_setCell _ _ _ k h1]
def YnAt (W : World) (T xb n : Nat) (L : List (List (List Pt))) (U : Nat → Prop) (x : Value) (wr : World) : Prop := ∃ (k : Nat) (U' : Nat → Prop), x = .int .i64 (k : Int) ∧ k ≤ n ∧ IxS wr T xb L U' ∧ UGrow W wr U U' ∧ KeptU U T W wr
end Go.Proofs.YthphdiigjimchaaGreat

/- Slices of rings: what reads as lists of points; rows of the call's own. Contracts of apportionref11: In, Box. Contract of apportionref11.meet. Contracts of the kit's functions over regions: LargeRegion, CopyRings, OwnRegion, SameRings, EqualRegion. Contract of apportionref11.Check. The laws' own small functions (apportionlaw11): at, box, of, s, t, u, big. -/
import Derived.Test.YthphdiigjimchaaGreatRgLaw
import Derived.Test.YthphdiigjimchaaGreatRgChk
import Derived.Test.YthphdiigjimchaaGreatRiMath
import Derived.Test.YthphdiigjimchaaGreatInFew
import Derived.Test.YthphdiigjimchaaGreatCrFive
import Derived.Test.YthphdiigjimchaaGreatRiRef
namespace Go.Proofs.YthphdiigjimchaaGreat
section
set_option linter.unusedVariables false
set_option linter.unusedSimpArgs false
open Go.RowKit
structure GRC (w : World) (a : Option Addr) (n ca : Nat) (R : List (List Pt)) : Prop where
  len : R.length = n
  ok : SOk a n ca
  cells : n = 0 ∨ ∃ b o, a = some ⟨b, o, none⟩ ∧ ∀ i, i < n → ∃ x m c, w.cell? ⟨b, o + i, none⟩ = some (.slice x m c) ∧ PRC w x m c (R.getD i [])
theorem GRC.below {w w' : World} {a : Option Addr} {n ca : Nat} {R : List (List Pt)} (h : GRC w a n ca R) (hb : Below w.heap.size w w') : GRC w' a n ca R := by
  obtain ⟨h1, h2, h3⟩ := h
  refine ⟨h1, h2, ?_⟩
  rcases h3 with h3 | ⟨b, o, he, hc⟩
  · exact .inl h3
  · refine .inr ⟨b, o, he, fun i hi => ?_⟩
    obtain ⟨x, m, c, e, hp⟩ := hc i hi
    exact ⟨x, m, c, by rw [World.cell?_of_block (hb.block b (World.block_lt_of_cell? _ _ e))]; exact e, hp.below hb⟩
theorem grc_none (w : World) : GRC w none 0 0 [] := ⟨rfl, ⟨Nat.le_refl _, fun _ => rfl⟩, .inl rfl⟩
def GKeeps (base : Nat) (t : TypeId) (W W' : World) : Prop := ∀ g c, base ≤ g → W.heap[g]? = some (.cells c t (0, 0)) → W'.heap[g]? = some (.cells c t (0, 0))
theorem gkeeps_below {W W' : World} (h : Below W.heap.size W W') (base : Nat) (t : TypeId) : GKeeps base t W W' := fun g c _ hc => (h.block g (heap_lt hc)).trans hc
theorem gkeeps_grown {W W' : World} {row : Option Nat} (hg : W.grownBy W' row) (base : Nat) (t : TypeId) (h : ∀ r c, row = some r → base ≤ r → W.heap[r]? = some (.cells c t (0, 0)) → False) : GKeeps base t W W' := fun g c hb hc =>
  (hg.block g (heap_lt hc) (fun e => h g c e.symm hb hc)).trans hc
theorem gown_keeps {W W' : World} {base es : Nat} {e : TypeId} {v : Value} {k : Nat} {xs : List Value} (h : W.ownsRow base e es v k xs) (hk : GKeeps base e W W') : W'.ownsRow base e es v k xs := by
  obtain ⟨h1, h⟩ := h
  refine ⟨h1, ?_⟩
  rcases h with h | ⟨g, cap, cur, hv, hg, hc, h4, h5, h6, h7⟩
  · exact .inl h
  · exact .inr ⟨g, cap, cur, hv, hg, hk g cur hg hc, h4, h5, h6, h7⟩
theorem gown_base {W : World} {base base' es : Nat} {e : TypeId} {v : Value} {k : Nat} {xs : List Value} (h : W.ownsRow base e es v k xs) (hb : base' ≤ base) : W.ownsRow base' e es v k xs := by
  obtain ⟨h1, h⟩ := h
  refine ⟨h1, ?_⟩
  rcases h with h | ⟨g, cap, cur, hv, hg, hc, h4, h5, h6, h7⟩
  · exact .inl h
  · exact .inr ⟨g, cap, cur, hv, by omega, hc, h4, h5, h6, h7⟩
theorem gown_block {W : World} {base es : Nat} {e : TypeId} {v : Value} {k : Nat} {xs : List Value} (h : W.ownsRow base e es v k xs) : ∀ j, v.ownBlock = some j → base ≤ j ∧ ∃ c, W.heap[j]? = some (.cells c e (0, 0)) := by
  obtain ⟨_, h⟩ := h
  intro j hj
  rcases h with ⟨rfl, _⟩ | ⟨g, cap, cur, rfl, hg, hc, _⟩
  · simp [Value.ownBlock] at hj
  · simp [Value.ownBlock] at hj
    subst hj
    exact ⟨hg, cur, hc⟩
structure GOwn (w : World) (base : Nat) (v : Value) (ps : List (Value × List Pt)) : Prop where
  row : w.ownsRow base 23 1 v ps.length (ps.map (·.1))
  each : ∀ p ∈ ps, w.ownsRow base 42 2 p.1 p.2.length (pcells p.2)
theorem gown_nil (w : World) (base : Nat) : GOwn w base (.slice none 0 0) [] := ⟨⟨rfl, .inl ⟨rfl, rfl⟩⟩, fun p hp => by cases hp⟩
theorem GOwn.below {W W' : World} {base : Nat} {v : Value} {ps : List (Value × List Pt)} (h : GOwn W base v ps) (hb : Below W.heap.size W W') : GOwn W' base v ps :=
  ⟨gown_keeps h.row (gkeeps_below hb _ _), fun p hp => gown_keeps (h.each p hp) (gkeeps_below hb _ _)⟩
theorem gkeeps_set {W : World} {b : Nat} {v : Value} {base : Nat} (t : TypeId) (hb : b < base) : GKeeps base t W (W.setCell ⟨b, 0, none⟩ v) := fun g c hg hc =>
  (Below.heap_setCell W _ v g (by show g ≠ b; omega)).trans hc
theorem GOwn.set {W : World} {base b : Nat} {v : Value} {ps : List (Value × List Pt)} (h : GOwn W base v ps) (hb : b < base) (u : Value) : GOwn (W.setCell ⟨b, 0, none⟩ u) base v ps :=
  ⟨gown_keeps h.row (gkeeps_set _ hb), fun p hp => gown_keeps (h.each p hp) (gkeeps_set _ hb)⟩
theorem GOwn.base {w : World} {base base' : Nat} {v : Value} {ps : List (Value × List Pt)} (h : GOwn w base v ps) (hb : base' ≤ base) : GOwn w base' v ps :=
  ⟨gown_base h.row hb, fun p hp => gown_base (h.each p hp) hb⟩
theorem GOwn.grc {w : World} {base : Nat} {v : Value} {ps : List (Value × List Pt)} (h : GOwn w base v ps) : ∃ a ca, v = .slice a ps.length ca ∧ GRC w a ps.length ca (ps.map (·.2)) := by
  obtain ⟨⟨h1, hr⟩, he⟩ := h
  rcases hr with ⟨rfl, h0⟩ | ⟨g, cap, cur, rfl, hg, hc, hnc, h5, h6, ht⟩
  · exact ⟨none, 0, by rw [h0], by simp, ⟨by omega, fun _ => rfl⟩, .inl h0⟩
  · refine ⟨_, cap, rfl, by simp, ⟨hnc, (fun h => by cases h)⟩, .inr ⟨g, 0, rfl, fun i hi => ?_⟩⟩
    have hp : ps[i]? = some ps[i] := List.getElem?_eq_getElem hi
    obtain ⟨a', c', e, hB⟩ := prc_owns (he _ (List.getElem_mem hi))
    refine ⟨a', _, c', ?_, by rw [List.getD_eq_getElem?_getD, List.getElem?_map, hp]; exact hB⟩
    rw [Nat.mul_one] at ht
    have h1 : (cur.toList.take ps.length)[i]? = some ps[i].1 := by rw [ht]; simp [hp]
    rw [List.getElem?_take_of_lt hi] at h1
    simp [World.cell?, hc]
    rw [← e]
    simpa using h1
theorem info_ring : ∃ i, Tryz.prog.info? 23 = some i ∧ i.zero = some (.slice none 0 0) ∧ i.size = 1 ∧ i.bytes = 24 := by
  have h : (Tryz.prog.info? 23).map (fun i => (i.zero, i.size, i.bytes)) = some (some (.slice none 0 0), 1, 24) := by kernel_rfl
  cases hi : Tryz.prog.info? 23 with
  | none => rw [hi] at h; cases h
  | some i =>
    rw [hi] at h
    simp at h
    exact ⟨i, rfl, h.1, h.2.1, h.2.2⟩
theorem wpList_gapp {ops : Array Oper} {rest : List Oper} {o : Oper} {a : Act} {w : World} {Q : Exit → Act → World → Prop} (hgd : o.guard = none) (s x : Operand)
    (ho : o.op = .call { callee := .builtin .append, args := #[s, x], argTypes := #[26, 26] }) (base : Nat) (v : Value) (ps : List (Value × List Pt)) (hs : a.eval s = v) (hown : GOwn w base v ps)
    (g : Nat) (u : Value) (L : List Pt) (hx : a.eval x = .slice (some ⟨g, 0, none⟩) 1 1) (hc : w.cell? ⟨g, 0, none⟩ = some u) (hu : w.ownsRow base 42 2 u L.length (pcells L)) (hm : ps.length ≤ 100000) (hb : base ≤ w.heap.size)
    (h : ∀ v' w', GOwn w' base v' (ps ++ [(u, L)]) → w.grownBy w' v.ownBlock → wpList Tryz.prog ops Q rest (a.put o.dst v') w') : wpList Tryz.prog ops Q (o :: rest) a w := by
  obtain ⟨i0, hi0, hz0, hz1, hz2⟩ := info_ring
  obtain ⟨au, cu, eu, _⟩ := prc_owns hu
  refine wpList_append_own _ hgd s x _ ho base 23 i0 _ 1 24 Tryz.underlying26 hi0 hz0 hz1 hz2 rfl (by decide) v ps.length (ps.map (·.1)) hs hown.row ⟨g, 0, none⟩ 1 1 [u] hx
    rfl (fun j y hy => by
      cases j with
      | zero => simp at hy; subst hy; exact hc
      | succ j => simp at hy) (by intro y hy; simp at hy; subst hy; rw [eu]; rfl) (by unfold maxLen; omega) (by omega) hb ?_
  intro v' w' hown' hg _
  have hk : GKeeps base 42 w w' := gkeeps_grown hg base _ fun r c e1 e2 e3 => by
    obtain ⟨_, c', hc'⟩ := gown_block hown.row r e1
    rw [e3] at hc'
    injection hc' with hc'
    injection hc' with _ hc' _
    exact absurd hc' (by decide)
  refine h v' w' ⟨by simpa using hown', fun p hp => ?_⟩ hg
  rcases List.mem_append.1 hp with hp | hp
  · exact gown_keeps (hown.each p hp) hk
  · rw [List.mem_singleton.1 hp]; exact gown_keeps hu hk
theorem wpList_gcopy {ops : Array Oper} {rest : List Oper} {o : Oper} {a : Act} {w : World} {Q : Exit → Act → World → Prop} (hgd : o.guard = none) (s x : Operand)
    (ho : o.op = .call { callee := .builtin .append, args := #[s, x], argTypes := #[23, 23] }) (hs : a.eval s = .slice (some ⟨w.heap.size, 0, none⟩) 0 0)
    (A : Option Addr) (len cap : Nat) (K : List (Int × Int)) (hx : a.eval x = .slice A len cap) (hr : PRC w A len cap K) (hm : len ≤ 100000)
    (h : ∀ v' w', w'.ownsRow w.heap.size 42 2 v' K.length (pcells K) → Below w.heap.size w w' → wpList Tryz.prog ops Q rest (a.put o.dst v') w') : wpList Tryz.prog ops Q (o :: rest) a (w.alloc (.cells #[] 42)) := by
  obtain ⟨i0, hi0, hz0, hz1, hz2⟩ := info_pt
  have hb0 : Below w.heap.size w (w.alloc (.cells #[] 42)) := (Below.refl _ _).alloc (Nat.le_refl _) _
  have hr1 := hr.rd.below hb0
  have hzl := hr.rd.1
  rcases A with _ | ad
  · have h0 : cap = 0 := hr.ok.nil rfl
    have h1 := hr.ok.le
    obtain rfl : len = 0 := by omega
    subst h0
    obtain rfl : K = [] := List.eq_nil_of_length_eq_zero hzl
    refine wpList_append_own_none hgd s x _ ho w.heap.size 42 i0 2 Tryz.underlying23 hi0 _ 0 (pcells []) hs (powns_empty w) hx ?_
    exact h _ _ (powns_empty w) hb0
  · refine wpList_append_own _ hgd s x _ ho w.heap.size 42 i0 _ 2 16 Tryz.underlying23 hi0 hz0 hz1 hz2 rfl (by decide) _ 0 (pcells []) hs (powns_empty w) ad len cap (pcells K) hx
      (by rw [pcells_len, hzl]) hr1.cells (pcells_one K) (by simp only [maxLen]; omega) (by omega) (by simp) ?_
    intro v' w' hown hg _
    rw [Nat.zero_add] at hown
    have hb : Below w.heap.size w w' := hb0.grown hg (by simp) (by intro k hk; simp [Value.ownBlock] at hk; omega)
    exact h _ _ (by rw [hzl]; exact hown) hb
end

section
set_option linter.unusedVariables false
set_option linter.unusedSimpArgs false
open Go.RowKit
theorem filt_step {R : List (List Pt)} {k : Nat} (hk : k < R.length) (f : List Pt → Bool) : ((R.take (k + 1)).filter f).length = ((R.take k).filter f).length + oneN (f (R.getD k [])) := by
  rw [List.take_succ_eq_append_getElem hk, List.filter_append, List.length_append]
  congr 1
  rw [List.getD_eq_getElem?_getD, List.getElem?_eq_getElem hk, Option.getD_some]
  unfold oneN
  cases h : f R[k] <;> simp [h]
def RiAt (W : World) (p : Pt) (R : List (List Pt)) (x y : Value) (wr : World) : Prop := ∃ k : Nat, y = .int .i64 (k : Int) ∧ x = .int .i64 (((R.take k).filter (inQ p)).length : Nat) ∧ k ≤ R.length ∧ Cls W wr
set_option maxRecDepth 100000 in
set_option maxHeartbeats 2000000 in
theorem r_reIn (px py : Int) (w : World) (a : Option Addr) (n ca : Nat) (R : List (List Pt)) (hR : GRC w a n ca R) (hs : n ≤ 4611686018427387903) (hl : ∀ K ∈ R, K.length ≤ 4611686018427387903) :
    Calls Tryz.prog 39 #[pt px py, .agg #[.slice a n ca]] w fun e w' => e = .returned (.bool (regQ (px, py) R)) ∧ Junk w w' := by
  have L1 := Lib.hid hR.len
  have HK := Lib.hid hR.cells
  have HL := Lib.hid hl
  unfold pt
  obtain ⟨B, hB⟩ : ∃ B, regQ (px, py) R = B := ⟨_, rfl⟩
  rw [hB]
  have HB := Lib.hid hB
  clear hR hl hB
  go_enter Tryz.func39, Tryz.ntmps39
  go_wp2_with fail
  obtain ⟨W, hW⟩ : ∃ W, (w.alloc (.cells #[.int .i64 px, .int .i64 py] 42)).alloc (.cells #[.slice a n ca] 28) = W := ⟨_, rfl⟩
  have c0 : W.cell? ⟨w.heap.size, 0, none⟩ = some (.int .i64 px) := by rw [← hW]; simp [go_sem]
  have c1 : W.cell? ⟨w.heap.size, 1, none⟩ = some (.int .i64 py) := by rw [← hW]; simp [go_sem]
  have c2 : W.cell? ⟨w.heap.size + 1, 0, none⟩ = some (.slice a n ca) := by rw [← hW]; simp [go_sem]
  have hj : Below w.heap.size w W := by rw [← hW]; (repeat' first | with_reducible (first | apply Below.refl | assumption | apply bw_a | apply bw_d | apply bw_n | apply bw_p | apply bw_c | apply bw_r) | go_size)
  have l0 : w.heap.size < W.heap.size := World.block_lt_of_cell? _ _ c0
  have l2 : w.heap.size + 1 < W.heap.size := World.block_lt_of_cell? _ _ c2
  rw [hW]
  clear hW
  go_loopw [5, 6] (fun x y wr => RiAt W (px, py) R x y wr) (fun _ y _ => n - (intOf y).toNat)
  case atStart => exact ⟨0, rfl, rfl, by omega, #[], _, (plus_nil _).symm⟩
  case round =>
    obtain ⟨k, rfl, rfl, k1, J, d, rfl⟩ := hrel
    rw [L1.out] at k1
    have hq : ((R.take k).filter (inQ (px, py))).length ≤ k := Nat.le_trans (List.length_filter_le _ _) (by rw [List.length_take]; omega)
    by_cases hlt : k < n
    · rcases HK.out with h | ⟨b, o, rfl, hc⟩
      · omega
      obtain ⟨x, m, c, p1, hp⟩ := hc k hlt
      have hkR : k < R.length := by rw [L1.out]; exact hlt
      have hm : m ≤ 4611686018427387903 := by rw [← hp.rd.1]; exact HL.out _ (by rw [List.getD_eq_getElem?_getD, List.getElem?_eq_getElem hkR]; exact List.getElem_mem hkR)
      have hN := filt_step hkR (inQ (px, py))
      have hb : b < w.heap.size := World.block_lt_of_cell? _ _ p1
      have s1 := (World.cell?_of_block (hj.block _ hb)).trans p1
      have hbW : b < W.heap.size := World.block_lt_of_cell? _ _ s1
      have hpW := hp.below hj
      have HC := Lib.hid (fun (J : Array Obj) (d : Nat) => r_inIn px py (W.plus J d) x m c (R.getD k []) (hpW.below (Junk.below ⟨J, d, rfl⟩)).rd hm)
      unfold pt at HC
      generalize inQ (px, py) (R.getD k []) = g at *
      have i1 : (k : Int) < (n : Int) := by omega
      have HNN := Lib.hid hN
      clear hc hN p1 hp hpW hm
      generalize ((R.take k).filter (inQ (px, py))).length = q at *
      cases g with
      | true =>
        go_upto_region 5 with fail
        refine region_quiet_all (C := Cls W) (by kernel_rfl) (by kernel_rfl) ⟨_, _, rfl⟩ ?_
        repeat (first | (refine qw_skip (by rfl) ?_; simp only [Act.put, List.setIfInBounds_toArray, List.set_cons_succ, List.set_cons_zero]) | (refine qw_want (by rfl) (fun K hK => ?_); go_simp; first | (refine hK _ ?_; clear hK K) | (apply Exists.intro; refine ⟨?_, hK _ ?_⟩; (rintro w3_ ⟨J3_, d3_, rfl⟩; first | (with_reducible exact rfl) | (go_simp; with_reducible exact rfl) | (go_simp; (first | (with_reducible refine (L1.out _).mono ?_) | (with_reducible refine (HC.out _ _).mono ?_)); rintro e_ w_ ⟨rfl, J4_, d4_, rfl⟩; exact ⟨rfl, J3_ ++ J4_, d4_, by simp only [plus_plus, Array.append_assoc]⟩)); clear hK K)))
        refine qw_nil ?_
        rintro w4 ⟨J3, d3, rfl⟩
        go_wp2_with fail
        go_roundw
        case rel => exact ⟨k + 1, by go_num, by rw [HNN.out]; show _ = Value.int .i64 ((q + 1 : Nat) : Int); go_num, by rw [L1.out]; omega, _, _, rfl⟩
        case measure => simp [intOf]; omega
      | false =>
        go_upto_region 5 with fail
        refine region_quiet_all (C := Cls W) (by kernel_rfl) (by kernel_rfl) ⟨_, _, rfl⟩ ?_
        repeat (first | (refine qw_skip (by rfl) ?_; simp only [Act.put, List.setIfInBounds_toArray, List.set_cons_succ, List.set_cons_zero]) | (refine qw_want (by rfl) (fun K hK => ?_); go_simp; first | (refine hK _ ?_; clear hK K) | (apply Exists.intro; refine ⟨?_, hK _ ?_⟩; (rintro w3_ ⟨J3_, d3_, rfl⟩; first | (with_reducible exact rfl) | (go_simp; with_reducible exact rfl) | (go_simp; (first | (with_reducible refine (L1.out _).mono ?_) | (with_reducible refine (HC.out _ _).mono ?_)); rintro e_ w_ ⟨rfl, J4_, d4_, rfl⟩; exact ⟨rfl, J3_ ++ J4_, d4_, by simp only [plus_plus, Array.append_assoc]⟩)); clear hK K)))
        refine qw_nil ?_
        rintro w4 ⟨J3, d3, rfl⟩
        go_wp2_with fail
        go_roundw
        case rel => exact ⟨k + 1, by go_num, by rw [HNN.out]; rfl, by rw [L1.out]; omega, _, _, rfl⟩
        case measure => simp [intOf]; omega
    · obtain rfl : k = n := by omega
      rw [List.take_of_length_le (by rw [L1.out]; omega)] at hq ⊢
      have HE := Lib.hid (show B = decide ((R.filter (inQ (px, py))).length % 2 = 1) from HB.out.symm)
      generalize (R.filter (inQ (px, py))).length = q at *
      have i1 : ¬ (k : Int) < (k : Int) := by omega
      have e1 : ((q : Int)).tmod 2 = ((q % 2 : Nat) : Int) := by rw [Int.tmod_eq_emod_of_nonneg (by omega)]; omega
      rcases Nat.mod_two_eq_zero_or_one q with h | h
      · have HE2 := Lib.hid (show B = false by rw [HE.out, decide_eq_false (by omega)])
        rw [h] at e1
        have e2 : ((q : Int)) % 2 = 0 := by omega
        go_wp2_with fail
        go_ret
        exact ⟨retB (by rw [HE2.out]), junk_of_below (hj.trans ((Junk.below ⟨_, _, rfl⟩).mono hj.size))⟩
      · have HE2 := Lib.hid (show B = true by rw [HE.out, decide_eq_true h])
        rw [h] at e1
        have e2 : ((q : Int)) % 2 = 1 := by omega
        go_wp2_with fail
        go_ret
        exact ⟨retB (by rw [HE2.out]), junk_of_below (hj.trans ((Junk.below ⟨_, _, rfl⟩).mono hj.size))⟩
theorem Blk.set4 {W : World} {k : Nat} {x y z u : Value} {t : TypeId} (h : Blk W k #[x, y, z, u] t) (a b c e : Value) (J : Array Obj) (d : Nat) : Blk (((((W.setCell ⟨k, 0, none⟩ a).setCell ⟨k, 1, none⟩ b).setCell ⟨k, 2, none⟩ c).setCell ⟨k, 3, none⟩ e).plus J d) k #[a, b, c, e] t :=
  ((((h.set 0 a).set 1 b).set 2 c).set 3 e).below (Junk.below ⟨J, d, rfl⟩)
theorem set4_below {W : World} {n0 k : Nat} (hk : n0 ≤ k) (hs : n0 ≤ W.heap.size) (a b c e : Value) (J : Array Obj) (d : Nat) : Below n0 W (((((W.setCell ⟨k, 0, none⟩ a).setCell ⟨k, 1, none⟩ b).setCell ⟨k, 2, none⟩ c).setCell ⟨k, 3, none⟩ e).plus J d) := by
  have h1 : Below n0 W ((((W.setCell ⟨k, 0, none⟩ a).setCell ⟨k, 1, none⟩ b).setCell ⟨k, 2, none⟩ c).setCell ⟨k, 3, none⟩ e) := ((((Below.refl n0 W).setCell (p := ⟨k, 0, none⟩) hk a).setCell (p := ⟨k, 1, none⟩) hk b).setCell (p := ⟨k, 2, none⟩) hk c).setCell (p := ⟨k, 3, none⟩) hk e
  exact h1.trans ((Junk.below ⟨J, d, rfl⟩).mono (Nat.le_trans hs h1.size))
theorem flat_step {R : List (List Pt)} {k : Nat} (hk : k < R.length) : (R.take (k + 1)).flatten = (R.take k).flatten ++ R.getD k [] := by
  rw [List.take_succ_eq_append_getElem hk, List.flatten_append, List.getD_eq_getElem?_getD, List.getElem?_eq_getElem hk, Option.getD_some]
  simp
theorem flat_le {R : List (List Pt)} (k : Nat) : (R.take k).flatten.length ≤ R.flatten.length := by
  have : R.flatten = (R.take k).flatten ++ (R.drop k).flatten := by rw [← List.flatten_append, List.take_append_drop]
  rw [this, List.length_append]; omega
def BxAt (W : World) (R : List (List Pt)) (v i : Value) (wr : World) : Prop := ∃ k : Nat, i = .int .i64 (k : Int) ∧ k ≤ R.length ∧ wr.ownsRow W.heap.size 42 2 v (R.take k).flatten.length (pcells (R.take k).flatten) ∧ Below W.heap.size W wr
set_option maxRecDepth 100000 in
set_option maxHeartbeats 2000000 in
theorem r_reBox (w : World) (a : Option Addr) (n ca : Nat) (R : List (List Pt)) (hR : GRC w a n ca R) (hl : R.flatten.length ≤ 100000) (hs : n ≤ 4611686018427387903) :
    Calls Tryz.prog 40 #[.agg #[.slice a n ca]] w fun e w' => e = .returned (.tuple #[boxV R.flatten, .bool (bndOk R.flatten)]) ∧ Junk w w' := by
  have L1 := Lib.hid hR.len
  have HR := Lib.hid hR
  obtain ⟨x1, x2, x3, x4, hx⟩ : ∃ x1 x2 x3 x4, boxV R.flatten = bxV x1 x2 x3 x4 := ⟨_, _, _, _, rfl⟩
  obtain ⟨B0, hb0⟩ : ∃ B0, bndOk R.flatten = B0 := ⟨_, rfl⟩
  rw [hx, hb0]
  have HBd := Lib.hid (fun w' am cm h => show Calls Tryz.prog 61 #[.slice am R.flatten.length cm] w' fun e w'' => e = .returned (.tuple #[bxV x1 x2 x3 x4, .bool B0]) ∧ Junk w' w'' by
    have := r_ptBounds w' am R.flatten.length cm R.flatten h (by omega)
    rw [hx, hb0] at this
    exact this)
  unfold bxV at *
  clear hR hx hb0
  go_enter Tryz.func40, Tryz.ntmps40
  go_wp2_with fail
  obtain ⟨W, hW⟩ : ∃ W, (w.alloc (.cells #[.slice a n ca] 28)).alloc (.cells #[.int .i64 0, .int .i64 0, .int .i64 0, .int .i64 0] 67) = W := ⟨_, rfl⟩
  have c0 : W.cell? ⟨w.heap.size, 0, none⟩ = some (.slice a n ca) := by rw [← hW]; simp [go_sem]
  have bB : Blk W (w.heap.size + 1) #[.int .i64 0, .int .i64 0, .int .i64 0, .int .i64 0] 67 := by
    rw [← hW]
    have := Blk.new (w.alloc (.cells #[.slice a n ca] 28)) #[.int .i64 0, .int .i64 0, .int .i64 0, .int .i64 0] 67
    rwa [World.size_alloc] at this
  have hj : Below w.heap.size w W := by rw [← hW]; (repeat' first | with_reducible (first | apply Below.refl | assumption | apply bw_a | apply bw_d | apply bw_n | apply bw_p | apply bw_c | apply bw_r) | go_size)
  have l0 : w.heap.size < W.heap.size := World.block_lt_of_cell? _ _ c0
  have HRW := Lib.hid (HR.out.below hj)
  rw [hW]
  clear hW HR
  go_loopw [4, 5] (fun v i wr => BxAt W R v i wr) (fun _ i _ => n - (intOf i).toNat)
  case atStart => exact ⟨0, rfl, by omega, pnil_owns _ _, Below.refl _ _⟩
  case round =>
    obtain ⟨k, rfl, k1, hown, hB⟩ := hrel
    rw [L1.out] at k1
    have s0 := (World.cell?_of_block (hB.block _ l0)).trans c0
    have hsz := hB.size
    by_cases hlt : k < n
    · rcases HRW.out.cells with h | ⟨b, o, rfl, hc⟩
      · omega
      obtain ⟨x, m, c, p1, hp⟩ := hc k hlt
      have hkR : k < R.length := by rw [L1.out]; exact hlt
      have hbW : b < W.heap.size := World.block_lt_of_cell? _ _ p1
      have s1 := (World.cell?_of_block (hB.block _ hbW)).trans p1
      have hle := flat_le (R := R) (k + 1)
      rw [flat_step hkR, List.length_append, hp.rd.1] at hle
      have hF := flat_step hkR
      obtain ⟨Kk, hKk⟩ : ∃ Kk, R.getD k [] = Kk := ⟨_, rfl⟩
      obtain ⟨Fk, hFk⟩ : ∃ Fk, (R.take k).flatten = Fk := ⟨_, rfl⟩
      rw [hKk] at hp hF
      rw [hFk] at hF hle hown
      have HPR := Lib.hid (hp.below hB)
      have HF := Lib.hid hF
      have HM := Lib.hid hp.rd.1
      have HOW := Lib.hid hown
      obtain ⟨fl, hfl⟩ : ∃ fl, Fk.length = fl := ⟨_, rfl⟩
      have hle2 : fl + m ≤ 100000 := by omega
      have HFL := Lib.hid hfl
      rw [hfl] at HOW
      have HB := Lib.hid hB
      obtain ⟨wo, rfl⟩ : ∃ wo : World, wo = wr := ⟨_, rfl⟩
      have lb : b < wo.heap.size := Nat.lt_of_lt_of_le hbW hsz
      have m0 : w.heap.size < wo.heap.size := Nat.lt_of_lt_of_le l0 hsz
      have i1 : (k : Int) < (n : Int) := by omega
      clear hc p1 hp hown hB hle hF hKk hFk hfl
      go_wp2_with (at_builtin; refine wpList_pall rfl (.tmp 13) (.tmp 18) rfl W.heap.size _ _ Fk rfl (powns_below HOW.out (by (repeat' first | with_reducible (first | apply Below.refl | assumption | apply bw_a | apply bw_d | apply bw_n | apply bw_p | apply bw_c | apply bw_r) | go_size))) x m c Kk rfl HPR.out.ok (HPR.out.rd.below (by (repeat' first | with_reducible (first | apply Below.refl | assumption | apply bw_a | apply bw_d | apply bw_n | apply bw_p | apply bw_c | apply bw_r) | go_size))) (by omega) (by omega) ?_; intro v' w' hown' hg')
      go_roundw
      case rel => exact ⟨k + 1, by go_num, by rw [L1.out]; omega, by rw [HF.out, List.length_append, HM.out, HFL.out]; exact hown', grown_below (B := W.heap.size) (a := W) (HB.out.trans (by (repeat' first | with_reducible (first | apply Below.refl | assumption | apply bw_a | apply bw_d | apply bw_n | apply bw_p | apply bw_c | apply bw_r) | go_size))) hg' (by omega) (powns_block HOW.out)⟩
      case measure => simp [intOf]; omega
    · obtain rfl : k = n := by omega
      rw [List.take_of_length_le (by rw [L1.out]; omega)] at hown
      obtain ⟨am, cm, rfl, hm⟩ := prc_owns hown
      have HPM := Lib.hid hm
      have bB2 := bB.below hB
      have f0 := bB2.cell 0
      have f1 := bB2.cell 1
      have f2 := bB2.cell 2
      have f3 := bB2.cell 3
      have g0 := bB2.frozen 0
      have g1 := bB2.frozen 1
      have g2 := bB2.frozen 2
      have g3 := bB2.frozen 3
      have lB := bB2.lt
      have HBB := Lib.hid bB2
      generalize R.flatten.length = fl at *
      have i1 : ¬ (k : Int) < (k : Int) := by omega
      have HB := Lib.hid hB
      clear hown hm hB bB bB2
      obtain ⟨wo, rfl⟩ : ∃ wo : World, wo = wr := ⟨_, rfl⟩
      have m0 : w.heap.size < wo.heap.size := Nat.lt_of_lt_of_le l0 hsz
      go_wp2_with (go_at_call 61; refine (HBd.out _ _ _ HPM.out.rd).mono ?_; rintro e w1 ⟨rfl, J6, d6, rfl⟩)
      refine bodyPost_ret (results_box2 rfl _ _ (w.heap.size + 1) _ rfl ((HBB.out.set4 _ _ _ _ _ _).row) rfl) rfl ⟨rfl, junk_of_below ((hj.trans (HB.out.mono hj.size)).trans (set4_below (by omega) (by have := hj.size; omega) _ _ _ _ _ _))⟩
end

section
set_option linter.unusedVariables false
set_option linter.unusedSimpArgs false
open Go.RowKit
def overAt (K M : List Pt) (i k : Nat) : Bool := decide (2 ≤ meetQ (K.getD i (0, 0)) (K.getD ((i + 1) % K.length) (0, 0)) (M.getD k (0, 0)) (M.getD ((k + 1) % M.length) (0, 0)))
theorem cyc_next {K : List Pt} {i : Nat} (h : i < K.length) : cyc K ((i : Int) + 1) = K.getD ((i + 1) % K.length) (0, 0) := by
  have : cyc K ((i : Int) + 1) = cyc K (((i + 1) % K.length : Nat) : Int) := cyc_mod (by push_cast; rw [Int.emod_emod])
  rw [this, cyc_nat (Nat.mod_lt _ (by omega))]
theorem over_is {K M : List Pt} {i k : Nat} (hi : i < K.length) (hk : k < M.length) : decide (2 ≤ meetQ (cyc K (i : Int)) (cyc K ((i : Int) + 1)) (cyc M (k : Int)) (cyc M ((k : Int) + 1))) = overAt K M i k := by
  unfold overAt
  rw [cyc_nat hi, cyc_nat hk, cyc_next hi, cyc_next hk]
theorem rmeet_hit {K M : List Pt} {i k : Nat} (hi : i < K.length) (hk : k < M.length) (h : overAt K M i k = true) : rMeet K M = true := by
  unfold rMeet
  rw [List.any_eq_true]
  refine ⟨i, by simpa using hi, ?_⟩
  rw [List.any_eq_true]
  exact ⟨k, by simpa using hk, by rw [over_is hi hk]; exact h⟩
theorem rmeet_not {K M : List Pt} (h : ∀ i, i < K.length → ∀ k, k < M.length → overAt K M i k = false) : rMeet K M = false := by
  unfold rMeet
  rw [List.any_eq_false]
  intro i hi
  rw [List.mem_range] at hi
  simp only [Bool.not_eq_true]
  rw [List.any_eq_false]
  intro k hk
  rw [List.mem_range] at hk
  rw [over_is hi hk, h i hi k hk]
  simp
def RmO (w : World) (K M : List Pt) (x : Value) (wr : World) : Prop := ∃ i : Nat, x = .int .i64 (i : Int) ∧ i ≤ K.length ∧ (∀ j, j < i → ∀ k, k < M.length → overAt K M j k = false) ∧ Cls w wr
def RmI (w : World) (K M : List Pt) (i : Nat) (x : Value) (wr : World) : Prop := ∃ k : Nat, x = .int .i64 (k : Int) ∧ k ≤ M.length ∧ (∀ j, j < k → overAt K M i j = false) ∧ Cls w wr
set_option maxRecDepth 100000 in
set_option maxHeartbeats 4000000 in
theorem r_reMeet (w : World) (a b : Option Addr) (n m ca cb : Nat) (K M : List Pt) (hK : PReads w a n K) (hM : PReads w b m M) (hs : n ≤ 4611686018427387903) (hs2 : m ≤ 4611686018427387903) :
    Calls Tryz.prog 51 #[.slice a n ca, .slice b m cb] w fun e w' => e = .returned (.bool (rMeet K M)) ∧ Junk w w' := by
  have L1 := Lib.hid hK.1
  have L2 := Lib.hid hM.1
  have H1 := Lib.hid hK.2
  have H2 := Lib.hid hM.2
  obtain ⟨R, hR⟩ : ∃ R, rMeet K M = R := ⟨_, rfl⟩
  rw [hR]
  have HR := Lib.hid hR
  clear hK hM hR
  go_enter Tryz.func51, Tryz.ntmps51
  go_wp2_with fail
  go_loopw [5] (fun x wr => RmO w K M x wr) (fun x _ => n - (intOf x).toNat)
  case atStart => exact ⟨0, rfl, by omega, fun j hj => absurd hj (by omega), #[], _, (plus_nil _).symm⟩
  case round =>
    obtain ⟨i, rfl, k1, hi, J, d, rfl⟩ := hrel
    rw [L1.out] at k1
    have HI := Lib.hid hi
    clear hi
    by_cases hlt : i < n
    · rcases H1.out with h | ⟨b1, o1, rfl, hc1⟩
      · omega
      obtain ⟨j, hjn, ej⟩ : ∃ j : Nat, j < n ∧ (i + 1) % n = j := ⟨_, Nat.mod_lt _ (by omega), rfl⟩
      obtain ⟨p1, p2⟩ := hc1 i hlt
      obtain ⟨p3, p4⟩ := hc1 j hjn
      obtain ⟨u, v, hx⟩ : ∃ u v : Int, K.getD i (0, 0) = (u, v) := ⟨_, _, rfl⟩
      obtain ⟨x, y, hy⟩ : ∃ x y : Int, K.getD j (0, 0) = (x, y) := ⟨_, _, rfl⟩
      rw [hx] at p1 p2
      rw [hy] at p3 p4
      simp only at p1 p2 p3 p4
      have hb1 : b1 < w.heap.size := World.block_lt_of_cell? _ _ p1
      have HX := Lib.hid hx
      have HY := Lib.hid (show K.getD ((i + 1) % K.length) (0, 0) = (x, y) by rw [L1.out, ej]; exact hy)
      have i1 : (i : Int) < (n : Int) := by omega
      have i2 : (j : Int) < (n : Int) := by omega
      have e3 : ((i : Int) + 1) % (n : Int) = (j : Int) := by rw [← ej]; push_cast; rfl
      have w1 : IntKind.i64.wrap ((i : Int) + 1) = (i : Int) + 1 := by simp [IntKind.wrap, IntKind.signed, IntKind.bits]; omega
      have w2 : ((i : Int) + 1).tmod (n : Int) = (j : Int) := by rw [Int.tmod_eq_emod_of_nonneg (by omega)]; exact e3
      have w3 : ¬ n = 0 := by omega
      clear hc1 hx hy ej
      go_wp2_with fail
      go_loopw [6] (fun x wr => RmI w K M i x wr) (fun x _ => m - (intOf x).toNat)
      case atStart => exact ⟨0, rfl, by omega, fun j hj => absurd hj (by omega), _, _, rfl⟩
      case round =>
        obtain ⟨k, rfl, k2, hk, J2, d2, rfl⟩ := hrel
        rw [L2.out] at k2
        have HKk := Lib.hid hk
        clear hk
        by_cases hlt2 : k < m
        · rcases H2.out with h | ⟨b2, o2, rfl, hc2⟩
          · omega
          obtain ⟨l, hln, el⟩ : ∃ l : Nat, l < m ∧ (k + 1) % m = l := ⟨_, Nat.mod_lt _ (by omega), rfl⟩
          obtain ⟨q1, q2⟩ := hc2 k hlt2
          obtain ⟨q3, q4⟩ := hc2 l hln
          obtain ⟨s, t, hz⟩ : ∃ u v : Int, M.getD k (0, 0) = (u, v) := ⟨_, _, rfl⟩
          obtain ⟨f, g, hv⟩ : ∃ x y : Int, M.getD l (0, 0) = (x, y) := ⟨_, _, rfl⟩
          rw [hz] at q1 q2
          rw [hv] at q3 q4
          simp only at q1 q2 q3 q4
          have hb2 : b2 < w.heap.size := World.block_lt_of_cell? _ _ q1
          have HM := Lib.hid (fun w' => r_crMeets w' u v x y s t f g)
          have hov : overAt K M i k = decide (2 ≤ meetQ (u, v) (x, y) (s, t) (f, g)) := by
            unfold overAt
            rw [HX.out, HY.out, hz, L2.out, el, hv]
          have hrg := meet_range (a := (u, v)) (b := (x, y)) (c := (s, t)) (d := (f, g))
          generalize meetQ (u, v) (x, y) (s, t) (f, g) = r at *
          have HOV := Lib.hid hov
          unfold pt at HM
          have i3 : (k : Int) < (m : Int) := by omega
          have i4 : (l : Int) < (m : Int) := by omega
          have e4 : ((k : Int) + 1) % (m : Int) = (l : Int) := by rw [← el]; push_cast; rfl
          have w4 : IntKind.i64.wrap ((k : Int) + 1) = (k : Int) + 1 := by simp [IntKind.wrap, IntKind.signed, IntKind.bits]; omega
          have w5 : ((k : Int) + 1).tmod (m : Int) = (l : Int) := by rw [Int.tmod_eq_emod_of_nonneg (by omega)]; exact e4
          have w6 : ¬ m = 0 := by omega
          clear hc2 hz hv el hov
          go_upto_region 7 with fail
          refine region_quiet_all (C := Cls w) (by kernel_rfl) (by kernel_rfl) ⟨_, _, rfl⟩ ?_
          repeat (first | (refine qw_skip (by rfl) ?_; simp only [Act.put, List.setIfInBounds_toArray, List.set_cons_succ, List.set_cons_zero]) | (refine qw_want (by rfl) (fun K hK => ?_); go_simp; first | (refine hK _ ?_; clear hK K) | (apply Exists.intro; refine ⟨?_, hK _ ?_⟩; (rintro w3_ ⟨J3_, d3_, rfl⟩; first | (with_reducible exact rfl) | (go_simp; with_reducible exact rfl) | (go_simp; (first | (with_reducible refine (HM.out _).mono ?_)); rintro e_ w_ ⟨rfl, J4_, d4_, rfl⟩; exact ⟨rfl, J3_ ++ J4_, d4_, by simp only [plus_plus, Array.append_assoc]⟩)); clear hK K)))
          refine qw_nil ?_
          rintro w7 ⟨J3, d3, rfl⟩
          by_cases h2 : 2 ≤ r
          · have HN := Lib.hid (show R = true by rw [← HR.out]; exact rmeet_hit (show i < K.length by rw [L1.out]; exact hlt) (show k < M.length by rw [L2.out]; exact hlt2) (by rw [HOV.out, decide_eq_true h2]))
            rcases (show r = 2 ∨ r = 3 by omega) with rfl | rfl
            all_goals
              clear h2 hrg
              go_wp2_with fail
              go_ret
              exact ⟨congrArg (fun z => Ending.returned (.bool z)) HN.out.symm, junk_of_below (by (repeat' first | with_reducible (first | apply Below.refl | assumption | apply bw_a | apply bw_d | apply bw_n | apply bw_p | apply bw_c | apply bw_r) | go_size))⟩
          · have HN := Lib.hid (show ∀ j, j < k + 1 → overAt K M i j = false from fun j hj => by
              by_cases hjk : j = k
              · subst hjk; rw [HOV.out, decide_eq_false h2]
              · exact HKk.out j (by omega))
            rcases (show r = 0 ∨ r = 1 by omega) with rfl | rfl
            all_goals
              clear h2 hrg
              go_wp2_with fail
              go_roundw
              case rel => exact ⟨k + 1, by go_num, by rw [L2.out]; omega, HN.out, _, _, rfl⟩
              case measure => simp [intOf]; omega
        · have hkm : k = m := by omega
          have HN := Lib.hid (show ∀ j, j < i + 1 → ∀ k, k < M.length → overAt K M j k = false from fun j hj l hl => by
            by_cases hji : j = i
            · subst hji; exact HKk.out l (by rw [L2.out] at hl; omega)
            · exact HI.out j (by omega) l hl)
          have i3 : ¬ (k : Int) < (m : Int) := by omega
          go_wp2_with fail
          go_roundw
          case rel => exact ⟨i + 1, by go_num, by rw [L1.out]; omega, HN.out, _, _, rfl⟩
          case measure => simp [intOf]; omega
    · have HE := Lib.hid (show R = false by rw [← HR.out]; exact rmeet_not fun j hj => HI.out j (by rw [L1.out] at hj; omega))
      have i1 : ¬ (i : Int) < (n : Int) := by omega
      go_wp2_with fail
      go_ret
      exact ⟨congrArg (fun z => Ending.returned (.bool z)) HE.out.symm, junk_of_below (by (repeat' first | with_reducible (first | apply Below.refl | assumption | apply bw_a | apply bw_d | apply bw_n | apply bw_p | apply bw_c | apply bw_r) | go_size))⟩
end

section
set_option linter.unusedVariables false
set_option linter.unusedSimpArgs false
open Go.RowKit
theorem alln_step {R : List (List Pt)} {k : Nat} (hk : k < R.length) : allN (R.take (k + 1)) = allN (R.take k) + (R.getD k []).length := by
  unfold allN
  rw [List.take_succ_eq_append_getElem hk, List.map_append, List.getD_eq_getElem?_getD, List.getElem?_eq_getElem hk, Option.getD_some]
  simp
theorem alln_le {R : List (List Pt)} {B : Nat} (h : ∀ K ∈ R, K.length ≤ B) : allN R ≤ R.length * B := by
  unfold allN
  induction R with
  | nil => simp
  | cons K R ih =>
    rw [List.map_cons, List.sum_cons, List.length_cons, Nat.succ_mul]
    have h1 := h K (by simp)
    have h2 := ih fun K' hK' => h K' (by simp [hK'])
    omega
def LrAt (W : World) (R : List (List Pt)) (x y : Value) (wr : World) : Prop := ∃ (k : Nat) (s : Int), y = .int .i64 (k : Int) ∧ x = .int .i64 s ∧ k ≤ R.length ∧ (k ≤ 1000 → s = (allN (R.take k) : Nat)) ∧ Cls W wr
def GNew (w w' : World) (v : Value) (R : List (List Pt)) : Prop := ∃ ps, GOwn w' w.heap.size v ps ∧ ps.map (·.2) = R
def CpAt (w : World) (R : List (List Pt)) (v i : Value) (wr : World) : Prop := ∃ (k : Nat) (ps : List (Value × List Pt)), i = .int .i64 (k : Int) ∧ k ≤ R.length ∧ GOwn wr w.heap.size v ps ∧ ps.map (·.2) = R.take k ∧ Below w.heap.size w wr
set_option maxRecDepth 100000 in
set_option maxHeartbeats 2000000 in
theorem k_CopyRings (w : World) (a : Option Addr) (n ca : Nat) (R : List (List Pt)) (hR : GRC w a n ca R) (hs : n ≤ 1000) (hl : ∀ K ∈ R, K.length ≤ 100000) :
    Calls Tryz.prog 28 #[.slice a n ca] w fun e w' => (∃ v, e = .returned v ∧ GNew w w' v R) ∧ Junk w w' := by
  have L1 := Lib.hid hR.len
  have HR := Lib.hid hR
  have HL := Lib.hid hl
  clear hR hl
  go_enter Tryz.func28, Tryz.ntmps28
  go_wp2_with fail
  go_loopw [3, 4] (fun v i wr => CpAt w R v i wr) (fun _ i _ => n - (intOf i).toNat)
  case atStart => exact ⟨0, [], rfl, by omega, gown_nil _ _, rfl, Below.refl _ _⟩
  case round =>
    obtain ⟨k, ps, rfl, k1, hown, hps, hB⟩ := hrel
    rw [L1.out] at k1
    by_cases hlt : k < n
    · rcases HR.out.cells with h | ⟨b, o, rfl, hc⟩
      · omega
      obtain ⟨x, m, c, p1, hp⟩ := hc k hlt
      have hkR : k < R.length := by rw [L1.out]; exact hlt
      have hm : m ≤ 100000 := by rw [← hp.rd.1]; exact HL.out _ (by rw [List.getD_eq_getElem?_getD, List.getElem?_eq_getElem hkR]; exact List.getElem_mem hkR)
      have hbW : b < w.heap.size := World.block_lt_of_cell? _ _ p1
      have s1 := (World.cell?_of_block (hB.block _ hbW)).trans p1
      obtain ⟨Kk, hKk⟩ : ∃ Kk, R.getD k [] = Kk := ⟨_, rfl⟩
      rw [hKk] at hp
      have HPR := Lib.hid (hp.below hB)
      have hsz := hB.size
      have HOW := Lib.hid hown
      have HB := Lib.hid hB
      have hpl : ps.length = k := by have := congrArg List.length hps; rw [List.length_map, List.length_take] at this; omega
      have HPS := Lib.hid (show (ps.map (·.2)) ++ [Kk] = R.take (k + 1) by rw [← hKk, hps, List.take_succ_eq_append_getElem hkR, List.getD_eq_getElem?_getD, List.getElem?_eq_getElem hkR, Option.getD_some])
      obtain ⟨wo, rfl⟩ : ∃ wo : World, wo = wr := ⟨_, rfl⟩
      have lb : b < wo.heap.size := Nat.lt_of_lt_of_le hbW hsz
      have i1 : (k : Int) < (n : Int) := by omega
      have HM := Lib.hid hm
      have HPL := Lib.hid hpl
      clear hc p1 hp hown hps hB hm hpl hKk
      go_wp2_with (first
        | (at_builtin; refine wpList_gcopy rfl (.tmp 12) (.tmp 16) rfl (by simp [go_sem]) x m c Kk rfl HPR.out HM.out ?_; intro v1 w1 hown1 hb1; obtain ⟨av, cv, rfl, _⟩ := prc_owns hown1;
            have HO1 := Lib.hid (gown_base hown1 hsz); have HB1 := Lib.hid hb1; have hz1 := hb1.size; clear hown1 hb1)
        | (at_builtin; refine wpList_gapp rfl (.tmp 11) (.tmp 18) rfl w.heap.size _ ps rfl ((HOW.out.below HB1.out).below (by (repeat' first | with_reducible (first | apply Below.refl | assumption | apply bw_a | apply bw_d | apply bw_n | apply bw_p | apply bw_c | apply bw_r) | go_size))) _ _ Kk rfl (by simp [go_sem]) (gown_keeps HO1.out (gkeeps_below (by (repeat' first | with_reducible (first | apply Below.refl | assumption | apply bw_a | apply bw_d | apply bw_n | apply bw_p | apply bw_c | apply bw_r) | go_size)) _ _)) (by have := HPL.out; omega) (by simp; omega) ?_; intro v2 w2 hown2 hg2))
      go_roundw
      case rel => exact ⟨k + 1, _, by go_num, by rw [L1.out]; omega, hown2, by rw [List.map_append]; exact HPS.out, grown_below (B := w.heap.size) (a := w) (HB.out.trans ((HB1.out.trans (by (repeat' first | with_reducible (first | apply Below.refl | assumption | apply bw_a | apply bw_d | apply bw_n | apply bw_p | apply bw_c | apply bw_r) | go_size))).mono hsz)) hg2 (by simp; omega) (fun r hr => (gown_block (HOW.out).row r hr).1)⟩
      case measure => simp [intOf]; omega
    · obtain rfl : k = n := by omega
      rw [List.take_of_length_le (by rw [L1.out]; omega)] at hps
      have HOW := Lib.hid hown
      have HPS := Lib.hid hps
      have HB := Lib.hid hB
      have i1 : ¬ (k : Int) < (k : Int) := by omega
      clear hown hps hB
      go_wp2_with fail
      go_ret
      exact ⟨⟨_, rfl, _, HOW.out, HPS.out⟩, junk_of_below HB.out⟩
theorem results_reg {fn : Func} {p : Tmp} (h : fn.results = #[.cell p 28]) (tmps : Array Value) (w : World) (g : Nat) (c : Array Value)
    (hp : tmps.getD p undef = .pointer (some ⟨g, 0, none⟩)) (hr : w.rowAt g = some c) (hc : c.size = 1) : (results fn tmps).run Tryz.prog w = .ok (.agg c) w := by
  obtain ⟨ty, hg⟩ := rowAt_some hr
  have hp' : tmps[p]?.getD undef = .pointer (some ⟨g, 0, none⟩) := by simpa using hp
  simp [results, h, hp', asAddr, run_loadVar_row w g ty _ c (0, 0) _ hg Tryz.underlying28 rfl (by rw [hc]; kernel_rfl)]
def SrAt (w : World) (n : Nat) (x : Value) (wr : World) : Prop := ∃ k : Nat, x = .int .i64 (k : Int) ∧ k ≤ n ∧ Cls w wr
end

section
set_option linter.unusedVariables false
set_option linter.unusedSimpArgs false
open Go.RowKit
def GsAt (W : World) (F : Nat → Bool) (n : Nat) (x : Value) (wr : World) : Prop := ∃ q : Nat, x = .int .i64 (q : Int) ∧ q ≤ n ∧ (∀ j, j < q → F j = false) ∧ Cls W wr
def SuAt (W : World) (R : List (List Pt)) (x y : Value) (wr : World) : Prop := ∃ k : Nat, y = .int .i64 (k : Int) ∧ x = .int .i64 (allN (R.take k) : Nat) ∧ k ≤ R.length ∧ Cls W wr
def MiAt (W : World) (R : List (List Pt)) (i : Nat) (x : Value) (wr : World) : Prop := ∃ k : Nat, x = .int .i64 (k : Int) ∧ i + 1 ≤ k ∧ k ≤ R.length ∧ (∀ j, i + 1 ≤ j → j < k → rMeet (R.getD i []) (R.getD j []) = false) ∧ Cls W wr
theorem rings_hit {R : List (List Pt)} {i k : Nat} (h1 : i + 1 ≤ k) (hk : k < R.length) (h : rMeet (R.getD i []) (R.getD k []) = true) : ringsAt R i = true := by
  unfold ringsAt
  rw [List.any_eq_true]
  refine ⟨R.getD k [], ?_, h⟩
  rw [List.getD_eq_getElem?_getD, List.getElem?_eq_getElem hk, Option.getD_some]
  rw [List.mem_iff_getElem]
  refine ⟨k - (i + 1), by rw [List.length_drop]; omega, ?_⟩
  rw [List.getElem_drop]
  congr 1
  omega
theorem rings_not {R : List (List Pt)} {i : Nat} (h : ∀ j, i + 1 ≤ j → j < R.length → rMeet (R.getD i []) (R.getD j []) = false) : ringsAt R i = false := by
  unfold ringsAt
  rw [List.any_eq_false]
  intro M hM
  obtain ⟨j, hj, e⟩ := List.mem_iff_getElem.1 hM
  rw [List.length_drop] at hj
  rw [List.getElem_drop] at e
  have := h (i + 1 + j) (by omega) (by omega)
  rw [List.getD_eq_getElem?_getD, List.getD_eq_getElem?_getD, List.getElem?_eq_getElem (show i + 1 + j < R.length by omega), Option.getD_some, e] at this
  rw [List.getD_eq_getElem?_getD]
  simp [this]
set_option maxRecDepth 100000 in
set_option maxHeartbeats 4000000 in
theorem r_reCheck (w : World) (a : Option Addr) (n ca : Nat) (R : List (List Pt)) (hR : GRC w a n ca R) (hl : ∀ K ∈ R, K.length ≤ 8796093022208) :
    Calls Tryz.prog 33 #[.agg #[.slice a n ca]] w fun e w' => e = .returned (fltV (checkR R)) ∧ Junk w w' := by
  have L1 := Lib.hid hR.len
  obtain ⟨V, hV⟩ : ∃ V, checkR R = V := ⟨_, rfl⟩
  rw [hV]
  have HV := Lib.hid hV
  have HK := Lib.hid hR.cells
  have HL := Lib.hid hl
  have hln := hR.len
  by_cases h1 : 20 < n
  · have HE := Lib.hid (show V = (3, 0) by rw [← hV]; unfold checkR; rw [if_pos (by rw [hln]; exact h1)])
    have i1 : (20 : Int) < (n : Int) := by omega
    clear hR hl hV h1 hln
    go_enter Tryz.func33, Tryz.ntmps33
    go_wp2_with fail
    refine bodyPost_ret (results_flt rfl _ _ (w.heap.size + 1) #[.int .i64 3, .int .i64 0] rfl (by simp [go_sem]) rfl) rfl ⟨congrArg Ending.returned (show _ = fltV V by rw [HE.out]; rfl), junk_of_below (by (repeat' first | with_reducible (first | apply Below.refl | assumption | apply bw_a | apply bw_d | apply bw_n | apply bw_p | apply bw_c | apply bw_r) | go_size))⟩
  by_cases h2 : n = 0
  · have HE := Lib.hid (show V = (2, 0) by rw [← hV]; unfold checkR; rw [if_neg (by rw [hln]; exact h1), if_pos (by rw [hln]; exact h2)])
    have i1 : ¬ (20 : Int) < (n : Int) := by omega
    have i2 : ((n : Int) == 0) = true := by rw [beq_iff_eq]; omega
    clear hR hl hV h1 h2 hln
    go_enter Tryz.func33, Tryz.ntmps33
    go_wp2_with fail
    refine bodyPost_ret (results_flt rfl _ _ (w.heap.size + 1) #[.int .i64 2, .int .i64 0] rfl (by simp [go_sem]) rfl) rfl ⟨congrArg Ending.returned (show _ = fltV V by rw [HE.out]; rfl), junk_of_below (by (repeat' first | with_reducible (first | apply Below.refl | assumption | apply bw_a | apply bw_d | apply bw_n | apply bw_p | apply bw_c | apply bw_r) | go_size))⟩
  have HG := Lib.hid (show ∀ r, (if 400 < allN R then (211, 0) else match firstQ (badAt R) R.length with | some i => ((checkF (R.getD i [])).1, i) | none => orFault (firstQ (ringsAt R) R.length) 210 (0, 0)) = r → V = r by
    intro r hr
    rw [← hV, ← hr]; unfold checkR; rw [if_neg (by rw [hln]; exact h1), if_neg (by rw [hln]; exact h2)]; rfl)
  rcases hR.cells with hz | ⟨b, o, rfl, hc0⟩
  · exact absurd hz h2
  have HC := Lib.hid hc0
  have i1 : ¬ (20 : Int) < (n : Int) := by omega
  have i2 : ((n : Int) == 0) = false := by rw [beq_eq_false_iff_ne]; omega
  have n20 : n ≤ 20 := by omega
  have hbw : b < w.heap.size := by obtain ⟨x, m, c, p1, _⟩ := hc0 0 (by omega); exact World.block_lt_of_cell? _ _ p1
  clear hR hl hV h1 h2 hln hc0
  go_enter Tryz.func33, Tryz.ntmps33
  go_wp2_with fail
  go_loopw [3, 4] (fun x y wr => SuAt ((w.alloc (.cells #[.slice (some ⟨b, o, none⟩) n ca] 28)).alloc (.cells #[.int .i64 0, .int .i64 0] 33)) R x y wr) (fun _ y _ => n - (intOf y).toNat)
  case atStart => exact ⟨0, rfl, rfl, by omega, #[], _, (plus_nil _).symm⟩
  case round =>
    obtain ⟨k, rfl, rfl, k1, J, d, rfl⟩ := hrel
    rw [L1.out] at k1
    have hle : allN (R.take k) ≤ k * 8796093022208 := by
      have := alln_le (R := R.take k) (B := 8796093022208) fun K hK => HL.out K (List.mem_of_mem_take hK)
      rw [List.length_take] at this
      exact Nat.le_trans this (Nat.mul_le_mul_right _ (by omega))
    have hle2 : k * 8796093022208 ≤ 20 * 8796093022208 := Nat.mul_le_mul_right _ (by omega)
    by_cases hlt : k < n
    · obtain ⟨x, m, c, p1, hp⟩ := HC.out k hlt
      have hkR : k < R.length := by rw [L1.out]; exact hlt
      have hm : m ≤ 8796093022208 := by rw [← hp.rd.1]; exact HL.out _ (by rw [List.getD_eq_getElem?_getD, List.getElem?_eq_getElem hkR]; exact List.getElem_mem hkR)
      have HS := Lib.hid (show allN (R.take (k + 1)) = allN (R.take k) + m by rw [alln_step hkR, hp.rd.1])
      generalize allN (R.take k) = q at *
      have i3 : (k : Int) < (n : Int) := by omega
      have w1 : IntKind.i64.wrap ((q : Int) + (m : Int)) = (q : Int) + (m : Int) := by simp [IntKind.wrap, IntKind.signed, IntKind.bits]; omega
      clear hp hm hle hle2
      go_wp2_with fail
      go_roundw
      case rel => exact ⟨k + 1, by go_num, by rw [HS.out]; push_cast; rfl, by rw [L1.out]; omega, _, _, rfl⟩
      case measure => simp [intOf]; omega
    · have hkn : n = k := by omega
      have hq : allN (R.take k) = allN R := by rw [List.take_of_length_le (by rw [L1.out]; omega)]
      clear hkn
      rw [hq] at hle ⊢
      generalize hqq : allN R = q at *
      have i3 : ¬ (k : Int) < (n : Int) := by omega
      by_cases h4 : 400 < q
      · have HE := Lib.hid (HG.out (211, 0) (if_pos h4))
        have i4 : (400 : Int) < (q : Int) := by omega
        clear hq hqq hle hle2 h4
        go_wp2_with fail
        refine bodyPost_ret (results_flt rfl _ _ (w.heap.size + 1) #[.int .i64 211, .int .i64 0] rfl (by simp [go_sem]) rfl) rfl ⟨congrArg Ending.returned (show _ = fltV V by rw [HE.out]; rfl), junk_of_below (by (repeat' first | with_reducible (first | apply Below.refl | assumption | apply bw_a | apply bw_d | apply bw_n | apply bw_p | apply bw_c | apply bw_r) | go_size))⟩
      have i4 : ¬ (400 : Int) < (q : Int) := by omega
      have HG2 := Lib.hid (fun r hr => HG.out r ((if_neg h4).trans hr))
      clear hq hqq hle hle2 h4 HG
      go_wp2_with fail
      go_loopw [5] (fun x wr => GsAt ((w.alloc (.cells #[.slice (some ⟨b, o, none⟩) n ca] 28)).alloc (.cells #[.int .i64 0, .int .i64 0] 33)) (badAt R) n x wr) (fun x _ => n - (intOf x).toNat)
      case atStart => exact ⟨0, rfl, by omega, fun j hj => by omega, _, _, rfl⟩
      case round =>
        obtain ⟨i, rfl, k2, hk, J1, d1, rfl⟩ := hrel
        have HB1 := Lib.hid hk
        clear hk
        by_cases hlt : i < n
        · obtain ⟨x, m, c, p1, hp⟩ := HC.out i hlt
          have hkR : i < R.length := by rw [L1.out]; exact hlt
          have hm : m ≤ 8796093022208 := by rw [← hp.rd.1]; exact HL.out _ (by rw [List.getD_eq_getElem?_getD, List.getElem?_eq_getElem hkR]; exact List.getElem_mem hkR)
          have HCk := Lib.hid (fun w' h => r_rgCheck w' x m c (R.getD i []) h (by omega))
          have HP := Lib.hid hp.rd
          have HBd := Lib.hid (show badAt R i = !decide ((checkF (R.getD i [])).1 = 0) from rfl)
          obtain ⟨⟨e, t⟩, he⟩ : ∃ r, checkF (R.getD i []) = r := ⟨_, rfl⟩
          rw [he] at HCk HBd
          have HE := Lib.hid he
          unfold fltV at HCk
          simp only at HCk HBd
          have i5 : (i : Int) < (n : Int) := by omega
          clear hp hm he
          by_cases h0 : e = 0
          · subst h0
            have HN := Lib.hid (show ∀ j, j < i + 1 → badAt R j = false from fun j hj => by
              by_cases hjk : j = i
              · subst hjk; rw [HBd.out]; rfl
              · exact HB1.out j (by omega))
            go_wp2_with (go_at_call 50; refine (HCk.out _ (HP.out.below (by (repeat' first | with_reducible (first | apply Below.refl | assumption | apply bw_a | apply bw_d | apply bw_n | apply bw_p | apply bw_c | apply bw_r) | go_size)))).mono ?_; rintro e w1 ⟨rfl, J9, d9, rfl⟩)
            go_roundw
            case rel => exact ⟨i + 1, by go_num, by omega, HN.out, cls_of (junk_of_below (by (repeat' first | with_reducible (first | apply Below.refl | assumption | apply bw_a | apply bw_d | apply bw_n | apply bw_p | apply bw_c | apply bw_r) | go_size)))⟩
            case measure => simp [intOf]; omega
          · have HE2 := Lib.hid (HG2.out (e, i) (by
              rw [first_some (show i < R.length by rw [L1.out]; exact hlt) (by rw [HBd.out, decide_eq_false h0]; rfl) HB1.out]
              simp only [HE.out]))
            have e5 : (e != 0) = true := by simpa using h0
            clear h0
            go_wp2_with (go_at_call 50; refine (HCk.out _ (HP.out.below (by (repeat' first | with_reducible (first | apply Below.refl | assumption | apply bw_a | apply bw_d | apply bw_n | apply bw_p | apply bw_c | apply bw_r) | go_size)))).mono ?_; rintro e w1 ⟨rfl, J9, d9, rfl⟩)
            refine bodyPost_ret (results_flt rfl _ _ (w.heap.size + 1) #[.int .i64 e, .int .i64 (i : Int)] rfl (by simp [go_sem]) rfl) rfl ⟨congrArg Ending.returned (show _ = fltV V by rw [HE2.out]; rfl), junk_of_below (by (repeat' first | with_reducible (first | apply Below.refl | assumption | apply bw_a | apply bw_d | apply bw_n | apply bw_p | apply bw_c | apply bw_r) | go_size))⟩
        · have H0 := Lib.hid (first_none.2 (show ∀ j, j < R.length → badAt R j = false from fun j hj => HB1.out j (by rw [L1.out] at hj; omega)))
          have i5 : ¬ (i : Int) < (n : Int) := by omega
          go_wp2_with fail
          go_loopw [7] (fun x wr => GsAt ((w.alloc (.cells #[.slice (some ⟨b, o, none⟩) n ca] 28)).alloc (.cells #[.int .i64 0, .int .i64 0] 33)) (ringsAt R) n x wr) (fun x _ => n - (intOf x).toNat)
          case atStart => exact ⟨0, rfl, by omega, fun j hj => by omega, _, _, rfl⟩
          case round =>
            obtain ⟨i', rfl, k3, hk, J2, d2, rfl⟩ := hrel
            have HB2 := Lib.hid hk
            clear hk
            by_cases hlt : i' < n
            · obtain ⟨x, m, c, p1, hp⟩ := HC.out i' hlt
              have hkR : i' < R.length := by rw [L1.out]; exact hlt
              have hm : m ≤ 8796093022208 := by rw [← hp.rd.1]; exact HL.out _ (by rw [List.getD_eq_getElem?_getD, List.getElem?_eq_getElem hkR]; exact List.getElem_mem hkR)
              have HP := Lib.hid hp.rd
              have HMm := Lib.hid hm
              have i6 : (i' : Int) < (n : Int) := by omega
              clear hp hm
              go_wp2_with fail
              go_loopw [8] (fun x wr => MiAt ((w.alloc (.cells #[.slice (some ⟨b, o, none⟩) n ca] 28)).alloc (.cells #[.int .i64 0, .int .i64 0] 33)) R i' x wr) (fun x _ => n - (intOf x).toNat)
              case atStart => exact ⟨i' + 1, by go_num, by omega, by rw [L1.out]; omega, fun j h1 h2 => by omega, _, _, rfl⟩
              case round =>
                obtain ⟨k', rfl, k4, k5, hk, J3, d3, rfl⟩ := hrel
                rw [L1.out] at k5
                have HB3 := Lib.hid hk
                clear hk
                by_cases hlt2 : k' < n
                · obtain ⟨y, l, f, p2, hp⟩ := HC.out k' hlt2
                  have hkR2 : k' < R.length := by rw [L1.out]; exact hlt2
                  have hm : l ≤ 8796093022208 := by rw [← hp.rd.1]; exact HL.out _ (by rw [List.getD_eq_getElem?_getD, List.getElem?_eq_getElem hkR2]; exact List.getElem_mem hkR2)
                  have HP2 := Lib.hid hp.rd
                  have HMt := Lib.hid (fun (J : Array Obj) (d : Nat) => r_reMeet (((w.alloc (.cells #[.slice (some ⟨b, o, none⟩) n ca] 28)).alloc (.cells #[.int .i64 0, .int .i64 0] 33)).plus J d) x y m l c f (R.getD i' []) (R.getD k' []) (HP.out.below (by (repeat' first | with_reducible (first | apply Below.refl | assumption | apply bw_a | apply bw_d | apply bw_n | apply bw_p | apply bw_c | apply bw_r) | go_size))) (HP2.out.below (by (repeat' first | with_reducible (first | apply Below.refl | assumption | apply bw_a | apply bw_d | apply bw_n | apply bw_p | apply bw_c | apply bw_r) | go_size))) (by have := HMm.out; omega) (by omega))
                  obtain ⟨r, hr⟩ : ∃ r, rMeet (R.getD i' []) (R.getD k' []) = r := ⟨_, rfl⟩
                  rw [hr] at HMt
                  have HRR := Lib.hid hr
                  have i7 : (k' : Int) < (n : Int) := by omega
                  clear hp hm hr
                  go_upto_region 24 with fail
                  refine region_quiet_all (C := Cls ((w.alloc (.cells #[.slice (some ⟨b, o, none⟩) n ca] 28)).alloc (.cells #[.int .i64 0, .int .i64 0] 33))) (by kernel_rfl) (by kernel_rfl) ⟨_, _, rfl⟩ ?_
                  repeat (first | (refine qw_skip (by rfl) ?_; simp only [Act.put, List.setIfInBounds_toArray, List.set_cons_succ, List.set_cons_zero]) | (refine qw_want (by rfl) (fun K hK => ?_); go_simp; first | (refine hK _ ?_; clear hK K) | (apply Exists.intro; refine ⟨?_, hK _ ?_⟩; (rintro w3_ ⟨J3_, d3_, rfl⟩; first | (with_reducible exact rfl) | (go_simp; with_reducible exact rfl) | (go_simp; (first | (with_reducible refine (L1.out _).mono ?_) | (with_reducible refine (HMt.out _ _).mono ?_)); rintro e_ w_ ⟨rfl, J4_, d4_, rfl⟩; exact ⟨rfl, J3_ ++ J4_, d4_, by simp only [plus_plus, Array.append_assoc]⟩)); clear hK K)))
                  refine qw_nil ?_
                  rintro w7 ⟨J4, d4, rfl⟩
                  cases r with
                  | true =>
                    have HE2 := Lib.hid (HG2.out (210, i') (by
                      rw [H0.out]
                      simp only
                      rw [first_some (show i' < R.length by rw [L1.out]; exact hlt) (rings_hit k4 hkR2 HRR.out) HB2.out]
                      rfl))
                    go_wp2_with fail
                    refine bodyPost_ret (results_flt rfl _ _ (w.heap.size + 1) #[.int .i64 210, .int .i64 (i' : Int)] rfl (by simp [go_sem]) rfl) rfl ⟨congrArg Ending.returned (show _ = fltV V by rw [HE2.out]; rfl), junk_of_below (by (repeat' first | with_reducible (first | apply Below.refl | assumption | apply bw_a | apply bw_d | apply bw_n | apply bw_p | apply bw_c | apply bw_r) | go_size))⟩
                  | false =>
                    have HN := Lib.hid (show ∀ j, i' + 1 ≤ j → j < k' + 1 → rMeet (R.getD i' []) (R.getD j []) = false from fun j h1 hj => by
                      by_cases hjk : j = k'
                      · subst hjk; exact HRR.out
                      · exact HB3.out j h1 (by omega))
                    go_wp2_with fail
                    go_roundw
                    case rel => exact ⟨k' + 1, by go_num, by omega, by rw [L1.out]; omega, HN.out, _, _, rfl⟩
                    case measure => simp [intOf]; omega
                · have HN := Lib.hid (show ∀ j, j < i' + 1 → ringsAt R j = false from fun j hj => by
                    by_cases hji : j = i'
                    · subst hji; exact rings_not fun l h1 hl => HB3.out l h1 (by rw [L1.out] at hl; omega)
                    · exact HB2.out j (by omega))
                  have i7 : ¬ (k' : Int) < (n : Int) := by omega
                  go_wp2_with fail
                  go_roundw
                  case rel => exact ⟨i' + 1, by go_num, by omega, HN.out, _, _, rfl⟩
                  case measure => simp [intOf]; omega
            · have HE2 := Lib.hid (HG2.out (0, 0) (by
                rw [H0.out]
                simp only
                rw [first_none.2 (show ∀ j, j < R.length → ringsAt R j = false from fun j hj => HB2.out j (by rw [L1.out] at hj; omega))]
                rfl))
              have i6 : ¬ (i' : Int) < (n : Int) := by omega
              go_wp2_with fail
              refine bodyPost_ret (results_flt rfl _ _ (w.heap.size + 1) #[.int .i64 0, .int .i64 0] rfl (by simp [go_sem]) rfl) rfl ⟨congrArg Ending.returned (show _ = fltV V by rw [HE2.out]; rfl), junk_of_below (by (repeat' first | with_reducible (first | apply Below.refl | assumption | apply bw_a | apply bw_d | apply bw_n | apply bw_p | apply bw_c | apply bw_r) | go_size))⟩
end

section
set_option linter.unusedVariables false
set_option linter.unusedSimpArgs false
open Go.RowKit
theorem grc_cells {w : World} {b : Nat} {vs : List Value} {R : List (List Pt)} (hn : R.length = vs.length) (hr : w.rowAt b = some vs.toArray) (h : ∀ i, i < R.length → ∃ x m c, vs[i]? = some (.slice x m c) ∧ PRC w x m c (R.getD i [])) : GRC w (some ⟨b, 0, none⟩) R.length R.length R := by
  refine ⟨rfl, ⟨Nat.le_refl _, fun e => by cases e⟩, .inr ⟨b, 0, rfl, fun i hi => ?_⟩⟩
  obtain ⟨x, m, c, e, hp⟩ := h i hi
  refine ⟨x, m, c, ?_, hp⟩
  obtain ⟨ty, hg⟩ := rowAt_some hr
  rw [cell_of_row w b _ _ _ _ hg]
  simpa using e
theorem grc_one {w : World} {b : Nat} {x : Option Addr} {m c : Nat} {K : List Pt} (hr : w.rowAt b = some #[.slice x m c]) (h1 : PRC w x m c K) : GRC w (some ⟨b, 0, none⟩) 1 1 [K] := by
  refine grc_cells (R := [K]) (vs := [.slice x m c]) rfl hr fun i hi => ?_
  match i, hi with
  | 0, _ => exact ⟨x, m, c, rfl, h1⟩
end
end Go.Proofs.YthphdiigjimchaaGreat

/- Rows of regions of the call's own: append. Package index: clone, check. Package index: Build. -/
import Derived.Test.YthphdiigjimchaaGreatIxMath
import Derived.Test.YthphdiigjimchaaGreatSbTwo
import Derived.Test.YthphdiigjimchaaGreatReTwo
import Derived.Test.YthphdiigjimchaaGreatBtBld
namespace Go.Proofs.YthphdiigjimchaaGreat
section
set_option linter.unusedVariables false
set_option linter.unusedSimpArgs false
open Go.RowKit Go.Joins
theorem info_reg : ∃ i, Tryz.prog.info? 28 = some i ∧ i.zero = some (.agg #[.slice none 0 0]) ∧ i.size = 1 ∧ i.bytes = 24 := by
  have h : (Tryz.prog.info? 28).map (fun i => (i.zero, i.size, i.bytes)) = some (some (.agg #[.slice none 0 0]), 1, 24) := by kernel_rfl
  cases hi : Tryz.prog.info? 28 with
  | none => rw [hi] at h; cases h
  | some i =>
    rw [hi] at h
    simp at h
    exact ⟨i, rfl, h.1, h.2.1, h.2.2⟩
structure LOwn (w : World) (base : Nat) (v : Value) (qs : List (Value × List (Value × List Pt))) : Prop where
  row : w.ownsRow base 28 1 v qs.length (qs.map (·.1))
  each : ∀ q ∈ qs, GOwn w base q.1 q.2
def regsOf (qs : List (Value × List (Value × List Pt))) : List (List (List Pt)) := qs.map fun q => q.2.map (·.2)
theorem lown_nil (w : World) (base : Nat) : LOwn w base (.slice none 0 0) [] := ⟨⟨rfl, .inl ⟨rfl, rfl⟩⟩, fun p hp => by cases hp⟩
theorem LOwn.below {W W' : World} {base : Nat} {v : Value} {qs : List (Value × List (Value × List Pt))} (h : LOwn W base v qs) (hb : Below W.heap.size W W') : LOwn W' base v qs :=
  ⟨gown_keeps h.row (gkeeps_below hb _ _), fun q hq => (h.each q hq).below hb⟩
theorem LOwn.lrc {w : World} {base : Nat} {v : Value} {qs : List (Value × List (Value × List Pt))} (h : LOwn w base v qs) : ∃ a ca, v = .slice a qs.length ca ∧ LRC w a qs.length ca (regsOf qs) := by
  obtain ⟨⟨h1, hr⟩, he⟩ := h
  rcases hr with ⟨rfl, h0⟩ | ⟨g, cap, cur, rfl, hg, hc, hnc, h5, h6, ht⟩
  · exact ⟨none, 0, by rw [h0], by simp [regsOf], ⟨by omega, fun _ => rfl⟩, .inl h0⟩
  · refine ⟨_, cap, rfl, by simp [regsOf], ⟨hnc, (fun h => by cases h)⟩, .inr ⟨g, 0, rfl, fun i hi => ?_⟩⟩
    have hp : qs[i]? = some qs[i] := List.getElem?_eq_getElem hi
    obtain ⟨a', c', e, hB⟩ := (he _ (List.getElem_mem hi)).grc
    refine ⟨a', _, c', ?_, by unfold regsOf; rw [List.getD_eq_getElem?_getD, List.getElem?_map, hp]; exact hB⟩
    rw [Nat.mul_one] at ht
    have h1 : (cur.toList.take qs.length)[i]? = some qs[i].1 := by rw [ht]; simp [hp]
    rw [List.getElem?_take_of_lt hi] at h1
    simp [World.cell?, hc]
    rw [← e]
    simpa using h1
theorem gown_grown {w w' : World} {base : Nat} {v : Value} {ps : List (Value × List Pt)} {row : Option Nat} (h : GOwn w base v ps) (hg : w.grownBy w' row)
    (hr : ∀ r, row = some r → ∃ c, w.heap[r]? = some (.cells c 28 (0, 0))) : GOwn w' base v ps := by
  have key : ∀ t, t ≠ 28 → GKeeps base t w w' := fun t ht => gkeeps_grown hg base t fun r c e1 _ e3 => by
    obtain ⟨c', hc'⟩ := hr r e1
    rw [e3] at hc'
    injection hc' with hc'
    injection hc' with _ hc' _
    exact ht hc'
  exact ⟨gown_keeps h.row (key _ (by decide)), fun p hp => gown_keeps (h.each p hp) (key _ (by decide))⟩
theorem wpList_rapp {ops : Array Oper} {rest : List Oper} {o : Oper} {a : Act} {w : World} {Q : Exit → Act → World → Prop} (hgd : o.guard = none) (s x : Operand)
    (ho : o.op = .call { callee := .builtin .append, args := #[s, x], argTypes := #[22, 22] }) (base : Nat) (v : Value) (qs : List (Value × List (Value × List Pt))) (hs : a.eval s = v) (hown : LOwn w base v qs)
    (g : Nat) (u : Value) (ps : List (Value × List Pt)) (hx : a.eval x = .slice (some ⟨g, 0, none⟩) 1 1) (hc : w.cell? ⟨g, 0, none⟩ = some u) (hu : GOwn w base u ps) (hm : qs.length ≤ 100000) (hb : base ≤ w.heap.size)
    (h : ∀ v' w', LOwn w' base v' (qs ++ [(u, ps)]) → w.grownBy w' v.ownBlock → wpList Tryz.prog ops Q rest (a.put o.dst v') w') : wpList Tryz.prog ops Q (o :: rest) a w := by
  obtain ⟨i0, hi0, hz0, hz1, hz2⟩ := info_reg
  obtain ⟨au, cu, eu, _⟩ := hu.grc
  refine wpList_append_own _ hgd s x _ ho base 28 i0 _ 1 24 Tryz.underlying22 hi0 hz0 hz1 hz2 rfl (by decide) v qs.length (qs.map (·.1)) hs hown.row ⟨g, 0, none⟩ 1 1 [u] hx
    rfl (fun j y hy => by
      cases j with
      | zero => simp at hy; subst hy; exact hc
      | succ j => simp at hy) (by intro y hy; simp at hy; subst hy; rw [eu]; rfl) (by unfold maxLen; omega) (by omega) hb ?_
  intro v' w' hown' hg _
  have hr : ∀ r, v.ownBlock = some r → ∃ c, w.heap[r]? = some (.cells c 28 (0, 0)) := fun r e => (gown_block hown.row r e).2
  refine h v' w' ⟨by simpa using hown', fun q hq => ?_⟩ hg
  rcases List.mem_append.1 hq with hq | hq
  · exact gown_grown (hown.each q hq) hg hr
  · rw [List.mem_singleton.1 hq]; exact gown_grown hu hg hr
theorem heap_new_at {w : World} {o : Obj} {n : Nat} (h : w.heap.size = n) : (w.alloc o).heap[n]? = some o := by subst h; exact World.alloc_heap_new _ _
theorem gown_box {W : World} {r p : Nat} {L : List Pt} {base n : Nat} (hr : W.heap[r]? = some (.cells #[.slice (some ⟨p, 0, none⟩) n n] 23 (0, 0))) (hp : W.ownsRow base 42 2 (.slice (some ⟨p, 0, none⟩) n n) L.length (pcells L)) (hb : base ≤ r) : GOwn W base (.slice (some ⟨r, 0, none⟩) 1 1) [(.slice (some ⟨p, 0, none⟩) n n, L)] := by
  refine ⟨?_, fun q hq => by rw [List.mem_singleton.1 hq]; exact hp⟩
  exact ⟨rfl, .inr ⟨r, 1, _, rfl, hb, hr, Nat.le_refl _, by decide, by simp, by simp⟩⟩
end

section
set_option linter.unusedVariables false
set_option linter.unusedSimpArgs false
open Go.RowKit
set_option maxRecDepth 100000 in
set_option maxHeartbeats 2000000 in
theorem n_slClone (w : World) (a : Option Addr) (n ca : Nat) (K : List Pt) (hr : PRC w a n ca K) (hm : n ≤ 100000) :
    Calls Tryz.prog 46 #[.slice a n ca] w fun e w' => (∃ v, e = .returned v ∧ w'.ownsRow w.heap.size 42 2 v K.length (pcells K)) ∧ Below w.heap.size w w' := by
  have hnil : ∀ (w : World) (a : Option Addr) (n c n' c' : Nat), (binOp .eql 23 (.slice a n c) (.slice none n' c')).run Tryz.prog w = .ok (.bool a.isNone) w := fun w a n c n' c' => Lib.run_eql_slice_nil w _ _ a n c n' c' Tryz.underlying23
  cases a with
  | none =>
    have h1 := hr.ok.le
    have h2 := hr.ok.nil rfl
    obtain rfl : n = 0 := by omega
    have hL : K = [] := List.eq_nil_of_length_eq_zero hr.rd.1
    subst hL
    clear hr
    go_enter Tryz.func46, Tryz.ntmps46
    go_wp2
    go_ret
    exact ⟨⟨_, rfl, ⟨rfl, .inl ⟨rfl, rfl⟩⟩⟩, Below.refl _ _⟩
  | some ad =>
    have HR := Lib.hid hr
    clear hr
    go_enter Tryz.func46, Tryz.ntmps46
    go_wp2_with (at_builtin; refine wpList_gcopy rfl (.tmp 5) (.tmp 6) rfl rfl (some ad) n ca K rfl HR.out hm ?_; intro v' w' hown hb)
    go_ret
    exact ⟨⟨_, rfl, hown⟩, hb⟩
def IkAt (base : Nat) (W : World) (R : List (List Pt)) (v i : Value) (wr : World) : Prop := ∃ (k : Nat) (ps : List (Value × List Pt)), i = .int .i64 (k : Int) ∧ k ≤ R.length ∧ GOwn wr base v ps ∧ ps.map (·.2) = R.take k ∧ Below W.heap.size W wr
set_option maxRecDepth 100000 in
set_option maxHeartbeats 2000000 in
theorem n_ixClone (w : World) (a : Option Addr) (n ca : Nat) (R : List (List Pt)) (hR : GRC w a n ca R) (hs : n ≤ 1000) (hl : ∀ K ∈ R, K.length ≤ 100000) :
    Calls Tryz.prog 31 #[.agg #[.slice a n ca]] w fun e w' => (∃ v ps, e = .returned (.agg #[v]) ∧ GOwn w' w.heap.size v ps ∧ ps.map (·.2) = R) ∧ Junk w w' := by
  have L1 := Lib.hid hR.len
  have HR := Lib.hid hR
  have HL := Lib.hid hl
  have HCl := Lib.hid n_slClone
  clear hR hl
  go_enter Tryz.func31, Tryz.ntmps31
  go_wp2_with fail
  obtain ⟨W, hW⟩ : ∃ W, (w.alloc (.cells #[.slice a n ca] 28)).alloc (.cells #[.slice none 0 0] 28) = W := ⟨_, rfl⟩
  have hz : W.heap.size = w.heap.size + 2 := by rw [← hW]; simp
  have hrow : W.rowAt (w.heap.size + 1) = some #[.slice none 0 0] := by rw [← hW]; simp [go_sem]
  have hj : Below w.heap.size w W := by rw [← hW]; (repeat' first | with_reducible (first | apply Below.refl | assumption | apply bw_a | apply bw_d | apply bw_n | apply bw_p | apply bw_c | apply bw_r) | go_size)
  have HRW := Lib.hid (HR.out.below hj)
  have HJ := Lib.hid hj
  have HZ := Lib.hid hz
  have HRow := Lib.hid hrow
  rw [hW]
  clear hW hj hz hrow HR
  go_loopw [3, 9] (fun v i wr => IkAt W.heap.size W R v i wr) (fun _ i _ => n - (intOf i).toNat)
  case atStart => exact ⟨0, [], rfl, by omega, gown_nil _ _, rfl, Below.refl _ _⟩
  case round =>
    obtain ⟨k, ps, rfl, k1, hown, hps, hB⟩ := hrel
    rw [L1.out] at k1
    by_cases hlt : k < n
    · rcases HRW.out.cells with h | ⟨b, o, rfl, hc⟩
      · omega
      obtain ⟨x, m, c, p1, hp⟩ := hc k hlt
      have hkR : k < R.length := by rw [L1.out]; exact hlt
      have hm : m ≤ 100000 := by rw [← hp.rd.1]; exact HL.out _ (by rw [List.getD_eq_getElem?_getD, List.getElem?_eq_getElem hkR]; exact List.getElem_mem hkR)
      have hbW : b < W.heap.size := World.block_lt_of_cell? _ _ p1
      have s1 := (World.cell?_of_block (hB.block _ hbW)).trans p1
      obtain ⟨Kk, hKk⟩ : ∃ Kk, R.getD k [] = Kk := ⟨_, rfl⟩
      rw [hKk] at hp
      have HPR := Lib.hid (hp.below hB)
      have hsz := hB.size
      have HOW := Lib.hid hown
      have HB := Lib.hid hB
      have hpl : ps.length = k := by have := congrArg List.length hps; rw [List.length_map, List.length_take] at this; omega
      have HPS := Lib.hid (show (ps.map (·.2)) ++ [Kk] = R.take (k + 1) by rw [← hKk, hps, List.take_succ_eq_append_getElem hkR, List.getD_eq_getElem?_getD, List.getElem?_eq_getElem hkR, Option.getD_some])
      obtain ⟨wo, rfl⟩ : ∃ wo : World, wo = wr := ⟨_, rfl⟩
      have lb : b < wo.heap.size := Nat.lt_of_lt_of_le hbW hsz
      have i1 : (k : Int) < (n : Int) := by omega
      have HM := Lib.hid hm
      have HPL := Lib.hid hpl
      clear hc p1 hp hown hps hB hm hpl hKk
      go_wp2_with (first
        | (go_at_call 46; refine (HCl.out wo x m c Kk HPR.out HM.out).mono ?_; rintro e w1 ⟨⟨v1, rfl, hown1⟩, hb1⟩; obtain ⟨av, cv, rfl, _⟩ := prc_owns hown1; have HO1 := Lib.hid (gown_base hown1 hsz); have HB1 := Lib.hid hb1; have hz1 := hb1.size; clear hown1 hb1)
        | (at_builtin; refine wpList_gapp rfl (.tmp 13) (.tmp 16) rfl W.heap.size _ ps rfl ((HOW.out.below HB1.out).below (by (repeat' first | with_reducible (first | apply Below.refl | assumption | apply bw_a | apply bw_d | apply bw_n | apply bw_p | apply bw_c | apply bw_r) | go_size))) _ _ Kk rfl (by simp [go_sem]) (gown_keeps HO1.out (gkeeps_below (by (repeat' first | with_reducible (first | apply Below.refl | assumption | apply bw_a | apply bw_d | apply bw_n | apply bw_p | apply bw_c | apply bw_r) | go_size)) _ _)) (by have := HPL.out; omega) (by simp; omega) ?_; intro v2 w2 hown2 hg2))
      go_roundw
      case rel => exact ⟨k + 1, _, by go_num, by rw [L1.out]; omega, hown2, by rw [List.map_append]; exact HPS.out, grown_below (B := W.heap.size) (a := W) (HB.out.trans ((HB1.out.trans (by (repeat' first | with_reducible (first | apply Below.refl | assumption | apply bw_a | apply bw_d | apply bw_n | apply bw_p | apply bw_c | apply bw_r) | go_size))).mono hsz)) hg2 (by simp; omega) (fun r hr => (gown_block (HOW.out).row r hr).1)⟩
      case measure => simp [intOf]; omega
    · obtain rfl : k = n := by omega
      rw [List.take_of_length_le (by rw [L1.out]; omega)] at hps
      have HOW := Lib.hid hown
      have HPS := Lib.hid hps
      have HB := Lib.hid hB
      obtain ⟨vx, vc, rfl, _⟩ := hown.grc
      have hr2 : wr.rowAt (w.heap.size + 1) = some #[.slice none 0 0] := (rowAt_of_block (hB.block _ (by have := HZ.out; omega))).trans HRow.out
      have c0 := ucell_of_row hr2 0
      simp at c0
      have l0 := World.block_lt_of_cell? _ _ c0
      have f0 : wr.frozen? ⟨w.heap.size + 1, 0, none⟩ = false := by
        obtain ⟨ty, h⟩ := rowAt_some hr2
        simp [World.frozen?, h]
      have HR2 := Lib.hid hr2
      have i1 : ¬ (k : Int) < (k : Int) := by omega
      clear hown hps hB hr2
      go_wp2_with fail
      refine bodyPost_ret (results_reg rfl _ _ (w.heap.size + 1) #[.slice vx ps.length vc] rfl ?_ rfl) rfl ⟨⟨_, rfl, ps, ((HOW.out.set (by have := HZ.out; omega) _).base (by have := HZ.out; omega)), HPS.out⟩, junk_of_below ((HJ.out.trans (HB.out.mono HJ.out.size)).setCell (by show w.heap.size ≤ w.heap.size + 1; omega) _)⟩
      rw [set1 HR2.out, rowAt_setRow HR2.out]
      rfl
set_option maxRecDepth 100000 in
set_option maxHeartbeats 2000000 in
theorem n_ixCheck (w : World) (a : Option Addr) (n ca : Nat) (L : List (List (List Pt))) (hL : LRC w a n ca L) (hs : n ≤ 4611686018427387903) (hl : n ≤ 64 → ∀ R ∈ L, R.length ≤ 1000 ∧ ∀ K ∈ R, K.length ≤ 100000) :
    Calls Tryz.prog 29 #[.slice a n ca] w fun e w' => e = .returned (fltV (checkX L)) ∧ Junk w w' := by
  have L1 := Lib.hid hL.len
  have hln := hL.len
  obtain ⟨V, hV⟩ : ∃ V, checkX L = V := ⟨_, rfl⟩
  rw [hV]
  have HV := Lib.hid hV
  by_cases h1 : 64 < n
  · have HE := Lib.hid (show V = (3, 0) by rw [← hV]; exact checkX_many (by omega))
    have i1 : (n : Int) > 64 := by omega
    clear hL hl hV h1 hln
    go_enter Tryz.func29, Tryz.ntmps29
    go_wp2_with fail
    refine bodyPost_ret (results_flt rfl _ _ w.heap.size #[.int .i64 3, .int .i64 0] rfl (by simp [go_sem]) rfl) rfl ⟨congrArg Ending.returned (show _ = fltV V by rw [HE.out]; rfl), junk_of_below (by (repeat' first | with_reducible (first | apply Below.refl | assumption | apply bw_a | apply bw_d | apply bw_n | apply bw_p | apply bw_c | apply bw_r) | go_size))⟩
  have HK := Lib.hid hL
  have n64 : n ≤ 64 := by omega
  have HL := Lib.hid (hl n64)
  have i1 : ¬ (n : Int) > 64 := by omega
  clear hL hl hV h1 hln
  go_enter Tryz.func29, Tryz.ntmps29
  go_wp2_with fail
  have HJ := Lib.hid (show Below w.heap.size w (w.alloc (.cells #[.int .i64 0, .int .i64 0] 33)) by (repeat' first | with_reducible (first | apply Below.refl | assumption | apply bw_a | apply bw_d | apply bw_n | apply bw_p | apply bw_c | apply bw_r) | go_size))
  go_loopw [12] (fun x wr => IcAt (w.alloc (.cells #[.int .i64 0, .int .i64 0] 33)) L n x wr) (fun x _ => n - (intOf x).toNat)
  case atStart => exact ⟨0, rfl, by omega, fun j hj => by omega, #[], _, (plus_nil _).symm⟩
  case round =>
    obtain ⟨k, rfl, k1, hk, J, d, rfl⟩ := hrel
    have HB := Lib.hid hk
    clear hk
    by_cases hlt : k < n
    · obtain ⟨b, o, x, m, c, rfl, p1, hg, hb⟩ := HK.out.at hlt
      have hkL : k < L.length := by rw [L1.out]; exact hlt
      have hkl := HL.out _ (mem_getD hkL)
      have hgl := hg.len
      have HC := Lib.hid (fun w' (h : GRC w' x m c (L.getD k [])) => c_reCheck w' x m c (L.getD k []) h (by omega) hkl.2)
      obtain ⟨⟨e, t⟩, he⟩ : ∃ r, checkR (L.getD k []) = r := ⟨_, rfl⟩
      rw [he] at HC
      have HE := Lib.hid he
      have HG := Lib.hid hg
      unfold fltV at HC
      simp only at HC
      have i5 : (k : Int) < (n : Int) := by omega
      clear he hg hkl hgl
      by_cases h0 : e = 0
      · subst h0
        have HN := Lib.hid (show ∀ j, j < k + 1 → (checkR (L.getD j [])).1 = 0 from fun j hj => by
          by_cases hjk : j = k
          · subst hjk; rw [HE.out]
          · exact HB.out j (by omega))
        go_wp2_with (go_at_call 43; (with_reducible refine (HC.out _ (HG.out.below (by ((try simp only [← Array.append_assoc]); repeat' first | with_reducible (first | apply Below.refl | assumption | apply bw_a | apply bw_d | apply bw_n | apply bw_e | apply bw_s | apply bw_p | apply bw_c | apply bw_r) | go_size)))).mono ?_); rintro e w1 ⟨rfl, J2, d2, rfl⟩)
        go_roundw
        case rel => exact ⟨k + 1, by go_num, by omega, HN.out, junk_of_below (by ((try simp only [← Array.append_assoc]); repeat' first | with_reducible (first | apply Below.refl | assumption | apply bw_a | apply bw_d | apply bw_n | apply bw_e | apply bw_s | apply bw_p | apply bw_c | apply bw_r) | go_size))⟩
        case measure => simp [intOf]; omega
      · have HN := Lib.hid (show V = (e, k) by rw [← HV.out, checkX_hit (by rw [L1.out]; omega) hkL HB.out (by rw [HE.out]; exact h0), HE.out])
        have e1 : (e != 0) = true := by simpa using h0
        go_wp2_with (go_at_call 43; (with_reducible refine (HC.out _ (HG.out.below (by ((try simp only [← Array.append_assoc]); repeat' first | with_reducible (first | apply Below.refl | assumption | apply bw_a | apply bw_d | apply bw_n | apply bw_e | apply bw_s | apply bw_p | apply bw_c | apply bw_r) | go_size)))).mono ?_); rintro e w1 ⟨rfl, J2, d2, rfl⟩)
        refine bodyPost_ret (results_flt rfl _ _ w.heap.size #[.int .i64 e, .int .i64 (k : Int)] rfl (by simp [go_sem]) rfl) rfl ⟨congrArg Ending.returned (show _ = fltV V by rw [HN.out]; rfl), junk_of_below (by (repeat' first | with_reducible (first | apply Below.refl | assumption | apply bw_a | apply bw_d | apply bw_n | apply bw_p | apply bw_c | apply bw_r) | go_size))⟩
    · obtain rfl : k = n := by omega
      have HN := Lib.hid (show V = (0, 0) by rw [← HV.out]; exact checkX_none (by rw [L1.out]; omega) (fun j hj => HB.out j (by rw [L1.out] at hj; exact hj)))
      have i5 : ¬ (k : Int) < (k : Int) := by omega
      go_wp2_with fail
      refine bodyPost_ret (results_flt rfl _ _ w.heap.size #[.int .i64 0, .int .i64 0] rfl (by simp [go_sem]) rfl) rfl ⟨congrArg Ending.returned (show _ = fltV V by rw [HN.out]; rfl), junk_of_below (by (repeat' first | with_reducible (first | apply Below.refl | assumption | apply bw_a | apply bw_d | apply bw_n | apply bw_p | apply bw_c | apply bw_r) | go_size))⟩
end

section
set_option linter.unusedVariables false
set_option linter.unusedSimpArgs false
open Go.RowKit Go.Joins
theorem wpList_bxapp {ops : Array Oper} {rest : List Oper} {o : Oper} {a : Act} {w : World} {Q : Exit → Act → World → Prop} (hgd : o.guard = none) (s x : Operand)
    (ho : o.op = .call { callee := .builtin .append, args := #[s, x], argTypes := #[65, 65] }) (base : Nat) (v : Value) (n : Nat) (K : List Bx) (hs : a.eval s = v) (hown : w.ownsRow base 67 4 v n (boxcells K))
    (A : Option Addr) (len cap : Nat) (L : List Bx) (hx : a.eval x = .slice A len cap) (hok : SOk A len cap) (hr : XReads w A len L) (hm : n + len ≤ 100000) (hb : base ≤ w.heap.size)
    (h : ∀ v' w', w'.ownsRow base 67 4 v' (n + len) (boxcells (K ++ L)) → w.grownBy w' v.ownBlock → wpList Tryz.prog ops Q rest (a.put o.dst v') w') : wpList Tryz.prog ops Q (o :: rest) a w := by
  obtain ⟨i0, hi0, hz0, hz1, hz2⟩ := info_bx
  have hzl := hr.1
  rcases A with _ | ad
  · have h0 : cap = 0 := hok.nil rfl
    have h1 := hok.le
    obtain rfl : len = 0 := by omega
    subst h0
    obtain rfl : L = [] := List.eq_nil_of_length_eq_zero hzl
    refine wpList_append_own_none hgd s x _ ho base 67 i0 4 Tryz.underlying65 hi0 _ n (boxcells K) hs hown hx ?_
    exact h _ _ (by rw [List.append_nil, Nat.add_zero]; exact hown) (World.grownBy.refl w _)
  · refine wpList_append_own _ hgd s x _ ho base 67 i0 _ 4 32 Tryz.underlying65 hi0 hz0 hz1 hz2 rfl (by decide) _ n (boxcells K) hs hown ad len cap (boxcells L) hx
      (by rw [boxcells_len, hzl]) hr.cells (boxcells_one L) (by simp only [maxLen]; omega) (by omega) hb ?_
    intro v' w' hown' hg _
    exact h _ _ (by rw [boxcells_app]; exact hown') hg
theorem TreeB.only {w w' : World} {base top tb : Nat} {L : List Bx} (h : TreeB w base top tb L) (hk : ∀ k, base ≤ k → k < top → w'.heap[k]? = w.heap[k]?) : TreeB w' base top tb L := by
  obtain ⟨h1, h2, h3, h4⟩ := h
  have hs : top ≤ w'.heap.size := by
    have e := hk (top - 1) (by omega) (by omega)
    rw [Array.getElem?_eq_getElem (show top - 1 < w.heap.size by omega)] at e
    have := (Array.getElem?_eq_some_iff.1 e).1
    omega
  refine ⟨h1, h2, hs, ?_⟩
  rcases h4 with ⟨rfl, c0, c2⟩ | ⟨bb, ob, n, cb, co, N, hb, ho, hT, hG⟩
  · have k := hk tb h1 h2
    exact .inl ⟨rfl, (World.cell?_of_block (a := ⟨tb, 0, none⟩) k).trans c0, (World.cell?_of_block (a := ⟨tb, 2, none⟩) k).trans c2⟩
  · exact .inr ⟨bb, ob, n, cb, co, N, hb, ho, hT.keep (hk tb h1 h2) (hk bb hb.1 hb.2) (hk ob ho.1 ho.2), hG⟩
theorem info_sp : ∃ i, Tryz.prog.info? 103 = some i ∧ i.zero = some (.pointer none) ∧ i.size = 1 ∧ i.bytes = 8 := by
  have h : (Tryz.prog.info? 103).map (fun i => (i.zero, i.size, i.bytes)) = some (some (.pointer none), 1, 8) := by kernel_rfl
  cases hi : Tryz.prog.info? 103 with
  | none => rw [hi] at h; cases h
  | some i =>
    rw [hi] at h
    simp at h
    exact ⟨i, rfl, h.1, h.2.1, h.2.2⟩
theorem info_on : ∃ i, Tryz.prog.info? 101 = some i ∧ i.zero = some (.agg #[.int .u32 0, .int .i32 0, .int .u32 0]) ∧ i.size = 3 ∧ i.bytes = 12 := by
  have h : (Tryz.prog.info? 101).map (fun i => (i.zero, i.size, i.bytes)) = some (some (.agg #[.int .u32 0, .int .i32 0, .int .u32 0]), 3, 12) := by kernel_rfl
  cases hi : Tryz.prog.info? 101 with
  | none => rw [hi] at h; cases h
  | some i =>
    rw [hi] at h
    simp at h
    exact ⟨i, rfl, h.1, h.2.1, h.2.2⟩
theorem made_sp (n : Nat) (hn : n ≤ 64) : ∃ Z : Array Value, (∀ w : World, (Instr.makeSlice 49 (.int .i64 n) (.int .i64 n)).run Tryz.prog w = .ok (.slice (some ⟨w.heap.size, 0, none⟩) n n) (w.alloc (.cells Z 103))) ∧ ∀ k, k < n → Z[k]? = some (.pointer none) := by
  obtain ⟨i, hi, hz, hs, hb⟩ := info_sp
  refine ⟨madeCells (Value.pointer none).cells n, fun w => ?_, ?_⟩
  · have h := run_make (P := Tryz.prog) w 49 103 i (.pointer none) Tryz.underlying49 hi hz .i64 .i64 (n : Int) (n : Int) (by omega) (by omega) (by rw [hb]; omega) (by omega)
    rw [hs, Nat.mul_one, Int.toNat_natCast] at h
    exact h
  · intro k hk
    simp [madeCells, hk, Value.cells, Nat.mod_one]
theorem made_on (n : Nat) (hn : n ≤ 64) : ∃ Z : Array Value, (∀ w : World, (Instr.makeSlice 50 (.int .i64 n) (.int .i64 n)).run Tryz.prog w = .ok (.slice (some ⟨w.heap.size, 0, none⟩) n n) (w.alloc (.cells Z 101))) ∧ ∀ k, k < n → Z[k * 3]? = some (.int .u32 0) ∧ Z[k * 3 + 1]? = some (.int .i32 0) := by
  obtain ⟨i, hi, hz, hs, hb⟩ := info_on
  refine ⟨madeCells (Value.agg #[.int .u32 0, .int .i32 0, .int .u32 0]).cells (n * 3), fun w => ?_, ?_⟩
  · have h := run_make (P := Tryz.prog) w 50 101 i (.agg #[.int .u32 0, .int .i32 0, .int .u32 0]) Tryz.underlying50 hi hz .i64 .i64 (n : Int) (n : Int) (by omega) (by omega) (by rw [hb]; omega) (by omega)
    rw [hs, Int.toNat_natCast] at h
    exact h
  · intro k hk
    have h1 : k * 3 < n * 3 := by omega
    have h2 : k * 3 + 1 < n * 3 := by omega
    have m1 : k * 3 % 3 = 0 := by omega
    have m2 : (k * 3 + 1) % 3 = 1 := by omega
    constructor
    · simp [madeCells, h1, Value.cells, m1]
    · simp [madeCells, h2, Value.cells, m2]
section
variable {w w' : World} {base : Nat} {v : Value} {ps : List (Value × List Pt)} {qs : List (Value × List (Value × List Pt))}
theorem GOwn.keeps (h : GOwn w base v ps) (h1 : GKeeps base 23 w w') (h2 : GKeeps base 42 w w') : GOwn w' base v ps := ⟨gown_keeps h.row h1, fun p hp => gown_keeps (h.each p hp) h2⟩
theorem LOwn.keeps (h : LOwn w base v qs) (h0 : GKeeps base 28 w w') (h1 : GKeeps base 23 w w') (h2 : GKeeps base 42 w w') : LOwn w' base v qs := ⟨gown_keeps h.row h0, fun q hq => (h.each q hq).keeps h1 h2⟩
theorem LOwn.grown {row : Option Nat} {t : TypeId} (h : LOwn w base v qs) (hg : w.grownBy w' row) (hr : ∀ r, row = some r → ∃ c, w.heap[r]? = some (.cells c t (0, 0))) (t0 : t ≠ 28) (t1 : t ≠ 23) (t2 : t ≠ 42) : LOwn w' base v qs := by
  have key : ∀ u, t ≠ u → GKeeps base u w w' := fun u hu => gkeeps_grown hg base u fun r c e1 _ e3 => by
    obtain ⟨c', hc'⟩ := hr r e1
    rw [e3] at hc'
    injection hc' with hc'
    injection hc' with _ hc' _
    exact hu hc'.symm
  exact h.keeps (key _ t0) (key _ t1) (key _ t2)
end
theorem ne_of_type {w : World} {a b : Nat} {c c' : Array Value} {t t' : TypeId} (h : w.heap[a]? = some (.cells c t (0, 0))) (h' : w.heap[b]? = some (.cells c' t' (0, 0))) (ht : t ≠ t') : a ≠ b := by
  rintro rfl
  rw [h] at h'
  injection h' with h'
  injection h' with _ h' _
  exact ht h'
theorem cell_arr {w : World} {b : Nat} {c : Array Value} {t : TypeId} (h : w.heap[b]? = some (.cells c t (0, 0))) {k : Nat} {v : Value} (hv : c[k]? = some v) : w.cell? ⟨b, k, none⟩ = some v := by
  simp [World.cell?, h]
  simpa using hv
theorem mk_ixs {w : World} {base xb tb sb fb b t n : Nat} {vr : Value} {qs : List (Value × List (Value × List Pt))} {L : List (List (List Pt))} {Z1 Z2 : Array Value} (hf : (checkX L).1 = 0) (hn : L.length = n)
    (hx : w.heap[xb]? = some (.cells #[.pointer (some ⟨xb, 0, none⟩), .pointer (some ⟨tb, 0, none⟩), vr, .slice (some ⟨sb, 0, none⟩) n n, .slice (some ⟨fb, 0, none⟩) n n] 52 (0, 0)))
    (hs : w.heap[sb]? = some (.cells Z1 103 (0, 0))) (hfb : w.heap[fb]? = some (.cells Z2 101 (0, 0))) (z1 : ∀ k, k < n → Z1[k]? = some (.pointer none)) (z2 : ∀ k, k < n → Z2[k * 3]? = some (.int .u32 0) ∧ Z2[k * 3 + 1]? = some (.int .i32 0))
    (hl : LOwn w base vr qs) (hq : regsOf qs = L) (ht : TreeB w b t tb (L.map boxB)) (hb : base ≤ b) (ts : t ≤ sb) (tf : t ≤ fb) (tx : t ≤ xb) (rt : ∀ r, vr.ownBlock = some r → r < b) : IxS w base xb L fun k => base ≤ k ∧ k < w.heap.size := by
  have hql : qs.length = n := by rw [← hn, ← hq]; unfold regsOf; rw [List.length_map]
  obtain ⟨ra, rc, rfl, _⟩ := hl.lrc
  have hbt : b < t := by have := ht.1; have := ht.2.1; omega
  have htb := ht.2.2.1
  have cx : ∀ k v, #[Value.pointer (some ⟨xb, 0, none⟩), .pointer (some ⟨tb, 0, none⟩), .slice ra qs.length rc, .slice (some ⟨sb, 0, none⟩) n n, .slice (some ⟨fb, 0, none⟩) n n][k]? = some v → w.cell? ⟨xb, k, none⟩ = some v := fun k v h => cell_arr hx h
  have nxs : xb ≠ sb := ne_of_type hx hs (by decide)
  have nxf : xb ≠ fb := ne_of_type hx hfb (by decide)
  have nsf : sb ≠ fb := ne_of_type hs hfb (by decide)
  have nrx : (Value.slice ra qs.length rc).ownBlock ≠ some xb := fun e => by
    obtain ⟨_, c, hc⟩ := gown_block hl.row xb e
    exact ne_of_type hx hc (by decide) rfl
  have lx := heap_lt hx
  have ls := heap_lt hs
  have lf := heap_lt hfb
  refine ⟨hf, fun k h => h, fun k => (base ≤ k ∧ k < w.heap.size) ∧ k ≠ sb ∧ k ≠ fb ∧ (Value.slice ra qs.length rc).ownBlock ≠ some k, ra, rc, some ⟨sb, 0, none⟩, n, some ⟨fb, 0, none⟩, n, fun k h => h.1, ?_, ?_⟩
  · refine ⟨⟨⟨by omega, lx⟩, nxs, nxf, nrx⟩, cx 0 _ rfl, ⟨tb, cx 1 _ rfl, fun w' hw => ⟨b, t, ht.only fun k h1 h2 => hw k ⟨⟨by omega, by omega⟩, by omega, by omega, fun e => by have := rt k e; omega⟩⟩⟩, ?_, ?_, ?_⟩
    · rw [hn, ← hql]; exact cx 2 _ rfl
    · rw [hn]; exact cx 3 _ rfl
    · rw [hn]; exact cx 4 _ rfl
  · by_cases h0 : n = 0
    · exact .inl (List.eq_nil_of_length_eq_zero (by omega))
    obtain ⟨hr1, hr2⟩ := hl.row
    rcases hr2 with ⟨_, h2⟩ | ⟨rb, cap, cur, e, hg, hc, hnc, hcap, hcs, htk⟩
    · omega
    injection e with e1 e2 e3
    subst e1
    have ob : (Value.slice (some ⟨rb, 0, none⟩) qs.length rc).ownBlock = some rb := by simp [Value.ownBlock]
    have nrs : rb ≠ sb := ne_of_type hc hs (by decide)
    have nrf : rb ≠ fb := ne_of_type hc hfb (by decide)
    have lr := heap_lt hc
    refine .inr ⟨rb, sb, fb, rfl, rfl, rfl, ⟨hg, lr⟩, ⟨by omega, ls⟩, ⟨by omega, lf⟩, fun h => h.2.2.2 ob, fun h => h.2.1 rfl, fun h => h.2.2.1 rfl, nrs, nrf, nsf, ⟨_, hc⟩, ⟨_, hs⟩, ⟨_, hfb⟩, fun i hi => ?_⟩
    have hi' : i < qs.length := by omega
    have hq' : qs[i]? = some qs[i] := List.getElem?_eq_getElem hi'
    obtain ⟨x, c, ex, _⟩ := (hl.each _ (List.getElem_mem hi')).grc
    refine .inl ⟨cell_arr hs (z1 i (by omega)), cell_arr hfb (z2 i (by omega)).1, cell_arr hfb (z2 i (by omega)).2, x, qs[i].2.length, c, ?_, fun w' hw => ?_⟩
    · rw [Nat.mul_one] at htk
      have h1 : (cur.toList.take qs.length)[i]? = some qs[i].1 := by rw [htk]; simp [hq']
      rw [List.getElem?_take_of_lt hi'] at h1
      rw [ex] at h1
      exact cell_arr hc (by simpa using h1)
    · have hk : ∀ u, u ≠ 28 → u ≠ 103 → u ≠ 101 → GKeeps base u w w' := fun u u1 u2 u3 g c' hg' hc' => by
        refine (hw g ⟨⟨hg', heap_lt hc'⟩, ne_of_type hc' hs u2, ne_of_type hc' hfb u3, fun e => ?_⟩).trans hc'
        rw [ob] at e
        injection e with e
        exact ne_of_type hc' hc u1 e.symm
      obtain ⟨x', c', ex', hgr⟩ := ((hl.each _ (List.getElem_mem hi')).keeps (hk _ (by decide) (by decide) (by decide)) (hk _ (by decide) (by decide) (by decide))).grc
      rw [ex] at ex'
      injection ex' with e1 e2 e3
      subst e1 e3
      have : L.getD i [] = qs[i].2.map (·.2) := by rw [← hq]; unfold regsOf; rw [List.getD_eq_getElem?_getD, List.getElem?_map, hq']; rfl
      rw [this]
      exact hgr
theorem xreads_one {W : World} {g : Nat} {y1 y2 y3 y4 : Int} (h : W.rowAt g = some #[.int .i64 y1, .int .i64 y2, .int .i64 y3, .int .i64 y4]) : XReads W (some ⟨g, 0, none⟩) 1 [(y1, y2, y3, y4)] := by
  refine ⟨rfl, .inr ⟨g, 0, rfl, fun i hi => ?_⟩⟩
  obtain rfl : i = 0 := by omega
  exact ⟨(ucell_of_row h 0).trans rfl, (ucell_of_row h 1).trans rfl, (ucell_of_row h 2).trans rfl, (ucell_of_row h 3).trans rfl⟩
theorem own_lt {w : World} {base e size n : Nat} {v : Value} {xs : List Value} (h : w.ownsRow base e size v n xs) : ∀ k, v.ownBlock = some k → k < w.heap.size := by
  obtain ⟨_, h2⟩ := h
  intro k hk
  rcases h2 with ⟨rfl, _⟩ | ⟨g, cap, cur, rfl, hg, hc, _⟩
  · simp [Value.ownBlock] at hk
  · simp [Value.ownBlock] at hk
    subst hk
    exact heap_lt hc
theorem own_kind {w : World} {base e size n : Nat} {v : Value} {xs : List Value} (h : w.ownsRow base e size v n xs) : ∀ r, v.ownBlock = some r → ∃ c, w.heap[r]? = some (.cells c e (0, 0)) := fun r hr => (gown_block h r hr).2
theorem three_new (w : World) (o1 o2 o3 : Obj) : (((w.alloc o1).alloc o2).alloc o3).heap[w.heap.size]? = some o1 ∧ (((w.alloc o1).alloc o2).alloc o3).heap[w.heap.size + 1]? = some o2 ∧ (((w.alloc o1).alloc o2).alloc o3).heap[w.heap.size + 1 + 1]? = some o3 := by
  refine ⟨?_, ?_, heap_new_at (by simp)⟩
  · rw [Below.heap_alloc _ _ _ (by simp; omega), Below.heap_alloc _ _ _ (by simp)]
    exact heap_new_at rfl
  · rw [Below.heap_alloc _ _ _ (by simp)]
    exact heap_new_at (by simp)
theorem LOwn.lower {w : World} {base base' : Nat} {v : Value} {qs : List (Value × List (Value × List Pt))} (h : LOwn w base v qs) (hb : base' ≤ base) : LOwn w base' v qs := ⟨gown_base h.row hb, fun q hq => (h.each q hq).base hb⟩
def BuAt (W : World) (L : List (List (List Pt))) (vb vr i : Value) (wr : World) : Prop := ∃ (k : Nat) (qs : List (Value × List (Value × List Pt))), i = .int .i64 (k : Int) ∧ k ≤ L.length ∧ wr.ownsRow W.heap.size 67 4 vb k (boxcells ((L.take k).map boxB)) ∧ LOwn wr W.heap.size vr qs ∧ regsOf qs = L.take k ∧ Below W.heap.size W wr
set_option maxRecDepth 100000 in
set_option maxHeartbeats 4000000 in
theorem n_ixBad (w : World) (a : Option Addr) (n ca : Nat) (L : List (List (List Pt))) (hL : LRC w a n ca L) (hs : n ≤ 4611686018427387903) (hl : n ≤ 64 → ∀ R ∈ L, R.length ≤ 1000 ∧ ∀ K ∈ R, K.length ≤ 100000) (hb : (checkX L).1 ≠ 0) :
    Calls Tryz.prog 11 #[.slice a n ca] w fun e w' => e = .returned (.tuple #[.pointer none, fltV (checkX L)]) ∧ Junk w w' := by
  have HC := Lib.hid (fun (W : World) (h : LRC W a n ca L) => n_ixCheck W a n ca L h hs hl)
  have HL := Lib.hid hL
  obtain ⟨⟨e, t⟩, he⟩ : ∃ r, checkX L = r := ⟨_, rfl⟩
  rw [he] at HC hb ⊢
  unfold fltV at *
  simp only at *
  have e1 : (e != 0) = true := by simpa using hb
  clear hL hl hs hb he
  go_enter Tryz.func11, Tryz.ntmps11
  go_upto_region 3 with (go_at_call 29; (with_reducible refine (HC.out _ (HL.out.below (by ((try simp only [← Array.append_assoc]); repeat' first | with_reducible (first | apply Below.refl | assumption | apply bw_a | apply bw_d | apply bw_n | apply bw_e | apply bw_s | apply bw_p | apply bw_c | apply bw_r) | go_size)))).mono ?_); rintro e w1 ⟨rfl, J1, d1, rfl⟩)
  go_region
  all_goals go_wp2_with fail
  all_goals refine bodyPost_ret (results_pf rfl _ _ w.heap.size #[.int .i64 e, .int .i64 (t : Int)] rfl (by simp [go_sem]) rfl) rfl ⟨rfl, junk_of_below (by (repeat' first | with_reducible (first | apply Below.refl | assumption | apply bw_a | apply bw_d | apply bw_n | apply bw_p | apply bw_c | apply bw_r) | go_size))⟩
theorem checkX_zero {L : List (List (List Pt))} (h : (checkX L).1 = 0) : checkX L = (0, 0) := checkX_none (checkX_fine.1 h).1 fun j hj => checkR_fine.2 ((checkX_fine.1 h).2 j hj)
theorem take_snocL {A : Type} {L : List A} {k : Nat} {d : A} (h : k < L.length) : L.take (k + 1) = L.take k ++ [L.getD k d] := by
  rw [List.take_succ_eq_append_getElem h, List.getD_eq_getElem?_getD, List.getElem?_eq_getElem h]; rfl
theorem regs_snoc (qs : List (Value × List (Value × List Pt))) (q : Value × List (Value × List Pt)) : regsOf (qs ++ [q]) = regsOf qs ++ [q.2.map (·.2)] := by unfold regsOf; rw [List.map_append]; rfl
theorem regs_len (qs : List (Value × List (Value × List Pt))) : (regsOf qs).length = qs.length := by unfold regsOf; rw [List.length_map]
set_option maxRecDepth 100000 in
set_option maxHeartbeats 8000000 in
theorem n_ixBuild (w : World) (a : Option Addr) (n ca : Nat) (L : List (List (List Pt))) (hL : LRC w a n ca L) (hb : (checkX L).1 = 0) :
    Calls Tryz.prog 11 #[.slice a n ca] w fun e w' => (∃ xb U, e = .returned (.tuple #[.pointer (some ⟨xb, 0, none⟩), .agg #[.int .i64 0, .int .i64 0]]) ∧ IxS w' w.heap.size xb L U) ∧ Junk w w' := by
  obtain ⟨h64, hf⟩ := checkX_fine.1 hb
  have hln := hL.len
  have hfl : ∀ R ∈ L, regFine R := fun R hR => by
    obtain ⟨j, hj, e⟩ := List.mem_iff_getElem.1 hR
    have := hf j hj
    rw [List.getD_eq_getElem?_getD, List.getElem?_eq_getElem hj, Option.getD_some, e] at this
    exact this
  have hk : n ≤ 64 → ∀ R ∈ L, R.length ≤ 1000 ∧ ∀ K ∈ R, K.length ≤ 100000 := fun _ R hR => by
    have := hfl R hR
    exact ⟨by have := this.long; omega, fun K hK => by have h1 := ring_leR hK; have h2 := this.many; omega⟩
  have HC := Lib.hid (fun (W : World) (h : LRC W a n ca L) => n_ixCheck W a n ca L h (by omega) hk)
  rw [checkX_zero hb] at HC
  have HTb := Lib.hid (fun (W : World) a2 c2 (h : XRC W a2 n c2 (L.map boxB)) => n_btBuild W a2 n c2 _ h (box_in hf) (by omega))
  obtain ⟨Z1, hm1, hz1⟩ := made_sp n (by omega)
  obtain ⟨Z2, hm2, hz2⟩ := made_on n (by omega)
  have HZ1 := Lib.hid hz1
  have HZ2 := Lib.hid hz2
  have HL := Lib.hid hL
  have HF := Lib.hid hf
  have HFl := Lib.hid hfl
  have HCk := Lib.hid hb
  have L1 := Lib.hid hln
  have n64 : n ≤ 64 := by omega
  unfold fltV at HC
  clear hL hf hfl hk hb hln h64 hz1 hz2
  go_enter Tryz.func11, Tryz.ntmps11
  go_wp2_with (go_at_call 29; (with_reducible refine (HC.out _ (HL.out.below (by ((try simp only [← Array.append_assoc]); repeat' first | with_reducible (first | apply Below.refl | assumption | apply bw_a | apply bw_d | apply bw_n | apply bw_e | apply bw_s | apply bw_p | apply bw_c | apply bw_r) | go_size)))).mono ?_); rintro e w1 ⟨rfl, J1, d1, rfl⟩)
  obtain ⟨W, hW⟩ : ∃ W, ((w.alloc (.cells #[.int .i64 0, .int .i64 0] 33)).plus J1 d1).alloc (.cells #[.int .i64 0, .int .i64 0] 33) = W := ⟨_, rfl⟩
  have hj : Below w.heap.size w W := by rw [← hW]; ((try simp only [← Array.append_assoc]); repeat' first | with_reducible (first | apply Below.refl | assumption | apply bw_a | apply bw_d | apply bw_n | apply bw_e | apply bw_s | apply bw_p | apply bw_c | apply bw_r) | go_size)
  have r0 : W.rowAt w.heap.size = some #[.int .i64 0, .int .i64 0] := by rw [← hW]; simp [go_sem]
  have hz : w.heap.size < W.heap.size := by rw [← hW]; simp; omega
  have HLW := Lib.hid (HL.out.below hj)
  have HJ := Lib.hid hj
  have HR0 := Lib.hid r0
  have HZ := Lib.hid hz
  rw [hW]
  clear hW hj r0 hz HL HC
  go_loopw [5, 6, 22] (fun vb vr i wr => BuAt W L vb vr i wr) (fun _ _ i _ => n - (intOf i).toNat)
  case atStart => exact ⟨0, [], rfl, by omega, ⟨rfl, .inl ⟨rfl, rfl⟩⟩, lown_nil _ _, rfl, Below.refl _ _⟩
  case round =>
    obtain ⟨k, qs, rfl, k1, hown, hlo, hq, hB⟩ := hrel
    rw [L1.out] at k1
    have hsz := hB.size
    have hql : qs.length = k := by
      have := congrArg List.length hq
      rw [regs_len, List.length_take, L1.out] at this
      omega
    by_cases hlt : k < n
    · obtain ⟨b, o, x, m, c, rfl, p1, hg, hb⟩ := HLW.out.at hlt
      have hkL : k < L.length := by rw [L1.out]; exact hlt
      have hfine := HF.out k hkL
      have s1 := (World.cell?_of_block (hB.block _ hb)).trans p1
      have lb := World.block_lt_of_cell? _ _ s1
      obtain ⟨R, hR⟩ : ∃ R, L.getD k [] = R := ⟨_, rfl⟩
      have hts := take_snocL (d := ([] : List (List Pt))) hkL
      rw [hR] at hg hfine hts
      have hm := hfine.long
      have hmm := hg.len
      have hmany := hfine.many
      have HBx := Lib.hid (fun W' (h : GRC W' x m c R) => c_reBox W' x m c R h (by omega) (by rw [show R.flatten.length = allN R by unfold allN; rw [List.length_flatten]]; omega))
      have HCl := Lib.hid (fun W' (h : GRC W' x m c R) => n_ixClone W' x m c R h (by omega) (fun K hK => by have := ring_leR hK; omega))
      obtain ⟨y1, y2, y3, y4, hy⟩ : ∃ y1 y2 y3 y4, boxF R.flatten = (y1, y2, y3, y4) := ⟨_, _, _, _, rfl⟩
      have hbv : boxV R.flatten = .agg #[.int .i64 y1, .int .i64 y2, .int .i64 y3, .int .i64 y4] := by unfold boxV bxV; rw [hy]
      rw [hbv, fine_bnd2 hfine] at HBx
      have HBo := Lib.hid (show (L.take (k + 1)).map boxB = (L.take k).map boxB ++ [(y1, y2, y3, y4)] by rw [hts, List.map_append]; simp only [List.map_cons, List.map_nil]; unfold boxB; rw [hy])
      have HTs := Lib.hid hts
      have HG := Lib.hid hg
      have HGo := Lib.hid (hg.below hB)
      have HOW := Lib.hid hown
      have HLo := Lib.hid hlo
      have HQ := Lib.hid hq
      have HB := Lib.hid hB
      have HQl := Lib.hid hql
      obtain ⟨wo, rfl⟩ : ∃ wo : World, wo = wr := ⟨_, rfl⟩
      have i1 : (k : Int) < (n : Int) := by omega
      clear hg hfine hts hm hmm hmany hy hbv hown hlo hq hB hql p1 hR
      go_wp2_with (first
        | (go_at_call 30; (with_reducible refine (HBx.out _ (HGo.out.below (by ((try simp only [← Array.append_assoc]); repeat' first | with_reducible (first | apply Below.refl | assumption | apply bw_a | apply bw_d | apply bw_n | apply bw_e | apply bw_s | apply bw_p | apply bw_c | apply bw_r) | go_size)))).mono ?_); rintro e w1 ⟨rfl, J2, d2, rfl⟩)
        | (at_builtin; refine wpList_bxapp rfl (.tmp 31) (.tmp 33) rfl W.heap.size _ k ((L.take k).map boxB) rfl (powns_below HOW.out (by ((try simp only [← Array.append_assoc]); repeat' first | with_reducible (first | apply Below.refl | assumption | apply bw_a | apply bw_d | apply bw_n | apply bw_e | apply bw_s | apply bw_p | apply bw_c | apply bw_r) | go_size))) _ 1 1 [(y1, y2, y3, y4)] rfl ⟨Nat.le_refl _, fun h => by cases h⟩
            (xreads_one (by simp [go_sem])) (by omega) (by simp; omega) ?_; intro v2 w2 hown2 hg2;
            have hb2 : Below W.heap.size W w2 := grown_below (HB.out.trans (by ((try simp only [← Array.append_assoc]); repeat' first | with_reducible (first | apply Below.refl | assumption | apply bw_a | apply bw_d | apply bw_n | apply bw_e | apply bw_s | apply bw_p | apply bw_c | apply bw_r) | go_size))) hg2 (by simp; omega) (powns_block HOW.out);
            have k8 : w2.cell? ⟨wo.heap.size, 0, none⟩ = some (.slice x m c) := (World.cell?_of_block (a := ⟨wo.heap.size, 0, none⟩) (hg2.block wo.heap.size (by simp; omega) (fun e => by have := own_lt HOW.out wo.heap.size e.symm; omega))).trans (by simp [go_sem]);
            have HLo2 := Lib.hid ((HLo.out.below (by ((try simp only [← Array.append_assoc]); repeat' first | with_reducible (first | apply Below.refl | assumption | apply bw_a | apply bw_d | apply bw_n | apply bw_e | apply bw_s | apply bw_p | apply bw_c | apply bw_r) | go_size))).grown hg2 (own_kind (powns_below HOW.out (by ((try simp only [← Array.append_assoc]); repeat' first | with_reducible (first | apply Below.refl | assumption | apply bw_a | apply bw_d | apply bw_n | apply bw_e | apply bw_s | apply bw_p | apply bw_c | apply bw_r) | go_size)))) (by decide) (by decide) (by decide)); have HOW2 := Lib.hid hown2; have HB2 := Lib.hid hb2; have hz2 := hb2.size; have l8 := World.block_lt_of_cell? _ _ k8; clear hown2 hg2 hb2)
        | (go_at_call 31; (with_reducible refine (HCl.out _ (HG.out.below HB2.out)).mono ?_); rintro e w3 ⟨⟨v3, ps, rfl, hgo, hps⟩, J3, d3, rfl⟩; obtain ⟨x3, c3, rfl, _⟩ := hgo.grc; have HGo3 := Lib.hid hgo; have HPs := Lib.hid hps; clear hgo hps)
        | (at_builtin; refine wpList_rapp rfl (.tmp 35) (.tmp 38) rfl W.heap.size _ qs rfl (HLo2.out.below (by ((try simp only [← Array.append_assoc]); repeat' first | with_reducible (first | apply Below.refl | assumption | apply bw_a | apply bw_d | apply bw_n | apply bw_e | apply bw_s | apply bw_p | apply bw_c | apply bw_r) | go_size))) _ _ ps rfl (by first | (simp [go_sem]; done) | (simp [go_sem]; rfl)) ((HGo3.out.below (by ((try simp only [← Array.append_assoc]); repeat' first | with_reducible (first | apply Below.refl | assumption | apply bw_a | apply bw_d | apply bw_n | apply bw_e | apply bw_s | apply bw_p | apply bw_c | apply bw_r) | go_size))).base hz2) (by have := HQl.out; omega) (by simp; omega) ?_; intro v4 w4 hlo4 hg4))
      go_roundw
      case rel =>
        refine ⟨k + 1, _, by go_num, by rw [L1.out]; omega, ?_, hlo4, by rw [regs_snoc, HQ.out, HTs.out, HPs.out], grown_below (B := W.heap.size) (a := W) (HB2.out.trans (by ((try simp only [← Array.append_assoc]); repeat' first | with_reducible (first | apply Below.refl | assumption | apply bw_a | apply bw_d | apply bw_n | apply bw_e | apply bw_s | apply bw_p | apply bw_c | apply bw_r) | go_size))) hg4 (by simp; omega) (fun r hr => (gown_block HLo2.out.row r hr).1)⟩
        rw [HBo.out]
        exact gown_keeps (powns_below HOW2.out (by ((try simp only [← Array.append_assoc]); repeat' first | with_reducible (first | apply Below.refl | assumption | apply bw_a | apply bw_d | apply bw_n | apply bw_e | apply bw_s | apply bw_p | apply bw_c | apply bw_r) | go_size))) (gkeeps_grown hg4 _ _ fun r c e1 _ e3 => by
          obtain ⟨c', hc'⟩ := own_kind (HLo2.out.below (show Below w2.heap.size w2 ((w2.plus J3 d3).alloc (.cells #[.slice x3 ps.length c3] 28)) by ((try simp only [← Array.append_assoc]); repeat' first | with_reducible (first | apply Below.refl | assumption | apply bw_a | apply bw_d | apply bw_n | apply bw_e | apply bw_s | apply bw_p | apply bw_c | apply bw_r) | go_size))).row r e1
          rw [e3] at hc'
          injection hc' with hc'
          injection hc' with _ hc' _
          exact absurd hc' (by decide))
      case measure => simp [intOf]; omega
    · obtain rfl : k = n := by omega
      rw [List.take_of_length_le (by rw [L1.out]; omega)] at hq hown
      obtain ⟨ax, cx, rfl, hrx, hox⟩ := xreads_of_owns hown
      obtain ⟨va, vc, rfl, hlr⟩ := hlo.lrc
      rw [hql] at hlo ⊢
      have HX := Lib.hid (show XRC wr ax k cx (L.map boxB) from ⟨hrx, hox⟩)
      have HLo := Lib.hid hlo
      have HQ := Lib.hid hq
      have HBw := Lib.hid (HJ.out.trans (hB.mono HJ.out.size))
      have r1 : wr.rowAt w.heap.size = some #[.int .i64 0, .int .i64 0] := (rowAt_of_block (hB.block _ HZ.out)).trans HR0.out
      have HR1 := Lib.hid r1
      have HSz := Lib.hid (show w.heap.size < wr.heap.size from Nat.lt_of_lt_of_le HZ.out hsz)
      have HSW := Lib.hid HZ.out
      have i1 : ¬ (k : Int) < (k : Int) := by omega
      obtain ⟨W5, rfl⟩ : ∃ W5, W5 = wr := ⟨_, rfl⟩
      clear hlo hq hB hown hrx hox hlr r1 HR0 HZ HLW hlt
      go_upto_region 14 with (go_at_call 32; refine (HTb.out _ _ _ HX.out).mono ?_; rintro e w3 ⟨⟨tb, rfl, ht⟩, J3, d3, rfl⟩; have HTr := Lib.hid ht; clear ht)
      obtain ⟨W6, hW6⟩ : ∃ W6, W5.plus J3 d3 = W6 := ⟨_, rfl⟩
      have h56 : Below W5.heap.size W5 W6 := by rw [← hW6]; exact Junk.below ⟨_, _, rfl⟩
      have hr6 : W6.rowAt w.heap.size = some #[.int .i64 0, .int .i64 0] := (rowAt_of_block (h56.block _ HSz.out)).trans HR1.out
      have e0 := ucell_of_row hr6 0
      have e1 := ucell_of_row hr6 1
      simp at e0 e1
      have l0 := World.block_lt_of_cell? _ _ e0
      have HR6 := Lib.hid hr6
      have HB6 := Lib.hid h56
      rw [hW6] at HTr ⊢
      clear hW6 h56 hr6
      have f0 : W6.frozen? ⟨w.heap.size, 0, none⟩ = false := by
        obtain ⟨ty, h⟩ := rowAt_some HR6.out
        simp [World.frozen?, h]
      have f1 : W6.frozen? ⟨w.heap.size, 1, none⟩ = false := by
        obtain ⟨ty, h⟩ := rowAt_some HR6.out
        simp [World.frozen?, h]
      have HFin := Lib.hid (fun (C : World) (sb fb xb : Nat) (hC : Below W6.heap.size W6 C) (hx : C.heap[xb]? = some (.cells #[.pointer (some ⟨xb, 0, none⟩), .pointer (some ⟨tb, 0, none⟩), .slice va k vc, .slice (some ⟨sb, 0, none⟩) k k, .slice (some ⟨fb, 0, none⟩) k k] 52 (0, 0)))
          (hs : C.heap[sb]? = some (.cells Z1 103 (0, 0))) (hf : C.heap[fb]? = some (.cells Z2 101 (0, 0))) (h1 : W6.heap.size ≤ sb) (h2 : W6.heap.size ≤ fb) (h3 : W6.heap.size ≤ xb) =>
        show (IxS C w.heap.size xb L fun k => w.heap.size ≤ k ∧ k < C.heap.size) ∧ Junk w C from
        ⟨mk_ixs HCk.out L1.out hx hs hf HZ1.out HZ2.out (((HLo.out.below HB6.out).below hC).lower (Nat.le_of_lt HSW.out)) HQ.out (HTr.out.below hC) (Nat.le_of_lt HSz.out) h1 h2 h3 fun r hr => own_lt HLo.out.row r hr,
          junk_of_below ((HBw.out.trans (HB6.out.mono HBw.out.size)).trans (hC.mono (Nat.le_trans HBw.out.size HB6.out.size)))⟩)
      go_region
      all_goals go_wp2_with fail
      · rw [set2 HR6.out]
        simp only [List.setIfInBounds_toArray, List.set_cons_zero, List.set_cons_succ]
        rw [setRow_self HR6.out]
        obtain ⟨k1, k2, k3⟩ := three_new W6 (.cells Z1 103) (.cells Z2 101) (.cells #[.pointer (some ⟨W6.heap.size + 1 + 1, 0, none⟩), .pointer (some ⟨tb, 0, none⟩), .slice va k vc, .slice (some ⟨W6.heap.size, 0, none⟩) k k, .slice (some ⟨W6.heap.size + 1, 0, none⟩) k k] 52)
        have hb : Below W6.heap.size W6 (((W6.alloc (.cells Z1 103)).alloc (.cells Z2 101)).alloc (.cells #[.pointer (some ⟨W6.heap.size + 1 + 1, 0, none⟩), .pointer (some ⟨tb, 0, none⟩), .slice va k vc, .slice (some ⟨W6.heap.size, 0, none⟩) k k, .slice (some ⟨W6.heap.size + 1, 0, none⟩) k k] 52)) := by (repeat' first | with_reducible (first | apply Below.refl | assumption | apply bw_a | apply bw_d | apply bw_n | apply bw_p | apply bw_c | apply bw_r) | go_size)
        obtain ⟨r1, r2⟩ := HFin.out _ _ _ _ hb k3 k1 k2 (by omega) (by omega) (by omega)
        exact bodyPost_ret (results_pf rfl _ _ w.heap.size #[.int .i64 0, .int .i64 0] rfl ((rowAt_of_block (hb.block w.heap.size l0)).trans HR6.out) rfl) rfl ⟨⟨_, rfl, _, r1.keep fun _ _ => rfl⟩, junk_of_below r2.below.drew⟩
      · rw [set2 HR6.out]
        simp only [List.setIfInBounds_toArray, List.set_cons_zero, List.set_cons_succ]
        rw [setRow_self HR6.out]
        obtain ⟨k1, k2, k3⟩ := three_new W6 (.cells Z2 101) (.cells Z1 103) (.cells #[.pointer (some ⟨W6.heap.size + 1 + 1, 0, none⟩), .pointer (some ⟨tb, 0, none⟩), .slice va k vc, .slice (some ⟨W6.heap.size + 1, 0, none⟩) k k, .slice (some ⟨W6.heap.size, 0, none⟩) k k] 52)
        have hb : Below W6.heap.size W6 (((W6.alloc (.cells Z2 101)).alloc (.cells Z1 103)).alloc (.cells #[.pointer (some ⟨W6.heap.size + 1 + 1, 0, none⟩), .pointer (some ⟨tb, 0, none⟩), .slice va k vc, .slice (some ⟨W6.heap.size + 1, 0, none⟩) k k, .slice (some ⟨W6.heap.size, 0, none⟩) k k] 52)) := by (repeat' first | with_reducible (first | apply Below.refl | assumption | apply bw_a | apply bw_d | apply bw_n | apply bw_p | apply bw_c | apply bw_r) | go_size)
        obtain ⟨r1, r2⟩ := HFin.out _ _ _ _ hb k3 k2 k1 (by omega) (by omega) (by omega)
        exact bodyPost_ret (results_pf rfl _ _ w.heap.size #[.int .i64 0, .int .i64 0] rfl ((rowAt_of_block (hb.block w.heap.size l0)).trans HR6.out) rfl) rfl ⟨⟨_, rfl, _, r1.keep fun _ _ => rfl⟩, junk_of_below r2.below.drew⟩
end
end Go.Proofs.YthphdiigjimchaaGreat

/- The law BoxtreeDeep: the walk. -/
import Derived.Test.YtnpkhhchbahcpaaBnF
import Derived.Test.YtnpkhhchbahcpaaBRow
namespace Go.Proofs.Ytnpkhhchbahcpaa
set_option linter.unusedVariables false
set_option linter.unusedSimpArgs false
open Go.RowKit

/-- 'append(l, m...)' of boxes onto a row of the call's own. -/
theorem wpList_xapp {ops : Array Oper} {rest : List Oper} {o : Oper} {a : Act} {w : World} {Q : Exit → Act → World → Prop} (hgd : o.guard = none) (s x : Operand)
    (ho : o.op = .call { callee := .builtin .append, args := #[s, x], argTypes := #[22, 22] }) (base : Nat) (v : Value) (n : Nat) (K : List Bx) (hs : a.eval s = v) (hown : w.ownsRow base 33 4 v n (boxcells K))
    (A : Option Addr) (len cap : Nat) (L : List Bx) (hx : a.eval x = .slice A len cap) (hok : SOk A len cap) (hr : XReads w A len L) (hm : n + len ≤ 100000) (hb : base ≤ w.heap.size)
    (h : ∀ v' w', w'.ownsRow base 33 4 v' (n + len) (boxcells (K ++ L)) → w.grownBy w' v.ownBlock → wpList Try.prog ops Q rest (a.put o.dst v') w') : wpList Try.prog ops Q (o :: rest) a w := by
  obtain ⟨i0, hi0, hz0, hz1, hz2⟩ := info_bx
  have hzl := hr.1
  rcases A with _ | ad
  · have h0 : cap = 0 := hok.nil rfl
    have h1 := hok.le
    obtain rfl : len = 0 := by omega
    subst h0
    obtain rfl : L = [] := List.eq_nil_of_length_eq_zero hzl
    refine wpList_append_own_none hgd s x _ ho base 33 i0 4 Try.underlying22 hi0 _ n (boxcells K) hs hown hx ?_
    exact h _ _ (by rw [List.append_nil, Nat.add_zero]; exact hown) (World.grownBy.refl w _)
  · refine wpList_append_own _ hgd s x _ ho base 33 i0 _ 4 32 Try.underlying22 hi0 hz0 hz1 hz2 rfl (by decide) _ n (boxcells K) hs hown ad len cap (boxcells L) hx
      (by rw [boxcells_len, hzl]) hr.cells (boxcells_one L) (by simp only [maxLen]; omega) (by omega) hb ?_
    intro v' w' hown' hg _
    exact h _ _ (by rw [boxcells_app]; exact hown') hg

/-- Between two rounds: the first k places of the order are marked. -/
def DpM (W : World) (h n : Nat) (O : List Nat) (x : Value) (wr : World) : Prop := ∃ (k : Nat) (us : List Bool), x = .int .i64 (k : Int) ∧ k ≤ n ∧ us.length = n ∧ Blk wr h (brw us) 4 ∧ Kept2 h h W wr ∧ ∀ j, j < n → us[j]? = some (decide (j ∈ O.take k))
theorem marks_next {O : List Nat} {n k : Nat} {us : List Bool} (hk : k < n) (hO : O.length = n) (hm : ∀ i ∈ O, i < n) (hl : us.length = n) (hu : ∀ j, j < n → us[j]? = some (decide (j ∈ O.take k))) : ∀ j, j < n → (us.set (O.getD k 0) true)[j]? = some (decide (j ∈ O.take (k + 1))) := by
  intro j hj
  have ht : O.take (k + 1) = O.take k ++ [O.getD k 0] := by
    rw [List.take_succ_eq_append_getElem (by omega), List.getD_eq_getElem?_getD, List.getElem?_eq_getElem (by omega)]; rfl
  have hg : O.getD k 0 < n := hm _ (getD_memN (by omega))
  rw [ht, List.getElem?_set]
  by_cases e : O.getD k 0 = j
  · rw [if_pos e, if_pos (by omega), decide_eq_true]
    rw [List.mem_append, List.mem_singleton]; exact .inr e.symm
  · rw [if_neg e, hu j hj]
    congr 1
    rw [decide_eq_decide, List.mem_append, List.mem_singleton]
    constructor
    · exact .inl
    · rintro (h | h)
      · exact h
      · exact absurd h.symm e
theorem mark_not {O : List Nat} {n k : Nat} (hk : k < n) (hO : O.length = n) (hn : O.Nodup) : decide (O.getD k 0 ∈ O.take k) = false := by
  rw [decide_eq_false_iff_not]
  intro h
  have e : O.getD k 0 = O[k] := by rw [List.getD_eq_getElem?_getD, List.getElem?_eq_getElem (by omega)]; rfl
  rw [e] at h
  obtain ⟨i, hi, he⟩ := List.mem_iff_getElem.1 h
  rw [List.getElem_take] at he
  rw [List.length_take] at hi
  have := (List.pairwise_iff_getElem.1 (List.nodup_iff_pairwise_ne.1 hn)) i k (by omega) (by omega) (by omega)
  exact this he
theorem shl_ok (n E : Nat) (hE7 : E ≤ 7) (hEn : n ≤ 2 ^ E) (hp : 2 ^ E ≤ 128) : (decide ((11 : Int) < (E : Int) + 1) || decide (wrap64 ((2 : Int) ^ E) < (n : Int))) = false := by
  have hw : wrap64 ((2 : Int) ^ E) = ((2 ^ E : Nat) : Int) := by
    have e : (2 : Int) ^ E = ((2 ^ E : Nat) : Int) := by rw [Int.natCast_pow]; rfl
    rw [e]
    generalize 2 ^ E = p at *
    unfold wrap64
    omega
  rw [hw, decide_eq_false (by omega), decide_eq_false (by omega)]; rfl
theorem order_own (L : List Bx) (n : Nat) (hn : L.length = n) (hl : n ≤ 1000000) (W : World) (B T tb : Nat) (h : TreeB W B T tb L) :
    Calls Try.prog 20 #[.pointer (some ⟨tb, 0, none⟩)] W fun e w' => (∃ a c, e = .returned (.slice a n c) ∧ Reads w' a n (nums (ordB L)) ∧ ∀ x, a = some x → W.heap.size ≤ x.block) ∧ Junk W w' := by
  have hlen : (ordB L).length = n := by rw [(ordB_perm L).length_eq, List.length_range]; exact hn
  refine (n_treeOrder h).mono ?_
  rintro e w' ⟨⟨v, rfl, ho⟩, hj⟩
  obtain ⟨a, c, rfl, hr, hs⟩ := iown_reads ho (ord_lt (by omega))
  rw [hlen] at hr ⊢
  refine ⟨⟨a, c, rfl, hr, fun x hx => ?_⟩, hj⟩
  unfold IOwn at ho
  have hb := powns_block ho
  rcases ho.2 with ⟨e, _⟩ | ⟨g, cap, cur, e, hg, _⟩
  · injection e with e _ _
    rw [hx] at e; cases e
  · injection e with e _ _
    rw [hx] at e
    injection e with e
    rw [e]
    exact hg
set_option maxRecDepth 100000 in
set_option maxHeartbeats 8000000 in
theorem l_boxtreeDeep (w : World) (a : Option Addr) (n ca : Nat) (L : List Bx) (hX : XRC w a n ca L) (hin : InBs L) (hs : n ≤ 9223372036854775807) (hz : a = none → n = 0 ∧ ca = 0) :
    Calls Try.prog 9 #[.slice a n ca] w fun e w' => e = .returned (.bool true) ∧ Junk w w' := by
  have HAw := Lib.hid l_btAwake
  by_cases hbig : 100 < n
  · have i1 : (n : Int) > 100 := by omega
    have i2 : (100 : Int) < (n : Int) := by omega
    clear hX hin hs hz hbig
    go_enter Try.func9, Try.ntmps9
    go_wp2_with (go_at_call 10; refine (HAw.out _).mono ?_; rintro e w1 ⟨rfl, J1, d1, rfl⟩)
    go_ret
    exact ⟨rfl, junk_of_below (by (repeat' (first | (with_reducible exact Below.refl _ _) | (with_reducible assumption) | (with_reducible refine Below.alloc ?_ ?_ _) | (with_reducible refine Below.drew ?_) | (with_reducible refine below_drewN ?_ _) | (with_reducible refine below_plus ?_ ?_ _ _) | (with_reducible refine Below.setCell ?_ ?_ _) | (with_reducible refine Below.setRow ?_ ?_ _) | go_size)))⟩
  have i1 : ¬ (n : Int) > 100 := by omega
  have hL := hX.rd.1
  have HX := Lib.hid hX
  have HL := Lib.hid hL
  have hn : n ≤ 100 := by omega
  have HB := Lib.hid (fun (W : World) (h : XRC W a n ca L) => build_lit W a n ca L h hin (by omega))
  have HB2 := Lib.hid (fun (W : World) (b : Option Addr) (c : Nat) (h : XRC W b (n + n) c (L ++ L)) => build_lit W b (n + n) c (L ++ L) h (by
    intro x hx
    rcases List.mem_append.1 hx with hx | hx <;> exact hin x hx) (by omega))
  clear hX hin hs hz hbig
  go_enter Try.func9, Try.ntmps9
  go_upto_region 5 with (first
    | (go_at_call 10; refine (HAw.out _).mono ?_; rintro e w1 ⟨rfl, J1, d1, rfl⟩)
    | (go_at_call 11; (with_reducible refine (HB.out _ ?_).mono ?_); (exact HX.out.below (by ((try simp only [← Array.append_assoc]); repeat' (first | (with_reducible exact Below.refl _ _) | (with_reducible assumption) | (with_reducible refine Below.alloc ?_ ?_ _) | (with_reducible refine Below.drew ?_) | (with_reducible refine below_drewN ?_ _) | (with_reducible exact below_d _ _ _ _ _) | (with_reducible refine below_snoc _ _ ?_ ?_) | (with_reducible refine below_plus ?_ ?_ _ _) | (with_reducible refine Below.setCell ?_ ?_ _) | (with_reducible refine Below.setRow ?_ ?_ _) | go_size)))); rintro e w1 ⟨⟨tb, B, T, rfl, ht, _⟩, J2, d2, rfl⟩; (try simp only [plus_plus, Array.append_assoc] at ht); have HT := Lib.hid ht; clear ht))
  obtain ⟨W, hW⟩ : ∃ W, w.plus (J1 ++ J2) d2 = W := ⟨_, rfl⟩
  have HJ := Lib.hid (show Below w.heap.size w W by rw [← hW]; ((try simp only [← Array.append_assoc]); repeat' (first | (with_reducible exact Below.refl _ _) | (with_reducible assumption) | (with_reducible refine Below.alloc ?_ ?_ _) | (with_reducible refine Below.drew ?_) | (with_reducible refine below_drewN ?_ _) | (with_reducible exact below_d _ _ _ _ _) | (with_reducible refine below_snoc _ _ ?_ ?_) | (with_reducible refine below_plus ?_ ?_ _ _) | (with_reducible refine Below.setCell ?_ ?_ _) | (with_reducible refine Below.setRow ?_ ?_ _) | go_size)))
  rw [hW] at HT ⊢
  clear hW
  have HXW := Lib.hid (HX.out.below HJ.out)
  go_upto_region 8 with (first
    | (at_builtin; refine wpList_xcopy rfl (.tmp 22) (.tmp 23) rfl rfl a n ca L rfl HXW.out.ok HXW.out.rd (by omega) ?_; intro v' w' hc'; obtain ⟨ga, gc, rfl, hxr⟩ := xrc_of_owns hc'.1; have HOw := Lib.hid hc'.1; have HBe := Lib.hid hc'.2; have hsz1 := HBe.out.size; clear hc' hxr)
    | (at_builtin; refine wpList_xapp rfl (.tmp 24) (.tmp 25) rfl _ _ n L rfl HOw.out a n ca L rfl HXW.out.ok (HXW.out.rd.below HBe.out) (by omega) hsz1 ?_; intro v2 w2 hc2 hg2; obtain ⟨gb, gd, rfl, hxr⟩ := xrc_of_owns hc2; have HX2 := Lib.hid hxr; have HB2e := Lib.hid (grown_below (B := W.heap.size) (a := W) HBe.out hg2 hsz1 (powns_block HOw.out)); clear hc2 hg2 hxr)
    | (go_at_call 11; refine (HB2.out _ _ _ HX2.out).mono ?_; rintro e w1 ⟨⟨tb2, B2, T2, rfl, ht, _⟩, J3, d3, rfl⟩; have HT2 := Lib.hid ht; clear ht))
  obtain ⟨W3, hW3⟩ : ∃ W3, w2.plus J3 d3 = W3 := ⟨_, rfl⟩
  have HJ3 := Lib.hid (show Below W.heap.size W W3 by rw [← hW3]; exact HB2e.out.trans ((Junk.below ⟨J3, d3, rfl⟩ : Below w2.heap.size w2 (w2.plus J3 d3)).mono HB2e.out.size))
  rw [hW3] at HT2 ⊢
  have HT3 := Lib.hid (HT.out.below HJ3.out)
  clear hW3 HOw HBe HB2e HX2 HX HB HB2
  have HD1 := Lib.hid (fun W B T tb h => depth_lit L (depthF n) (by rw [HL.out]) (by rw [HL.out]; omega) W B T tb h)
  have HD2 := Lib.hid (fun W B T tb h => depth_lit (L ++ L) (depthF (n + n)) (by rw [List.length_append, HL.out]) (by rw [List.length_append, HL.out]; omega) W B T tb h)
  have HO := Lib.hid (fun W B T tb h => order_own L n HL.out (by omega) W B T tb h)
  have hOl : (ordB L).length = n := by rw [(ordB_perm L).length_eq, List.length_range]; exact HL.out
  have hOm : ∀ i ∈ ordB L, i < n := fun i hi => by
    have := (ordB_perm L).mem_iff.1 hi
    rw [List.mem_range, HL.out] at this
    exact this
  have hOn : (ordB L).Nodup := (ordB_perm L).nodup_iff.2 List.nodup_range
  generalize ordB L = O at *
  have HOl := Lib.hid hOl
  have HOm := Lib.hid hOm
  have HOn := Lib.hid hOn
  clear hOl hOm hOn
  go_cut [73] from 44 to 73 (fun t wx => t = .bool false ∧ Cls W3 wx)
  case first =>
    by_cases h0 : n = 0
    · have i2 : ¬ (n : Int) > 0 := by omega
      have i3 : ¬ (n : Int) > 1 := by omega
      have e : depthF n = 0 := by rw [h0]; exact depth_small (by omega)
      rw [e] at HD1
      clear e h0
      go_wp2_with (first
        | (go_at_call 18; (with_reducible refine (HD1.out _ B T tb ?_).mono ?_); (exact HT3.out.below (by ((try simp only [← Array.append_assoc]); repeat' (first | (with_reducible exact Below.refl _ _) | (with_reducible assumption) | (with_reducible refine Below.alloc ?_ ?_ _) | (with_reducible refine Below.drew ?_) | (with_reducible refine below_drewN ?_ _) | (with_reducible exact below_d _ _ _ _ _) | (with_reducible refine below_snoc _ _ ?_ ?_) | (with_reducible refine below_plus ?_ ?_ _ _) | (with_reducible refine Below.setCell ?_ ?_ _) | (with_reducible refine Below.setRow ?_ ?_ _) | go_size)))); rintro e w1 ⟨rfl, J5, d5, rfl⟩)
        | (go_at_call 18; (with_reducible refine (HD2.out _ B2 T2 tb2 ?_).mono ?_); (exact HT2.out.below (by ((try simp only [← Array.append_assoc]); repeat' (first | (with_reducible exact Below.refl _ _) | (with_reducible assumption) | (with_reducible refine Below.alloc ?_ ?_ _) | (with_reducible refine Below.drew ?_) | (with_reducible refine below_drewN ?_ _) | (with_reducible exact below_d _ _ _ _ _) | (with_reducible refine below_snoc _ _ ?_ ?_) | (with_reducible refine below_plus ?_ ?_ _ _) | (with_reducible refine Below.setCell ?_ ?_ _) | (with_reducible refine Below.setRow ?_ ?_ _) | go_size)))); rintro e w1 ⟨rfl, J6, d6, rfl⟩))
      go_meet
      exact ⟨rfl, cls_of (junk_of_below (by (repeat' (first | (with_reducible exact Below.refl _ _) | (with_reducible assumption) | (with_reducible refine Below.alloc ?_ ?_ _) | (with_reducible refine Below.drew ?_) | (with_reducible refine below_drewN ?_ _) | (with_reducible refine below_plus ?_ ?_ _ _) | (with_reducible refine Below.setCell ?_ ?_ _) | (with_reducible refine Below.setRow ?_ ?_ _) | go_size))))⟩
    · have i2 : (n : Int) > 0 := by omega
      have i2' : (0 : Int) < (n : Int) := by omega
      obtain ⟨E, hE⟩ : ∃ E, depthF n = E + 1 := ⟨depthF n - 1, by have := depth_pos (c := n) (by omega); omega⟩
      have hE2 : depthF (n + n) = E + 2 := by rw [show n + n = 2 * n by omega, depth_double (by omega), hE]
      have hE7 : E ≤ 7 := by have := depth_le 7 n (by omega); omega
      have hEn : n ≤ 2 ^ E := by have := depth_pow n n (Nat.le_refl _) (by omega); rw [hE] at this; exact this
      rw [hE] at HD1
      rw [hE2] at HD2
      have hp : (2 : Nat) ^ E ≤ 128 := Nat.le_trans (Nat.pow_le_pow_right (by decide) hE7) (by decide)
      clear hE hE2 h0
      by_cases h1 : n = 1
      · have i3 : ¬ (n : Int) > 1 := by omega
        clear hEn hp h1
        go_wp2_with (first
        | (go_at_call 18; (with_reducible refine (HD1.out _ B T tb ?_).mono ?_); (exact HT3.out.below (by ((try simp only [← Array.append_assoc]); repeat' (first | (with_reducible exact Below.refl _ _) | (with_reducible assumption) | (with_reducible refine Below.alloc ?_ ?_ _) | (with_reducible refine Below.drew ?_) | (with_reducible refine below_drewN ?_ _) | (with_reducible exact below_d _ _ _ _ _) | (with_reducible refine below_snoc _ _ ?_ ?_) | (with_reducible refine below_plus ?_ ?_ _ _) | (with_reducible refine Below.setCell ?_ ?_ _) | (with_reducible refine Below.setRow ?_ ?_ _) | go_size)))); rintro e w1 ⟨rfl, J5, d5, rfl⟩)
        | (go_at_call 18; (with_reducible refine (HD2.out _ B2 T2 tb2 ?_).mono ?_); (exact HT2.out.below (by ((try simp only [← Array.append_assoc]); repeat' (first | (with_reducible exact Below.refl _ _) | (with_reducible assumption) | (with_reducible refine Below.alloc ?_ ?_ _) | (with_reducible refine Below.drew ?_) | (with_reducible refine below_drewN ?_ _) | (with_reducible exact below_d _ _ _ _ _) | (with_reducible refine below_snoc _ _ ?_ ?_) | (with_reducible refine below_plus ?_ ?_ _ _) | (with_reducible refine Below.setCell ?_ ?_ _) | (with_reducible refine Below.setRow ?_ ?_ _) | go_size)))); rintro e w1 ⟨rfl, J6, d6, rfl⟩))
        go_meet
        exact ⟨congrArg Value.bool (decide_eq_false (by omega)), cls_of (junk_of_below (by (repeat' (first | (with_reducible exact Below.refl _ _) | (with_reducible assumption) | (with_reducible refine Below.alloc ?_ ?_ _) | (with_reducible refine Below.drew ?_) | (with_reducible refine below_drewN ?_ _) | (with_reducible refine below_plus ?_ ?_ _ _) | (with_reducible refine Below.setCell ?_ ?_ _) | (with_reducible refine Below.setRow ?_ ?_ _) | go_size))))⟩
      · have i3 : (n : Int) > 1 := by omega
        have i3' : (1 : Int) < (n : Int) := by omega
        have HF := Lib.hid (shl_ok n E hE7 hEn hp)
        clear hEn hp
        go_wp2_with (first
        | (go_at_call 18; (with_reducible refine (HD1.out _ B T tb ?_).mono ?_); (exact HT3.out.below (by ((try simp only [← Array.append_assoc]); repeat' (first | (with_reducible exact Below.refl _ _) | (with_reducible assumption) | (with_reducible refine Below.alloc ?_ ?_ _) | (with_reducible refine Below.drew ?_) | (with_reducible refine below_drewN ?_ _) | (with_reducible exact below_d _ _ _ _ _) | (with_reducible refine below_snoc _ _ ?_ ?_) | (with_reducible refine below_plus ?_ ?_ _ _) | (with_reducible refine Below.setCell ?_ ?_ _) | (with_reducible refine Below.setRow ?_ ?_ _) | go_size)))); rintro e w1 ⟨rfl, J5, d5, rfl⟩)
        | (go_at_call 18; (with_reducible refine (HD2.out _ B2 T2 tb2 ?_).mono ?_); (exact HT2.out.below (by ((try simp only [← Array.append_assoc]); repeat' (first | (with_reducible exact Below.refl _ _) | (with_reducible assumption) | (with_reducible refine Below.alloc ?_ ?_ _) | (with_reducible refine Below.drew ?_) | (with_reducible refine below_drewN ?_ _) | (with_reducible exact below_d _ _ _ _ _) | (with_reducible refine below_snoc _ _ ?_ ?_) | (with_reducible refine below_plus ?_ ?_ _ _) | (with_reducible refine Below.setCell ?_ ?_ _) | (with_reducible refine Below.setRow ?_ ?_ _) | go_size)))); rintro e w1 ⟨rfl, J6, d6, rfl⟩))
        go_meet
        exact ⟨congrArg Value.bool HF.out, cls_of (junk_of_below (by (repeat' (first | (with_reducible exact Below.refl _ _) | (with_reducible assumption) | (with_reducible refine Below.alloc ?_ ?_ _) | (with_reducible refine Below.drew ?_) | (with_reducible refine below_drewN ?_ _) | (with_reducible refine below_plus ?_ ?_ _ _) | (with_reducible refine Below.setCell ?_ ?_ _) | (with_reducible refine Below.setRow ?_ ?_ _) | go_size))))⟩
  case rest =>
  obtain ⟨rfl, J9, d9, rfl⟩ := hcut
  obtain ⟨W4, hW4⟩ : ∃ W4, W3.plus J9 d9 = W4 := ⟨_, rfl⟩
  have HJ4 := Lib.hid (show Below W.heap.size W W4 by rw [← hW4]; exact HJ3.out.trans ((Junk.below ⟨J9, d9, rfl⟩ : Below W3.heap.size W3 (W3.plus J9 d9)).mono HJ3.out.size))
  have HT4 := Lib.hid (show TreeB W4 B T tb L by rw [← hW4]; exact HT3.out.below (Junk.below ⟨J9, d9, rfl⟩))
  rw [hW4]
  clear hW4 HT3 HT2 HJ3 HD1 HD2 HXW HT
  have hmk := fun w => made_brw n (by omega) w
  obtain ⟨Z, hZ⟩ : ∃ Z, brw (List.replicate n false) = Z := ⟨_, rfl⟩
  simp only [hZ] at hmk
  go_wp2_with (go_at_call 20; refine (HO.out _ B T tb (HT4.out.below (by ((try simp only [← Array.append_assoc]); repeat' (first | (with_reducible exact Below.refl _ _) | (with_reducible assumption) | (with_reducible refine Below.alloc ?_ ?_ _) | (with_reducible refine Below.drew ?_) | (with_reducible refine below_drewN ?_ _) | (with_reducible exact below_d _ _ _ _ _) | (with_reducible refine below_snoc _ _ ?_ ?_) | (with_reducible refine below_plus ?_ ?_ _ _) | (with_reducible refine Below.setCell ?_ ?_ _) | (with_reducible refine Below.setRow ?_ ?_ _) | go_size))))).mono ?_; rintro e w1 ⟨⟨ao, co, rfl, hr, hk⟩, J10, d10, rfl⟩; have HR := Lib.hid hr; have HK := Lib.hid hk; clear hr hk)
  obtain ⟨h, hh⟩ : ∃ h, W4.heap.size = h := ⟨_, rfl⟩
  obtain ⟨W5, hW5⟩ : ∃ W5, (W4.alloc (Obj.cells Z 4)).plus J10 d10 = W5 := ⟨_, rfl⟩
  have hb5 : Below W4.heap.size W4 W5 := by rw [← hW5]; ((try simp only [← Array.append_assoc]); repeat' (first | (with_reducible exact Below.refl _ _) | (with_reducible assumption) | (with_reducible refine Below.alloc ?_ ?_ _) | (with_reducible refine Below.drew ?_) | (with_reducible refine below_drewN ?_ _) | (with_reducible exact below_d _ _ _ _ _) | (with_reducible refine below_snoc _ _ ?_ ?_) | (with_reducible refine below_plus ?_ ?_ _ _) | (with_reducible refine Below.setCell ?_ ?_ _) | (with_reducible refine Below.setRow ?_ ?_ _) | go_size))
  have hbk : Blk W5 h (brw (List.replicate n false)) 4 := by
    rw [← hW5, ← hh, hZ]
    exact ((Blk.new W4 Z 4).below (Junk.below ⟨J10, d10, rfl⟩))
  have HB5 := Lib.hid hb5
  have HBk := Lib.hid hbk
  rw [hW5] at HR
  have HK2 := Lib.hid (fun (x : Addr) (hx : ao = some x) => show h < x.block from by have := HK.out x hx; rw [← hh]; simp at this; omega)
  rw [hW5, hh]
  clear hW5 hb5 hbk hmk HK hZ HO HT4
  go_loopw [10] (fun x wr => DpM W5 h n O x wr) (fun x _ => n - (intOf x).toNat)
  case atStart => exact ⟨0, _, rfl, Nat.zero_le _, by simp, HBk.out, Kept2.refl _ _ _, fun j hj => by simp [hj]⟩
  case round =>
    obtain ⟨k, us, rfl, hk, hus, hb, hK, hm⟩ := hrel
    by_cases hlt : k < n
    · obtain ⟨bo, oo, eo, oc, lo⟩ := reads_at HR.out (k := k) hlt
      have hne : bo ≠ h := by have := HK2.out _ eo; simp only at this; omega
      subst eo
      have hjn := HOm.out _ (getD_memN (l := O) (k := k) (by rw [HOl.out]; exact hlt))
      have hmark := hm _ hjn
      rw [mark_not hlt HOl.out HOn.out] at hmark
      have hnx := marks_next hlt HOl.out HOm.out hus hm
      obtain ⟨j, hj⟩ : ∃ j, O.getD k 0 = j := ⟨_, rfl⟩
      rw [hj] at oc hjn hmark hnx
      have oc' := hK.cell hne hne oc
      have hc : wr.cell? ⟨h, j, none⟩ = some (.bool false) := by rw [hb.cell]; exact brw_get hmark
      have hf := hb.frozen j
      have hl := hb.lt
      have lo' := World.block_lt_of_cell? _ _ oc'
      have i2 : (k : Int) < (n : Int) := by omega
      have i3 : ¬ (j : Int) < 0 := by omega
      have i4 : ¬ (j : Int) ≥ (n : Int) := by omega
      have i5 : (j : Int) < (n : Int) := by omega
      have HNx := Lib.hid hnx
      have HBl := Lib.hid hb
      have HKp := Lib.hid hK
      have Hus := Lib.hid hus
      clear hb hK hm hnx hmark hus oc lo hj
      go_wp2_with fail
      go_roundw
      case rel =>
        refine ⟨k + 1, us.set j true, by go_num, by omega, by rw [List.length_set]; exact Hus.out, ?_, HKp.out.trans ⟨?_, fun i hi h1 _ => Below.heap_setCell _ _ _ i h1⟩, HNx.out⟩
        · have := HBl.out.set j (.bool true)
          rw [brw_set] at this
          exact this
        · (repeat' (first | (with_reducible exact Below.refl _ _) | (with_reducible assumption) | (with_reducible refine Below.alloc ?_ ?_ _) | (with_reducible refine Below.drew ?_) | (with_reducible refine below_drewN ?_ _) | (with_reducible refine below_plus ?_ ?_ _ _) | (with_reducible refine Below.setCell ?_ ?_ _) | (with_reducible refine Below.setRow ?_ ?_ _) | go_size))
      case measure => simp [intOf]; omega
    · obtain rfl : n = k := by omega
      have HKp := Lib.hid hK
      have i2 : ¬ (n : Int) < (n : Int) := by omega
      clear hb hK hm hus
      go_wp2_with fail
      go_ret
      have q1 := HJ.out.size
      have q2 := HJ4.out.size
      have q3 := HB5.out.size
      have e1 : Below w.heap.size w W4 := HJ.out.trans (HJ4.out.mono q1)
      have e2 : Below w.heap.size w W5 := e1.trans (HB5.out.mono (by omega))
      exact ⟨rfl, junk_of_below (e2.trans (HKp.out.below (by omega) (by omega) (by omega)))⟩
end Go.Proofs.Ytnpkhhchbahcpaa

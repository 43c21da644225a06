/- ring's least: slices.MinFunc over points by point.Compare, and where the least stands. slices.Reverse over points; ring's Turned. slices.Grow and slices.Concat over points; ring's From. ring's From. slices.Equal over points; ring's Sign. ring's Normal and Same: the package's contracts. -/
import Derived.Test.YthphdiigjimchaaGreatRgChk
import Derived.Test.YthphdiigjimchaaGreatPtFew
import Derived.Test.YthphdiigjimchaaGreatCrFive
import Derived.Test.YthphdiigjimchaaGreatRiRef
import Derived.Lib.AppendZerosOnto
import Derived.Lib.SliceRun
import Derived.Lib.Walk
namespace Go.Proofs.YthphdiigjimchaaGreat
section
set_option linter.unusedVariables false
set_option linter.unusedSimpArgs false
open Go.RowKit Go.Shelf
def MfAt (w : World) (K : List Pt) (x : Value) (wr : World) : Prop := ∃ k : Nat, x = .int .i64 (k : Int) ∧ 1 ≤ k ∧ k ≤ K.length ∧ Blk wr (w.heap.size + 1) #[.int .i64 (K.getD (leastN K k) (0, 0)).1, .int .i64 (K.getD (leastN K k) (0, 0)).2] 42 ∧ Blk wr w.heap.size #[.int .i64 0, .int .i64 0] 42 ∧ Below w.heap.size w wr ∧ w.heap.size + 2 ≤ wr.heap.size
def fineV (K : List Pt) : Bool := decide ((checkF K).1 = 0)
end

section
set_option linter.unusedVariables false
set_option linter.unusedSimpArgs false
open Go.RowKit
structure SOk (a : Option Addr) (n ca : Nat) : Prop where
  le : n ≤ ca
  nil : a = none → ca = 0
theorem wpList_pall {ops : Array Oper} {rest : List Oper} {o : Oper} {a : Act} {w : World} {Q : Exit → Act → World → Prop} (hgd : o.guard = none) (s x : Operand)
    (ho : o.op = .call { callee := .builtin .append, args := #[s, x], argTypes := #[23, 23] }) (base : Nat) (v : Value) (n : Nat) (K : List (Int × Int)) (hs : a.eval s = v) (hown : w.ownsRow base 42 2 v n (pcells K))
    (A : Option Addr) (len cap : Nat) (M : List (Int × Int)) (hx : a.eval x = .slice A len cap) (hn : SOk A len cap) (hr : PReads w A len M) (hm : n + len ≤ 1000000) (hb : base ≤ w.heap.size)
    (h : ∀ v' w', w'.ownsRow base 42 2 v' (n + len) (pcells (K ++ M)) → w.grownBy w' v.ownBlock → wpList Tryz.prog ops Q rest (a.put o.dst v') w') : wpList Tryz.prog ops Q (o :: rest) a w := by
  obtain ⟨i0, hi0, hz0, hz1, hz2⟩ := info_pt
  rcases A with _ | ad
  · obtain rfl : cap = 0 := hn.nil rfl
    obtain rfl : len = 0 := by have := hn.le; omega
    obtain rfl : M = [] := List.eq_nil_of_length_eq_zero hr.1
    refine wpList_append_own_none hgd s x _ ho base 42 i0 2 Tryz.underlying23 hi0 _ n (pcells K) hs hown hx ?_
    exact h _ _ (by rw [List.append_nil, Nat.add_zero]; exact hown) (World.grownBy.refl w _)
  · refine wpList_append_own _ hgd s x _ ho base 42 i0 _ 2 16 Tryz.underlying23 hi0 hz0 hz1 hz2 rfl (by decide) _ n (pcells K) hs hown ad len cap (pcells M) hx
      (by rw [pcells_len, hr.1]) hr.cells (pcells_one M) (by simp only [maxLen]; omega) (by omega) hb ?_
    intro v' w' hown' hg _
    rw [← pcells_app] at hown'
    exact h _ _ hown' hg
def CellsOf (cur : Array Value) (M : List (Int × Int)) : Prop := ∀ p, p < M.length → cur[p * 2]? = some (.int .i64 (M.getD p (0, 0)).1) ∧ cur[p * 2 + 1]? = some (.int .i64 (M.getD p (0, 0)).2)
def swapK (K : List (Int × Int)) (k : Nat) : List (Int × Int) := (List.range K.length).map fun p => if p < k ∨ K.length ≤ p + k then K.getD (K.length - 1 - p) (0, 0) else K.getD p (0, 0)
theorem blk_drew {W : World} {k : Nat} {c : Array Value} {t : TypeId} (h : Blk W k c t) : Blk W.drew k c t := h
def RvAt (w : World) (K : List (Int × Int)) (g cap : Nat) (x y : Value) (wr : World) : Prop := ∃ (k : Nat) (cur : Array Value), x = .int .i64 (k : Int) ∧ y = .int .i64 ((K.length : Int) - 1 - (k : Int)) ∧ 2 * k ≤ K.length ∧ Blk wr g cur 42 ∧ cur.size = cap * 2 ∧ CellsOf cur (swapK K k) ∧ w.grownBy wr (some g)
end

section
set_option linter.unusedVariables false
set_option linter.unusedSimpArgs false
open Go.RowKit
open Go.Lib in
set_option maxRecDepth 100000 in
set_option maxHeartbeats 2000000 in
theorem n_slGrow (w : World) (m : Nat) (hm : m ≤ 1000000) : Calls Tryz.prog 73 #[.slice none 0 0, .int .i64 (m : Int)] w fun e w' =>
    (∃ v, e = .returned v ∧ w'.ownsRow w.heap.size 42 2 v 0 (pcells [])) ∧ Below w.heap.size w w' := by
  by_cases h0 : m = 0
  · subst h0
    go_enter Tryz.func73, Tryz.ntmps73
    go_wp2
    go_ret
    exact ⟨⟨_, rfl, pnil_owns _ _⟩, Below.refl _ _⟩
  · obtain ⟨i0, hi0, hz0, hz1, hz2⟩ := info_pt
    have hrz : ∀ ty, (Builtin.append_ #[23, 3] ty #[.slice none 0 0, .int .i64 (m : Int)]).run Tryz.prog w =
        .ok (.slice (some ⟨w.heap.size, 0, none⟩) m (grownCap w m 0 42)) (w.drew.alloc (.cells (#[] ++ Builtin.zeroCells (Value.agg #[.int .i64 0, .int .i64 0]).cells m ++ Builtin.zeroCells (Value.agg #[.int .i64 0, .int .i64 0]).cells (grownCap w m 0 42 - m)) 42)) := fun ty => by
      have h := Lib.run_append_grow_zeros w 23 3 ty 42 i0 (.agg #[.int .i64 0, .int .i64 0]) .i64 .i64 Tryz.underlying23 Tryz.underlying3 hi0 hz0 none 0 0 [] (by rw [hz1]; exact run_firstCells_none w.drew 2 0 0 0) m (by omega) (by omega) (by omega) (by omega)
        (by rw [hz2]; omega) (by rw [hz2, Nat.zero_add]; exact growslice_fits (by omega) (by omega))
      simpa using h
    have hGn : m ≤ grownCap w m 0 42 := grownCap_ge w _ _ _
    have hGm : grownCap w m 0 42 ≤ maxLen := grownCap_le_maxLen w m 0 _ (by unfold maxLen; omega)
    generalize grownCap w m 0 42 = G at *
    have hG63 : G ≤ 9223372036854775807 := by unfold maxLen at hGm; omega
    have e1 : ¬ ((m : Int) < 0) := by omega
    have e2 : 0 < (m : Int) := by omega
    have HG := Lib.hid (And.intro hGn hGm)
    clear hi0 hz0 hz1 hz2
    go_enter Tryz.func73, Tryz.ntmps73
    go_wp2_with (at_builtin; refine Lib.wpList_append_run _ rfl _ _ _ _ rfl _ _ rfl rfl _ _ (hrz _) ?_)
    obtain ⟨h1, h2⟩ := HG.out
    go_ret
    exact ⟨⟨_, rfl, ⟨rfl, .inr ⟨w.heap.size, G, _, rfl, Nat.le_refl _, World.alloc_heap_new w _, Nat.zero_le _, h2, by rw [Array.size_append, size_zeroCells, size_zeroCells]; show m * 2 + (G - m) * 2 = G * 2; omega, rfl⟩⟩⟩, ((Below.refl _ w).alloc (Nat.le_refl _) _).drew⟩
def two {α : Type} (x y z : α) (k : Nat) : α := if k = 0 then x else if k = 1 then y else z
def cat2 (K1 K2 : List (Int × Int)) (k : Nat) : List (Int × Int) := two [] K1 (K1 ++ K2) k
def sum2 (n1 n2 k : Nat) : Nat := two 0 n1 (n1 + n2) k
def CcAt (w : World) (n1 n2 : Nat) (s i : Value) (wr : World) : Prop := ∃ k : Nat, i = .int .i64 (k : Int) ∧ s = .int .i64 (sum2 n1 n2 k : Nat) ∧ k ≤ 2 ∧ wr = w
def CdAt (w : World) (n1 n2 : Nat) (K1 K2 : List (Int × Int)) (v i : Value) (wr : World) : Prop := ∃ k : Nat, i = .int .i64 (k : Int) ∧ k ≤ 2 ∧ wr.ownsRow w.heap.size 42 2 v (sum2 n1 n2 k) (pcells (cat2 K1 K2 k)) ∧ Below w.heap.size w wr
set_option maxRecDepth 100000 in
set_option maxHeartbeats 4000000 in
theorem n_slConcat (w : World) (g : Nat) (a1 a2 : Option Addr) (n1 n2 c1 c2 : Nat) (K1 K2 : List (Int × Int)) (hb : Blk w g #[.slice a1 n1 c1, .slice a2 n2 c2] 23) (h1 : PReads w a1 n1 K1) (h2 : PReads w a2 n2 K2) (k1 : SOk a1 n1 c1) (k2 : SOk a2 n2 c2) (hs : n1 + n2 ≤ 1000) :
    Calls Tryz.prog 45 #[.slice (some ⟨g, 0, none⟩) 2 2] w fun e w' => (∃ v, e = .returned v ∧ w'.ownsRow w.heap.size 42 2 v (n1 + n2) (pcells (K1 ++ K2))) ∧ Below w.heap.size w w' := by
  have HR1 := Lib.hid h1
  have HR2 := Lib.hid h2
  have HK1 := Lib.hid k1
  have HK2 := Lib.hid k2
  have c0 : w.cell? ⟨g, 0, none⟩ = some (.slice a1 n1 c1) := hb.cell 0
  have c1' : w.cell? ⟨g, 1, none⟩ = some (.slice a2 n2 c2) := hb.cell 1
  have lg := hb.lt
  clear h1 h2 k1 k2 hb
  have HGr := Lib.hid (fun w' m hm => n_slGrow w' m hm)
  go_enter Tryz.func45, Tryz.ntmps45
  go_wp2_with fail
  go_loopw [3, 11] (fun s i wr => CcAt w n1 n2 s i wr) (fun _ i _ => 2 - (intOf i).toNat)
  case atStart => exact ⟨0, rfl, rfl, by omega, rfl⟩
  case round =>
    obtain ⟨k, rfl, rfl, hk, rfl⟩ := hrel
    match k, hk with
    | 0, _ =>
      have e1 : sum2 n1 n2 0 = 0 := rfl
      have e2 : ¬ ((n1 : Int) < 0) := by omega
      rw [e1]
      go_wp2_with fail
      go_roundw
      case rel => exact ⟨1, by go_num, by go_num, by omega, rfl⟩
      case measure => simp [intOf]
    | 1, _ =>
      have e1 : sum2 n1 n2 1 = n1 := rfl
      have e2 : ¬ ((n1 : Int) + (n2 : Int) < 0) := by omega
      rw [e1]
      go_wp2_with fail
      go_roundw
      case rel => exact ⟨2, by go_num, by go_num, by omega, rfl⟩
      case measure => simp [intOf]
    | 2, _ =>
      have e1 : sum2 n1 n2 2 = n1 + n2 := rfl
      rw [e1]
      obtain ⟨wa, rfl⟩ : ∃ wa : World, wa = wr := ⟨_, rfl⟩
      go_wp2_with (go_at_call 73; (refine (HGr.out _ (n1 + n2) (by omega)).mono ?_); rintro e w1 ⟨⟨v, rfl, hv⟩, hB⟩; have HV := Lib.hid hv; have HB := Lib.hid hB; clear hv hB)
      go_loopw [6, 27] (fun v i wr2 => CdAt wa n1 n2 K1 K2 v i wr2) (fun _ i _ => 2 - (intOf i).toNat)
      case atStart => exact ⟨0, rfl, by omega, HV.out, HB.out⟩
      case round =>
        obtain ⟨k, rfl, hk, hown, hB2⟩ := hrel
        match k, hk with
        | 0, _ =>
          have s0 := (World.cell?_of_block (hB2.block _ lg)).trans c0
          have lg2 : g < wr.heap.size := Nat.lt_of_lt_of_le lg hB2.size
          have HOW := Lib.hid hown
          have HB2 := Lib.hid hB2
          obtain ⟨wo, rfl⟩ : ∃ wo : World, wo = wr := ⟨_, rfl⟩
          clear hown hB2
          go_wp2_with (at_builtin; refine wpList_pall rfl _ _ rfl wa.heap.size _ (sum2 n1 n2 0) (cat2 K1 K2 0) rfl HOW.out a1 n1 c1 K1 rfl HK1.out (HR1.out.below HB2.out) (by show 0 + _ ≤ _; omega) HB2.out.size ?_; intro v' w' hown' hg'; have HO := Lib.hid hown'; have HG := Lib.hid hg'; clear hown' hg')
          go_roundw
          case rel => exact ⟨1, by go_num, by omega, by have := HO.out; rw [show sum2 n1 n2 0 + n1 = n1 from Nat.zero_add _] at this; exact this, grown_below (B := wa.heap.size) (a := wa) HB2.out HG.out HB2.out.size (powns_block HOW.out)⟩
          case measure => simp [intOf]
        | 1, _ =>
          have s0 := (World.cell?_of_block (hB2.block _ lg)).trans c1'
          have lg2 : g < wr.heap.size := Nat.lt_of_lt_of_le lg hB2.size
          have HOW := Lib.hid hown
          have HB2 := Lib.hid hB2
          obtain ⟨wo, rfl⟩ : ∃ wo : World, wo = wr := ⟨_, rfl⟩
          clear hown hB2
          go_wp2_with (at_builtin; refine wpList_pall rfl _ _ rfl wa.heap.size _ (sum2 n1 n2 1) (cat2 K1 K2 1) rfl HOW.out a2 n2 c2 K2 rfl HK2.out (HR2.out.below HB2.out) (by show n1 + _ ≤ _; omega) HB2.out.size ?_; intro v' w' hown' hg'; have HO := Lib.hid hown'; have HG := Lib.hid hg'; clear hown' hg')
          go_roundw
          case rel => exact ⟨2, by go_num, by omega, by exact HO.out, grown_below (B := wa.heap.size) (a := wa) HB2.out HG.out HB2.out.size (powns_block HOW.out)⟩
          case measure => simp [intOf]
        | 2, _ =>
          have HOW := Lib.hid hown
          have HB2 := Lib.hid hB2
          clear hown hB2
          go_wp2_with fail
          go_ret
          exact ⟨⟨_, rfl, HOW.out⟩, HB2.out⟩
end

section
set_option linter.unusedVariables false
set_option linter.unusedSimpArgs false
open Go.RowKit
theorem preads_drop {w : World} {b o n : Nat} {K : List (Int × Int)} (h : PReads w (some ⟨b, o, none⟩) n K) (i : Nat) : PReads w (some ⟨b, o + i * 2, none⟩) (n - i) (K.drop i) := by
  obtain ⟨h1, h2⟩ := h
  refine ⟨by rw [List.length_drop, h1], ?_⟩
  rcases h2 with h2 | ⟨b', o', he, hc⟩
  · exact .inl (by omega)
  · injection he with he
    injection he with e1 e2 _
    subst e1 e2
    refine .inr ⟨_, _, rfl, fun k hk => ?_⟩
    have e : (K.drop i).getD k (0, 0) = K.getD (i + k) (0, 0) := by
      rw [List.getD_eq_getElem?_getD, List.getD_eq_getElem?_getD, List.getElem?_drop]
    rw [e]
    have := hc (i + k) (by omega)
    rw [show o + i * 2 + k * 2 = o + (i + k) * 2 by omega]
    exact this
theorem rot_parts {K : List Pt} {s : Int} {m : Nat} (hm : (m : Int) = s % (K.length : Int)) (hl : m < K.length) : rotF K s = K.drop m ++ K.take m := by
  refine list_cyc (by rw [rot_len, List.length_append, List.length_drop, List.length_take]; omega) fun k hk => ?_
  rw [rot_len] at hk
  have hml : (K.drop m ++ K.take m).length = K.length := by rw [List.length_append, List.length_drop, List.length_take]; omega
  rw [rot_cyc, cyc_nat (by rw [hml]; exact hk)]
  have e1 : cyc K (s + (k : Int)) = cyc K (((m + k) % K.length : Nat) : Int) := by
    refine cyc_mod ?_
    push_cast
    rw [hm, Int.emod_emod, Int.emod_add_emod]
  rw [e1, cyc_nat (Nat.mod_lt _ (by omega))]
  rw [List.getD_eq_getElem?_getD, List.getD_eq_getElem?_getD]
  by_cases h : k < K.length - m
  · rw [Nat.mod_eq_of_lt (by omega), List.getElem?_append_left (by rw [List.length_drop]; exact h), List.getElem?_drop]
  · rw [List.getElem?_append_right (by rw [List.length_drop]; omega), List.length_drop, List.getElem?_take_of_lt (by omega)]
    rw [show m + k = (k - (K.length - m)) + K.length by omega, Nat.add_mod_right, Nat.mod_eq_of_lt (by omega)]
set_option maxRecDepth 100000 in
set_option maxHeartbeats 2000000 in
theorem n_rgFrom (W : World) (a : Option Addr) (n ca : Nat) (K : List Pt) (hK : PReads W a n K) (hs : n ≤ 400) (hca : SOk a n ca) (s : Int) :
    Calls Tryz.prog 128 #[.slice a n ca, .int .i64 s] W fun e w' => (∃ v, e = .returned v ∧ POwn W w' v (rotF K s)) ∧ Junk W w' := by
  by_cases h0 : n = 0
  · subst h0
    have HN := Lib.hid (show rotF K s = [] from List.eq_nil_of_length_eq_zero (by rw [rot_len]; exact hK.1))
    clear hK hca
    go_enter Tryz.func128, Tryz.ntmps128
    go_wp2_with fail
    go_ret
    exact ⟨⟨_, rfl, by rw [HN.out]; exact pnil_owns _ _⟩, junk_of_below (by (repeat' first | with_reducible (first | apply Below.refl | assumption | apply bw_a | apply bw_d | apply bw_n | apply bw_p | apply bw_c | apply bw_r) | go_size))⟩
  rcases hK.2 with h | ⟨b, o, rfl, hc⟩
  · exact absurd h h0
  have hb : b < W.heap.size := World.block_lt_of_cell? _ _ (hc 0 (by omega)).1
  clear hc
  have hl := hK.1
  obtain ⟨t, ht⟩ : ∃ t, s.tmod (n : Int) = t := ⟨_, rfl⟩
  have t1 : t < (n : Int) := by rw [← ht]; exact Int.tmod_lt_of_pos s (by omega)
  have t2 : -(n : Int) < t := by
    have := Int.tmod_lt_of_pos (-s) (b := (n : Int)) (by omega)
    rw [Int.neg_tmod, ht] at this
    omega
  have t3 : t % (n : Int) = s % (n : Int) := by rw [← ht, Int.tmod_def]; exact Int.sub_mul_emod_self_left s n _
  obtain ⟨m, hm, hml⟩ : ∃ m : Nat, (if t < 0 then t + (n : Int) else t) = (m : Int) ∧ m < n := by
    split
    · exact ⟨(t + n).toNat, by omega, by omega⟩
    · exact ⟨t.toNat, by omega, by omega⟩
  have hmm : (m : Int) = s % (K.length : Int) := by
    rw [hl, ← t3]
    by_cases h : t < 0
    · rw [if_pos h] at hm
      rw [← hm, ← Int.add_emod_right t, Int.emod_eq_of_lt (by omega) (by omega)]
    · rw [if_neg h] at hm
      rw [← hm, Int.emod_eq_of_lt (by omega) (by omega)]
  have HR := Lib.hid (rot_parts hmm (by omega))
  have hcl := hca.le
  have HC := Lib.hid (fun W' (hB : Below W.heap.size W W') g (hg : Blk W' g #[.slice (some ⟨b, o + m * 2, none⟩) (n - m) (ca - m), .slice (some ⟨b, o, none⟩) m ca] 23) =>
    n_slConcat W' g (some ⟨b, o + m * 2, none⟩) (some ⟨b, o, none⟩) (n - m) m (ca - m) ca (K.drop m) (K.take m) hg ((preads_drop hK m).below hB) ((preads_take hK (by omega)).below hB) ⟨by omega, fun h => by cases h⟩ ⟨by omega, fun h => by cases h⟩ (by omega))
  have HL := Lib.hid (show n - m + m = (rotF K s).length by rw [rot_len, hl]; omega)
  have hM : Tryz.prog.follows .mixedOrders = true := by kernel_rfl
  have i1 : (m : Int) ≤ (ca : Int) := by omega
  have i2 : (m : Int) ≤ (n : Int) := by omega
  have i3 : ¬ (ca : Int) ≤ (m : Int) := by omega
  have i4 : ¬ ca = m := by omega
  have e5 : (n : Int) - (m : Int) = ((n - m : Nat) : Int) := by omega
  have e6 : (ca : Int) - (m : Int) = ((ca - m : Nat) : Int) := by omega
  by_cases hneg : t < 0
  · rw [if_pos hneg] at hm
    
    clear hK hca hl hmm t3
    go_enter Tryz.func128, Tryz.ntmps128
    go_upto_region 6 with fail
    go_region_with (go_at_call 45; refine (HC.out _ (by (repeat' first | with_reducible (first | apply Below.refl | assumption | apply bw_a | apply bw_d | apply bw_n | apply bw_p | apply bw_c | apply bw_r) | go_size)) _ (blk_drew (blk_new2 rfl _ _))).mono ?_; rintro e w1 ⟨⟨v, rfl, hv⟩, hB⟩; have HV := Lib.hid hv; have HB := Lib.hid hB; clear hv hB)
    all_goals (
      go_wp2_with fail
      go_ret
      exact ⟨⟨_, rfl, by unfold POwn; rw [← HL.out, HR.out]; exact powns_base HV.out (by simp)⟩, junk_of_below ((show Below W.heap.size W _ by (repeat' first | with_reducible (first | apply Below.refl | assumption | apply bw_a | apply bw_d | apply bw_n | apply bw_p | apply bw_c | apply bw_r) | go_size)).trans (HB.out.mono (by simp <;> omega)))⟩)
  · rw [if_neg hneg] at hm
    subst hm
    clear hK hca hl hmm t3
    go_enter Tryz.func128, Tryz.ntmps128
    go_upto_region 6 with fail
    go_region_with (go_at_call 45; refine (HC.out _ (by (repeat' first | with_reducible (first | apply Below.refl | assumption | apply bw_a | apply bw_d | apply bw_n | apply bw_p | apply bw_c | apply bw_r) | go_size)) _ (blk_drew (blk_new2 rfl _ _))).mono ?_; rintro e w1 ⟨⟨v, rfl, hv⟩, hB⟩; have HV := Lib.hid hv; have HB := Lib.hid hB; clear hv hB)
    all_goals (
      go_wp2_with fail
      go_ret
      exact ⟨⟨_, rfl, by unfold POwn; rw [← HL.out, HR.out]; exact powns_base HV.out (by simp)⟩, junk_of_below ((show Below W.heap.size W _ by (repeat' first | with_reducible (first | apply Below.refl | assumption | apply bw_a | apply bw_d | apply bw_n | apply bw_p | apply bw_c | apply bw_r) | go_size)).trans (HB.out.mono (by simp <;> omega)))⟩)
end

section
set_option linter.unusedVariables false
set_option linter.unusedSimpArgs false
open Go.RowKit
theorem own_ok {W w' : World} {v : Value} {L : List Pt} {n : Nat} (hn : L.length = n) (h : POwn W w' v L) : ∃ a cap, v = .slice a n cap ∧ PReads w' a n L ∧ SOk a n cap := by
  obtain ⟨a, cap, e, hR⟩ := own_readn hn h
  refine ⟨a, cap, e, hR, ?_⟩
  obtain ⟨_, h2⟩ := h
  rcases h2 with ⟨e2, h0⟩ | ⟨g, c2, cur, e2, _, _, hnc, _⟩
  · rw [e2] at e
    injection e with e3 e4 e5
    subst e3 e4 e5
    exact ⟨Nat.le_refl _, fun _ => rfl⟩
  · rw [e2] at e
    injection e with e3 e4 e5
    subst e5
    exact ⟨by omega, fun h => by rw [← e3] at h; cases h⟩
end

section
set_option linter.unusedVariables false
set_option linter.unusedSimpArgs false
open Go.RowKit
end
end Go.Proofs.YthphdiigjimchaaGreat

/- The law WideOrder: its text returns true of any two slices of ints and any int. Conditions: none beyond the reading of a slice. -/
import Derived.Test.YtmhpmljkmckafaaLawA
import Derived.Test.YtmhpmljkmckafaaSumR
import Derived.Test.YtmhpmljkmckafaaLists
import Derived.Deep.DeepCutAuto
import Derived.BigRegion
import Derived.Laws.OwnMore
namespace Go.Proofs.Ytmhpmljkmckafaa
set_option linter.unusedVariables false
set_option linter.unusedSimpArgs false
open Go.RowKit

theorem owns_plus {w : World} {base e size n : Nat} {v : Value} {xs : List Value} (h : w.ownsRow base e size v n xs) (J : Array Obj) (d : Nat) : (w.plus J d).ownsRow base e size v n xs := by
  obtain ⟨h1, h2⟩ := h
  refine ⟨h1, ?_⟩
  rcases h2 with h2 | ⟨g, cap, cur, hv, hb, hg, h3⟩
  · exact .inl h2
  · have hgs : g < w.heap.size := by
      by_cases hb : g < w.heap.size
      · exact hb
      · simp [Array.getElem?_eq_none (Nat.le_of_not_lt hb)] at hg
    exact .inr ⟨g, cap, cur, hv, hb, by rw [heap_plus w J d g hgs]; exact hg, h3⟩

theorem owns_lt {w : World} {base n cap g : Nat} {xs : List Value} (h : w.ownsRow base 3 1 (.slice (some ⟨g, 0, none⟩) n cap) n xs) : g < w.heap.size := by
  rcases h.2 with ⟨h0, _⟩ | ⟨g', cap', cur, hv, hb, hg, _⟩
  · simp at h0
  · injection hv with h1 h2 h3
    injection h1 with h1; injection h1 with h1
    subst h1
    by_cases hb : g < w.heap.size
    · exact hb
    · simp [Array.getElem?_eq_none (Nat.le_of_not_lt hb)] at hg

theorem owns_some {w : World} {base n cap : Nat} {a : Option Addr} {xs : List Value} (h : w.ownsRow base 3 1 (.slice a n cap) n xs) (hn : 0 < n) : ∃ g, a = some ⟨g, 0, none⟩ ∧ base ≤ g := by
  rcases h.2 with ⟨_, h0⟩ | ⟨g, cap', cur, hv, hb, _⟩
  · omega
  · injection hv with h1 h2 h3
    exact ⟨g, h1, hb⟩

theorem ints_set (ys : List Int) (j : Nat) (z : Int) : (ints ys).set j (.int .i64 z) = ints (ys.set j z) := by
  unfold ints; rw [List.map_set]

/-- A store of an int into a row of the call's own. -/
theorem wpList_istore {ops : Array Oper} {rest : List Oper} {o : Oper} {a : Act} {w : World} {Q : Exit → Act → World → Prop} (hgd : o.guard = none) (x y : Operand) (ho : o.op = .store 3 x y)
    (g j n cap base : Nat) (z : Int) (ys : List Int) (hx : a.eval x = .pointer (some ⟨g, j, none⟩)) (hy : a.eval y = .int .i64 z) (hown : w.ownsRow base 3 1 (.slice (some ⟨g, 0, none⟩) n cap) n (ints ys)) (hj : j < n)
    (h : ∀ w', w'.ownsRow base 3 1 (.slice (some ⟨g, 0, none⟩) n cap) n (ints (ys.set j z)) → w.grownBy w' (some g) → wpList Try.prog ops Q rest (a.put o.dst undef) w') : wpList Try.prog ops Q (o :: rest) a w := by
  obtain ⟨h1, h2⟩ := hown.stored j (.int .i64 z)
  rw [ints_set] at h1
  refine wpList_plain hgd fun K hK => ?_
  have hc := hown.cellAt j (by omega)
  have hf := hown.frozenAt j
  have hlen : j < ys.length := by have := hown.1; rw [ints_len] at this; omega
  rw [ints_get ys j hlen] at hc
  have := hK _ _ (h _ h1 h2)
  have e : (execOp a.eval o).run Try.prog w = .ok .skip (w.setCell ⟨g, j, none⟩ (.int .i64 z)) := by
    simp only [execOp, ho, hx, hy]
    simp [go_sem, Instr.storeAt, hc, hf]
  unfold Oper.wp
  rw [e]
  exact this

theorem sumL_set (ys : List Int) (j : Nat) (z : Int) (h : j < ys.length) : sumL (ys.set j z) = sumL ys - ys.getD j 0 + z := by
  induction ys generalizing j with
  | nil => simp at h
  | cons y ys ih =>
    have c : ∀ (q : Int) (l : List Int), sumL (q :: l) = q + sumL l := fun q l => by unfold sumL; rw [List.foldl_cons, foldl_add]; omega
    cases j with
    | zero => simp [c]; omega
    | succ j =>
      simp only [List.set_cons_succ, c, List.getD_cons_succ]
      rw [ih j (by simpa using h)]; omega

theorem getD_set1 (ys : List Int) (j i : Nat) (z : Int) (h : j < ys.length) : (ys.set j z).getD i 0 = if j = i then z else ys.getD i 0 := by
  simp only [List.getD_eq_getElem?_getD, List.getElem?_set]
  by_cases e : j = i
  · subst e; simp [h]
  · simp [e]

theorem swap_sum (ys : List Int) (p q : Nat) (hp : p < ys.length) (hq : q < ys.length) : sumL ((ys.set p (ys.getD q 0)).set q (ys.getD p 0)) = sumL ys := by
  rw [sumL_set _ _ _ (by simpa using hq), sumL_set _ _ _ hp, getD_set1 _ _ _ _ hp]
  split <;> omega

theorem swap_fit (ys : List Int) (p q n : Nat) (hl : ys.length = n) (hp : p < n) (hq : q < n) (h : Fit64 ys n) : Fit64 ((ys.set p (ys.getD q 0)).set q (ys.getD p 0)) n := by
  intro i hi
  rw [getD_set1 _ _ _ _ (by simp; omega), getD_set1 _ _ _ _ (by omega)]
  have := h i hi; have := h p hp; have := h q hq
  split
  · assumption
  · split <;> assumption

theorem own_swap {w : World} {base g n cap p q : Nat} {yq yp : Int} {ys : List Int} (h : w.ownsRow base 3 1 (.slice (some ⟨g, 0, none⟩) n cap) n (ints ys)) :
    ((w.setCell ⟨g, p, none⟩ (.int .i64 yq)).setCell ⟨g, q, none⟩ (.int .i64 yp)).drew.ownsRow base 3 1 (.slice (some ⟨g, 0, none⟩) n cap) n (ints ((ys.set p yq).set q yp)) := by
  have h1 := (h.stored p (.int .i64 yq)).1
  rw [ints_set] at h1
  have h2 := (h1.stored q (.int .i64 yp)).1
  rw [ints_set] at h2
  exact h2

theorem owns_none {w : World} {base n cap : Nat} {a : Option Addr} {xs : List Value} (h : w.ownsRow base 3 1 (.slice a n cap) n xs) : a = none → n = 0 ∧ cap = 0 := by
  rintro rfl
  rcases h.2 with ⟨h0, h1⟩ | ⟨g, cap', cur, hv, _⟩
  · injection h0 with e1 e2 e3; exact ⟨h1, e3⟩
  · injection hv with e1; cases e1

theorem reads_owned {w : World} {base n cap : Nat} {a : Option Addr} {zs : List Int} (h : w.ownsRow base 3 1 (.slice a n cap) n (ints zs)) (hb : Fit64 zs n) : Reads w a n zs := by
  obtain ⟨a2, c2, he, hR⟩ := reads_of_owns h hb
  injection he with h1 h2 h3; subst h1; exact hR
theorem owned_len {w : World} {base n : Nat} {v : Value} {zs : List Int} (h : w.ownsRow base 3 1 v n (ints zs)) : zs.length = n := by
  have := h.1; rw [ints_len] at this; omega
theorem sum_wrap (ys : List Int) (m : Int) : sumL ([m] ++ ys ++ [-m]) = sumL ys := by
  unfold sumL
  rw [List.foldl_append, List.foldl_append]
  simp only [List.foldl_cons, List.foldl_nil]
  rw [foldl_add]; omega
theorem fit_wrap (ys : List Int) (m : Int) (n : Nat) (hl : ys.length = n) (h : Fit64 ys n) (m0 : -9223372036854775808 ≤ m) (m1 : m ≤ 9223372036854775807) (k0 : -9223372036854775808 ≤ -m) (k1 : -m ≤ 9223372036854775807) : Fit64 ([m] ++ ys ++ [-m]) (1 + n + 1) := by
  intro i hi
  cases i with
  | zero => exact ⟨m0, m1⟩
  | succ i =>
    rw [show ([m] ++ ys ++ [-m]).getD (i + 1) 0 = (ys ++ [-m]).getD i 0 from rfl]
    by_cases hi2 : i < n
    · have := h i hi2
      rw [List.getD_eq_getElem?_getD, List.getElem?_append_left (by omega), ← List.getD_eq_getElem?_getD]; exact this
    · rw [List.getD_eq_getElem?_getD, List.getElem?_append_right (by omega), show i - ys.length = 0 by omega]
      exact ⟨k0, k1⟩
theorem app_below {w w' : World} {z : Int} (hg : (w.alloc (.cells #[.int .i64 z] 3)).grownBy w' (Value.slice (some ⟨w.heap.size, 0, none⟩) 1 1).ownBlock) : Below w.heap.size w w' :=
  ((Below.refl w.heap.size w).alloc (Nat.le_refl _) _).grown hg (by simp) (by intro k hk; simp [Value.ownBlock] at hk; omega)

theorem intRes_two (v : Int) : (intRes v).2 = 0 ∨ ((intRes v).1 = 0 ∧ (intRes v).2 = 5) := by
  unfold intRes; split
  · exact .inl rfl
  · exact .inr ⟨rfl, rfl⟩

def OrdM (w : World) (a : Option Addr) (len : Nat) (zs : List Int) (v : Value) (wx : World) : Prop :=
  ∃ a2 n2 c2 ms, v = .slice a2 n2 c2 ∧ Reads wx a2 n2 ms ∧ sumL ms = sumL zs ∧ n2 ≤ 202 ∧ Reads wx a len zs ∧ Below w.heap.size w wx

def OrdR (w : World) (len blen : Nat) (zs : List Int) (v i : Value) (wr : World) : Prop :=
  ∃ (k : Nat) (ys : List Int), i = .int .i64 k ∧ k ≤ blen ∧ wr.ownsRow w.heap.size 3 1 v len (ints ys) ∧ sumL ys = sumL zs ∧ Fit64 ys len ∧ Below w.heap.size w wr

theorem app_done {w1 wr wv1 wv2 : World} {a : Option Addr} {len : Nat} {zs ys : List Int} {more : Int} {v1 v2 : Value} (h5 : Below wr.heap.size wr wv1) (hb : Below w1.heap.size w1 wr)
    (ho1 : wv1.ownsRow wr.heap.size 3 1 v1 (1 + len) (ints ([more] ++ ys))) (ho2 : wv2.ownsRow wr.heap.size 3 1 v2 (1 + len + 1) (ints ([more] ++ ys ++ [-more])))
    (hg2 : (wv1.alloc (.cells #[.int .i64 (-more)] 3)).grownBy wv2 v1.ownBlock) (hf : Fit64 ([more] ++ ys ++ [-more]) (1 + len + 1)) (hml : sumL ([more] ++ ys ++ [-more]) = sumL ys) (hs : sumL ys = sumL zs) (hl : len ≤ 200)
    (hr : Reads wr a len zs) : OrdM w1 a len zs v2 wv2 := by
  have h6 : Below wr.heap.size wr wv2 := (h5.alloc h5.size _).grown hg2 (by have := h5.size; simp; omega) (by
    intro k hk
    rcases ho1.2 with ⟨rfl, _⟩ | ⟨g, cap, cur, rfl, hb, _⟩
    · simp [Value.ownBlock] at hk
    · simp [Value.ownBlock] at hk; omega)
  obtain ⟨a2, c2, rfl, hR⟩ := reads_of_owns ho2 hf
  exact ⟨a2, _, c2, _, rfl, hR, hml.trans hs, by omega, hr.below h6, hb.trans (h6.mono hb.size)⟩

set_option maxRecDepth 100000 in
set_option maxHeartbeats 4000000 in
theorem l_order (a b : Option Addr) (len cap blen bcap : Nat) (zs ts : List Int) (more : Int) (w : World) (hn : a = none → len = 0 ∧ cap = 0) (hr : Reads w a len zs) (ht : Reads w b blen ts)
    (m0 : -9223372036854775808 ≤ more) (m1 : more ≤ 9223372036854775807) :
    Calls Try.prog 9 #[.slice a len cap, .slice b blen bcap, .int .i64 more] w fun e w' => e = .returned (.bool true) ∧ Junk w w' := by
  have HR := Lib.hid hr; have HT := Lib.hid ht; clear hr ht
  have HN := Lib.hid hn; clear hn
  go_enter Try.func9, Try.ntmps9
  go_wp2_with fail
  refine (l_awake _).mono ?_; rintro e w' ⟨rfl, Ja, da, rfl⟩
  obtain ⟨w1, hw1⟩ : ∃ w1, w1 = w.plus Ja da := ⟨_, rfl⟩
  have hb1 : Below w.heap.size w w1 := by rw [hw1]; exact below_plus (Below.refl _ _) (Nat.le_refl _) _ _
  have R1 := Lib.hid (HR.out.below hb1)
  have T1 := Lib.hid (HT.out.below hb1)
  rw [← hw1]
  have HB1 := Lib.hid hb1
  clear hb1 hw1 HR HT
  go_upto_region 2 with fail
  go_cut [24] from 17 (fun t wx => t = .bool (decide (200 < len ∨ 200 < blen)) ∧ w1 = wx)
  case first =>
    by_cases h1 : 200 < len
    · go_wp2_with fail
      go_meet
      case rel => exact ⟨by rw [decide_eq_true (show 200 < len ∨ 200 < blen from .inl h1)], rfl⟩
    · by_cases h2 : 200 < blen
      · go_wp2_with fail
        go_meet
        case rel => exact ⟨by rw [decide_eq_true (show 200 < len ∨ 200 < blen from .inr h2)]; first | rfl | (simp; omega), rfl⟩
      · go_wp2_with fail
        go_meet
        case rel => exact ⟨by rw [decide_eq_false (show ¬ (200 < len ∨ 200 < blen) by omega)]; first | rfl | (simp; omega), rfl⟩
  case rest =>
    obtain ⟨rfl, rfl⟩ := hcut
    by_cases hbig : 200 < len ∨ 200 < blen
    · rw [decide_eq_true hbig]
      clear hbig
      go_wp2
      go_ret
      exact ⟨rfl, junk_of_below HB1.out⟩
    · rw [decide_eq_false hbig]
      have l200 : len ≤ 200 := by omega
      have b200 : blen ≤ 200 := by omega
      clear hbig
      go_upto_region 4 with fail
      go_cut [8] from 26 (fun v wx => Copied w1 a len zs v wx)
      case first =>
        go_wp2_with (at_builtin; refine wpList_copy rfl (.tmp 26) (.tmp 27) rfl rfl a len cap zs rfl HN.out R1.out (by omega) ?_; intro v' w' hc)
        go_meet
        case rel => exact hc
      case rest =>
        obtain ⟨a', cap', rfl, hown, R2, hb⟩ := hcut
        have HB := Lib.hid hb; have R2 := Lib.hid R2; have HO := Lib.hid hown
        clear hb hown
        have HF := Lib.hid R2.out.2.1
        go_wp2_with fail
        go_loopw [9, 10, 11] (fun i p q wr => OrdR w1 len blen zs (.slice a' len cap') i wr) (fun i _ _ _ => blen - (intOf i).toNat)
        case atStart => exact ⟨0, zs, rfl, Nat.zero_le _, HO.out, rfl, HF.out, HB.out⟩
        case round =>
          obtain ⟨k, ys, rfl, hk, ho, hsum, hfit, hbl⟩ := hrel
          have HO := Lib.hid ho; have HS := Lib.hid hsum; have HF := Lib.hid hfit; have HB := Lib.hid hbl
          clear ho hsum hfit hbl
          go_upto_region 6 with fail
          go_cut [37] from 29 to 67 (fun t wx => t = .bool (decide (k < blen ∧ 0 < len)) ∧ wr = wx)
          case first =>
            by_cases h1 : k < blen
            · by_cases h2 : 0 < len
              · go_wp2_with fail
                go_meet
                case rel => exact ⟨by rw [decide_eq_true (show k < blen ∧ 0 < len from ⟨h1, h2⟩)], rfl⟩
              · go_wp2_with fail
                go_meet
                case rel => exact ⟨by rw [decide_eq_false (show ¬ (k < blen ∧ 0 < len) by omega)], rfl⟩
            · go_wp2_with fail
              go_meet
              case rel => exact ⟨by rw [decide_eq_false (show ¬ (k < blen ∧ 0 < len) by omega)], rfl⟩
          case rest =>
            obtain ⟨rfl, rfl⟩ := hcut
            by_cases hgo : k < blen ∧ 0 < len
            · rw [decide_eq_true hgo]
              obtain ⟨h1, h2⟩ := hgo
              obtain ⟨g, rfl, hg⟩ := owns_some HO.out h2
              obtain ⟨htl, htf, hT⟩ := T1.out
              rcases hT with h0 | ⟨b2, off2, rfl, hT⟩
              · omega
              have ht := hT k h1
              have hbs2 := lt_of_cell ht
              rw [← World.cell?_of_block (HB.out.block b2 hbs2)] at ht
              have hbs := lt_of_cell ht
              clear hT htf htl hbs2
              generalize ts.getD k 0 = t at *
              obtain ⟨P, hP⟩ : ∃ P, P = k % len := ⟨_, rfl⟩
              obtain ⟨T, hTT⟩ : ∃ T : Nat, T = (t % 18446744073709551616).toNat := ⟨_, rfl⟩
              obtain ⟨Q, hQ⟩ : ∃ Q, Q = T % len := ⟨_, rfl⟩
              have p1 : P < len := by rw [hP]; exact Nat.mod_lt _ h2
              have q1 : Q < len := by rw [hQ]; exact Nat.mod_lt _ h2
              have e0 : ((len : Int) == 0) = false := by rw [beq_eq_false_iff_ne]; omega
              have e1 : (k : Int).tmod len = P := by rw [hP, Int.tmod_eq_emod_of_nonneg (by omega)]; rfl
              have e2 : IntKind.u64.wrap t = T := by rw [IntKind.wrap_u64]; omega
              have e3 : IntKind.u64.wrap (len : Int) = len := by rw [IntKind.wrap_u64]; omega
              have e4 : (T : Int).tmod len = Q := by rw [hQ, Int.tmod_eq_emod_of_nonneg (by omega)]; rfl
              have e5 : IntKind.i64.wrap (Q : Int) = Q := by rw [IntKind.wrap_i64]; omega
              go_upto_region 8 with fail
              refine wp_region_quiet (C := Cls wr) (by kernel_rfl) (by kernel_rfl) ⟨#[], wr.drawn + 1, by unfold World.plus; simp⟩ ?_
              refine q_move rfl _ rfl (.int .i64 k) rfl ?_
              try simp only [Act.put, List.setIfInBounds_toArray, List.set_cons_succ, List.set_cons_zero]
              refine q_move rfl _ rfl (.slice (some ⟨g, 0, none⟩) len cap') rfl ?_
              try simp only [Act.put, List.setIfInBounds_toArray, List.set_cons_succ, List.set_cons_zero]
              refine q_val rfl (.int .i64 len) (fun w1 _ => by simp [execOp, Act.eval, go_sem]; done) ?_
              try simp only [Act.put, List.setIfInBounds_toArray, List.set_cons_succ, List.set_cons_zero]
              refine q_val rfl (.int .i64 P) (fun w1 _ => by simp [execOp, Act.eval, go_sem, e1]; omega) ?_
              try simp only [Act.put, List.setIfInBounds_toArray, List.set_cons_succ, List.set_cons_zero]
              refine q_move rfl _ rfl (.slice (some ⟨b2, off2, none⟩) blen bcap) rfl ?_
              try simp only [Act.put, List.setIfInBounds_toArray, List.set_cons_succ, List.set_cons_zero]
              refine q_move rfl _ rfl (.int .i64 k) rfl ?_
              try simp only [Act.put, List.setIfInBounds_toArray, List.set_cons_succ, List.set_cons_zero]
              refine q_val rfl (.pointer (some ⟨b2, off2 + k, none⟩)) (fun w1 _ => by simp [execOp, Act.eval, go_sem]; intro h; omega) ?_
              try simp only [Act.put, List.setIfInBounds_toArray, List.set_cons_succ, List.set_cons_zero]
              refine q_val rfl (.int .i64 t) (by rintro w1 ⟨J1, d1, rfl⟩; simp [execOp, Act.eval, go_sem]; rw [cell_plus _ _ _ _ _ hbs, ht]; rfl) ?_
              try simp only [Act.put, List.setIfInBounds_toArray, List.set_cons_succ, List.set_cons_zero]
              refine q_val rfl (.int .u64 T) (fun w1 _ => by simp [execOp, Act.eval, go_sem, e2]; done) ?_
              try simp only [Act.put, List.setIfInBounds_toArray, List.set_cons_succ, List.set_cons_zero]
              refine q_move rfl _ rfl (.slice (some ⟨g, 0, none⟩) len cap') rfl ?_
              try simp only [Act.put, List.setIfInBounds_toArray, List.set_cons_succ, List.set_cons_zero]
              refine q_val rfl (.int .i64 len) (fun w1 _ => by simp [execOp, Act.eval, go_sem]; done) ?_
              try simp only [Act.put, List.setIfInBounds_toArray, List.set_cons_succ, List.set_cons_zero]
              refine q_val rfl (.int .u64 len) (fun w1 _ => by simp [execOp, Act.eval, go_sem, e3]; done) ?_
              try simp only [Act.put, List.setIfInBounds_toArray, List.set_cons_succ, List.set_cons_zero]
              refine q_val rfl (.int .u64 Q) (fun w1 _ => by simp [execOp, Act.eval, go_sem, e4]; omega) ?_
              try simp only [Act.put, List.setIfInBounds_toArray, List.set_cons_succ, List.set_cons_zero]
              refine q_val rfl (.int .i64 Q) (fun w1 _ => by simp [execOp, Act.eval, go_sem, e5]; done) ?_
              try simp only [Act.put, List.setIfInBounds_toArray, List.set_cons_succ, List.set_cons_zero]
              refine q_assign rfl _ rfl (.int .i64 P) rfl ?_
              try simp only [Act.put, List.setIfInBounds_toArray, List.set_cons_succ, List.set_cons_zero]
              refine q_assign rfl _ rfl (.int .i64 Q) rfl ?_
              try simp only [Act.put, List.setIfInBounds_toArray, List.set_cons_succ, List.set_cons_zero]
              refine wpQuiet_nil ?_
              rintro w3 ⟨J3, d3, rfl⟩
              try simp only [Act.put, List.setIfInBounds_toArray, List.set_cons_succ, List.set_cons_zero]
              go_upto_region 9 with fail
              clear ht e1 e2 e3 e4 e5 hP hTT hQ
              have HO3 := Lib.hid (owns_plus HO.out J3 d3)
              have cp := HO.out.cellAt P (by omega)
              have cq := HO.out.cellAt Q (by omega)
              have hgs : g < wr.heap.size := owns_lt HO.out
              have hyl : ys.length = len := by have := HO.out.1; rw [ints_len] at this; omega
              rw [ints_get ys P (by omega)] at cp
              rw [ints_get ys Q (by omega)] at cq
              have HSW := Lib.hid (swap_sum ys P Q (by omega) (by omega))
              have HFW := Lib.hid (swap_fit ys P Q len hyl p1 q1 HF.out)
              generalize hyp : ys.getD P 0 = yp at *
              generalize hyq : ys.getD Q 0 = yq at *
              clear hyp hyq
              have fp := HO3.out.frozenAt P
              have fq := HO3.out.frozenAt Q
              rw [← cell_plus wr J3 d3 g P hgs] at cp
              rw [← cell_plus wr J3 d3 g Q hgs] at cq
              have HB3 := Lib.hid (below_plus HB.out HB.out.size J3 d3)
              generalize wr.plus J3 d3 = w3 at *
              by_cases hpq : P = Q
              · subst hpq
                obtain rfl : yp = yq := by rw [cp] at cq; injection cq with h; injection h
                go_region
                go_wp2_with fail
                go_round
                case rel => exact ⟨k + 1, _, by go_num, by omega, own_swap HO3.out, by rw [HSW.out, HS.out], HFW.out, (((HB3.out.setCell (by exact hg) _).setCell (by exact hg) _)).drew⟩
                case measure => simp [intOf]; omega
              · go_region
                go_wp2_with fail
                go_round
                case rel => exact ⟨k + 1, _, by go_num, by omega, own_swap HO3.out, by rw [HSW.out, HS.out], HFW.out, (((HB3.out.setCell (by exact hg) _).setCell (by exact hg) _)).drew⟩
                case measure => simp [intOf]; omega
            · rw [decide_eq_false hgo]
              clear hgo hk
              have HN' := Lib.hid (owns_none HO.out)
              have R3 := Lib.hid (R1.out.below HB.out)
              go_upto_if 69 with fail
              go_cut [8] from 68 (fun v wx => OrdM w1 a len zs v wx)
              case first =>
                by_cases hm : -9223372036854775808 < more
                · have hneg : IntKind.i64.wrap (-more) = -more := by rw [IntKind.wrap_i64]; omega
                  have RY := Lib.hid (reads_owned HO.out HF.out)
                  have HML := Lib.hid (sum_wrap ys more)
                  have HMF := Lib.hid (fit_wrap ys more len (owned_len HO.out) HF.out m0 m1 (by omega) (by omega))
                  go_wp2_with (first
                    | (at_builtin; refine wpList_app rfl (.tmp 71) (.tmp 72) rfl wr.heap.size _ 1 [more] rfl (owns_one wr more) a' len cap' ys rfl HN'.out (RY.out.below ((Below.refl _ _).alloc (Nat.le_refl _) _)) (by omega) (by simp) ?_; intro v1 wv1 hown1 hg1; have hb5 := Lib.hid (app_below hg1))
                    | (at_builtin; refine wpList_app rfl (.tmp 73) (.tmp 76) rfl wr.heap.size _ _ _ rfl (hown1.alloc _) (some ⟨wv1.heap.size, 0, none⟩) 1 1 [-more] rfl (fun h => by cases h) (reads_one wv1 (-more) (by omega) (by omega)) (by omega) (by have := hb5.out.size; simp; omega) ?_; intro v2 wv2 hown2 hg2))
                  go_meet
                  case rel => exact app_done hb5.out HB.out hown1 hown2 hg2 HMF.out HML.out HS.out l200 R3.out
                · go_wp2_with fail
                  go_meet
                  case rel => exact ⟨a', len, cap', ys, rfl, reads_owned HO.out HF.out, HS.out, by omega, R3.out, HB.out⟩
              case rest =>
                obtain ⟨a2, n2, c2, ms, rfl, hr2, hs2, hn2, hr3, hb3⟩ := hcut
                have S1 := Lib.hid (w_Sum a len cap zs (by omega) wc hr3)
                have S2 := w_Sum a2 n2 c2 ms (by omega) wc hr2
                rw [hs2] at S2
                have S2 := Lib.hid S2
                have HB5 := Lib.hid hb3
                clear hr2 hs2 hr3 hb3
                have HI := Lib.hid (intRes_two (sumL zs))
                generalize (intRes (sumL zs)).1 = sv at *
                generalize (intRes (sumL zs)).2 = se at *
                go_wp2_with fail
                refine (S1.out).mono ?_; rintro e w' ⟨rfl, rfl⟩
                go_wp2_with fail
                refine (S2.out).mono ?_; rintro e w' ⟨rfl, rfl⟩
                rcases HI.out with rfl | ⟨rfl, rfl⟩
                · go_wp2
                  go_ret
                  exact ⟨by simp, junk_of_below (HB1.out.trans (HB5.out.mono HB1.out.size))⟩
                · go_wp2
                  go_ret
                  exact ⟨by simp, junk_of_below (HB1.out.trans (HB5.out.mono HB1.out.size))⟩

theorem l_order_arg (a b : Option Addr) (len cap blen bcap : Nat) (zs ts : List Int) (more : Int) (w : World) (hn : a = none → len = 0 ∧ cap = 0) (hr : Reads w a len zs) (ht : Reads w b blen ts) (hm : (Lit.int .i64 more).wf = true) :
    Calls Try.prog 9 #[.slice a len cap, .slice b blen bcap, .int .i64 more] w fun e w' => e = .returned (.bool true) ∧ Below w.heap.size w w' :=
  (l_order a b len cap blen bcap zs ts more w hn hr ht (bounds_i64 hm).1 (bounds_i64 hm).2).mono fun e w1 ⟨h1, h2⟩ => ⟨h1, h2.below⟩
end Go.Proofs.Ytmhpmljkmckafaa

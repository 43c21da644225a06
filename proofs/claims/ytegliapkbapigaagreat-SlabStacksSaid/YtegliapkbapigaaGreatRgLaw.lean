/- The laws' own small functions (apportionlaw09): big, at, over, square. Slices of points that read as lists, with their capacity: the kit's and the package's contracts over them. The laws' own awake (apportionlaw09). The law RingKnown: the walk. -/
import Derived.Test.YtegliapkbapigaaGreatRiRef
import Derived.Test.YtegliapkbapigaaGreatKitOne
import Derived.LoopN
import Derived.Test.YtegliapkbapigaaGreatRgRest
namespace Go.Proofs.YtegliapkbapigaaGreat
section
set_option linter.unusedVariables false
set_option linter.unusedSimpArgs false
open Go.RowKit

/-- Nothing but the row of v has turned. -/
structure OnlyP (v : Value) (w w' : World) : Prop where
  os : w'.os = w.os
  tape : w'.tape = w.tape
  output : w'.output = w.output
  size : w'.heap.size = w.heap.size
  block : ∀ k, v.ownBlock ≠ some k → w'.heap[k]? = w.heap[k]?
theorem OnlyP.refl (v : Value) (w : World) : OnlyP v w w := ⟨rfl, rfl, rfl, rfl, fun _ _ => rfl⟩
theorem OnlyP.setRow {w w' : World} {g n cap : Nat} (h : OnlyP (.slice (some ⟨g, 0, none⟩) n cap) w w') (c : Array Value) : OnlyP (.slice (some ⟨g, 0, none⟩) n cap) w (w'.setRow g c) :=
  ⟨h.os, h.tape, h.output, by simpa using h.size, fun k hk => by rw [setRow_other w' g k c (fun e => hk (by subst e; rfl))]; exact h.block k hk⟩
theorem OnlyP.below {v : Value} {w w' : World} {B : Nat} (h : OnlyP v w w') (hB : ∀ k, v.ownBlock = some k → B ≤ k) : Below B w w' :=
  ⟨h.os, h.tape, h.output, Nat.le_of_eq h.size.symm, fun k hk => h.block k (fun e => by have := hB k e; omega)⟩
theorem PReads.only {v : Value} {w w' : World} {a : Option Addr} {n : Nat} {K : List Pt} (h : PReads w a n K) (ho : OnlyP v w w') (hv : ∀ x, a = some x → v.ownBlock ≠ some x.block) : PReads w' a n K := by
  obtain ⟨h1, h2⟩ := h
  refine ⟨h1, ?_⟩
  rcases h2 with h2 | ⟨b, off, he, hc⟩
  · exact .inl h2
  · refine .inr ⟨b, off, he, fun i hi => ?_⟩
    obtain ⟨e1, e2⟩ := hc i hi
    have hb := ho.block b (hv _ he)
    exact ⟨by rw [World.cell?_of_block hb]; exact e1, by rw [World.cell?_of_block hb]; exact e2⟩
theorem POwn.only {W w1 w2 : World} {v u : Value} {L : List Pt} (h : POwn W w1 u L) (ho : OnlyP v w1 w2) (hne : ∀ k, u.ownBlock = some k → v.ownBlock ≠ some k) : POwn W w2 u L := by
  obtain ⟨h1, h⟩ := h
  refine ⟨h1, ?_⟩
  rcases h with h | ⟨g, cap, cur, hv, hg, hc, h4, h5, h6, h7⟩
  · exact .inl h
  · exact .inr ⟨g, cap, cur, hv, hg, by rw [ho.block g (hne g (by rw [hv]; rfl))]; exact hc, h4, h5, h6, h7⟩

/-- A row of points, newly built. -/
theorem powns_built {W w : World} {L : List Pt} {n : Nat} {c : Array Value} (hn : L.length = n) (hc : c = (pcells L).toArray) (hb : W.heap.size ≤ w.heap.size) (hm : n ≤ 1000) : POwn W (w.alloc (.cells c 40)) (.slice (some ⟨w.heap.size, 0, none⟩) n n) L := by
  subst hn hc
  refine ⟨pcells_len L, .inr ⟨w.heap.size, L.length, (pcells L).toArray, rfl, hb, by show (w.heap.push _)[w.heap.size]? = _; simp, Nat.le_refl _, by simp only [maxLen]; omega, by rw [List.size_toArray, pcells_len], ?_⟩⟩
  rw [← pcells_len L, List.take_length]
theorem powns_blt {W w : World} {L : List Pt} {n g : Nat} {c : Array Value} (hn : L.length = n) (hc : (pcells L).toArray = c) (hb : W.heap.size ≤ w.heap.size) (hm : n ≤ 1000) (hg : w.heap.size = g) : POwn W (w.alloc (.cells c 40)) (.slice (some ⟨g, 0, none⟩) n n) L := by
  subst hg; exact powns_built hn hc.symm hb hm
def sqL : List Pt := [(0, 0), (4, 0), (4, 4), (0, 4)]
def OvAt (w : World) (v : Value) (g n m : Nat) (i : Value) (wr : World) : Prop := ∃ (k : Nat) (cur : Array Value), i = .int .i64 (k : Int) ∧ k ≤ n ∧ wr.rowAt g = some cur ∧ cur.size = m ∧ OnlyP v w wr
end

section
set_option linter.unusedVariables false
set_option linter.unusedSimpArgs false
open Go.RowKit

/-- A slice that reads as a list, and may be. -/
structure PRC (w : World) (a : Option Addr) (n ca : Nat) (K : List Pt) : Prop where
  rd : PReads w a n K
  ok : SOk a n ca
section
variable {w w' w1 w2 : World} {a : Option Addr} {n ca : Nat} {K L : List Pt}
theorem PRC.below (h : PRC w a n ca K) (hb : Below w.heap.size w w') : PRC w' a n ca K := ⟨h.rd.below hb, h.ok⟩
theorem prc_eqh (h : PRC w1 a n ca K) (e : w2 = w1) : PRC w2 a n ca K := by subst e; exact h
theorem prc_take (h : PRC w a n ca K) {m : Nat} (hm : m ≤ n) : PRC w a m ca (K.take m) := ⟨preads_take h.rd hm, ⟨Nat.le_trans hm h.ok.le, h.ok.nil⟩⟩
theorem own_prc {W : World} {v : Value} (hn : L.length = n) (h : POwn W w' v L) : ∃ a cap, v = .slice a n cap ∧ PRC w' a n cap L := by
  obtain ⟨a, cap, e, h1, h2⟩ := own_ok hn h
  exact ⟨a, cap, e, h1, h2⟩
theorem own_prcs {W : World} {v : Value} (h : POwn W w' v L) : ∃ a cap, v = .slice a L.length cap ∧ PRC w' a L.length cap L := own_prc rfl h
theorem prc_arg (h : PReads w a n K) (h1 : n ≤ ca) (h2 : a = none → n = 0 ∧ ca = 0) : PRC w a n ca K := ⟨h, ⟨h1, fun e => (h2 e).2⟩⟩
theorem prc_owns {base : Nat} {v : Value} (h : w.ownsRow base 40 2 v n (pcells K)) : ∃ a cap, v = .slice a n cap ∧ PRC w a n cap K := by
  obtain ⟨a, cap, e, hR⟩ := preads_of_owns h
  refine ⟨a, cap, e, hR, ?_⟩
  obtain ⟨_, h2⟩ := h
  rcases h2 with ⟨e2, h0⟩ | ⟨g, c2, cur, e2, _, _, hnc, _⟩
  · rw [e2] at e
    injection e with e3 e4 e5
    subst e3 e4 e5
    exact ⟨Nat.le_refl _, fun _ => rfl⟩
  · rw [e2] at e
    injection e with e3 e4 e5
    subst e5
    exact ⟨by omega, fun h => by rw [← e3] at h; cases h⟩
end
theorem c_rgCheck (w : World) (a : Option Addr) (n ca : Nat) (K : List Pt) (h : PRC w a n ca K) (hs : n ≤ 400) : Calls Tryz.prog 63 #[.slice a n ca] w fun e w' => e = .returned (fltV (checkF K)) ∧ Junk w w' := n_rgCheck w a n ca K h.rd hs h.ok.le
theorem c_rgFrom (w : World) (a : Option Addr) (n ca : Nat) (K : List Pt) (h : PRC w a n ca K) (hs : n ≤ 400) (s : Int) : Calls Tryz.prog 93 #[.slice a n ca, .int .i64 s] w fun e w' => (∃ v, e = .returned v ∧ POwn w w' v (rotF K s)) ∧ Junk w w' := n_rgFrom w a n ca K h.rd hs h.ok s
/-- What a copy leaves. -/
def PCopiedC (w : World) (len : Nat) (K : List (Int × Int)) (v : Value) (wx : World) : Prop := ∃ a' cap', v = .slice a' len cap' ∧ PRC wx a' len cap' K ∧ Below w.heap.size w wx
theorem wpList_ccopy {ops : Array Oper} {rest : List Oper} {o : Oper} {a : Act} {w : World} {Q : Exit → Act → World → Prop} (hgd : o.guard = none) (s x : Operand)
    (ho : o.op = .call { callee := .builtin .append, args := #[s, x], argTypes := #[25, 25] }) (hs : a.eval s = .slice (some ⟨w.heap.size, 0, none⟩) 0 0)
    (A : Option Addr) (len cap : Nat) (K : List (Int × Int)) (hx : a.eval x = .slice A len cap) (hn : A = none → len = 0 ∧ cap = 0) (hr : PRC w A len cap K) (hm : len ≤ 500)
    (h : ∀ v' w', PCopiedC w len K v' w' → wpList Tryz.prog ops Q rest (a.put o.dst v') w') : wpList Tryz.prog ops Q (o :: rest) a (w.alloc (.cells #[] 40)) := by
  obtain ⟨i0, hi0, hz0, hz1, hz2⟩ := info_pt
  have hb0 : Below w.heap.size w (w.alloc (.cells #[] 40)) := (Below.refl _ _).alloc (Nat.le_refl _) _
  have hr1 := hr.rd.below hb0
  have hzl := hr.rd.1
  rcases A with _ | ad
  · obtain ⟨rfl, rfl⟩ := hn rfl
    obtain rfl : K = [] := List.eq_nil_of_length_eq_zero hzl
    refine wpList_append_own_none hgd s x _ ho w.heap.size 40 i0 2 Tryz.underlying25 hi0 _ 0 (pcells []) hs (powns_empty w) hx ?_
    exact h _ _ ⟨_, 0, rfl, ⟨⟨rfl, .inl rfl⟩, ⟨Nat.le_refl _, fun h => rfl⟩⟩, hb0⟩
  · refine wpList_append_own _ hgd s x _ ho w.heap.size 40 i0 _ 2 16 Tryz.underlying25 hi0 hz0 hz1 hz2 rfl (by decide) _ 0 (pcells []) hs (powns_empty w) ad len cap (pcells K) hx
      (by rw [pcells_len, hzl]) hr1.cells (pcells_one K) (by simp only [maxLen]; omega) (by omega) (by simp) ?_
    intro v' w' hown hg _
    rw [Nat.zero_add] at hown
    obtain ⟨a', cap', rfl, hR⟩ := prc_owns (K := K) hown
    have hb : Below w.heap.size w w' := hb0.grown hg (by simp) (by intro k hk; simp [Value.ownBlock] at hk; omega)
    exact h _ _ ⟨a', cap', rfl, hR, hb⟩
theorem s_rgCheck (w : World) (a : Option Addr) (n ca : Nat) (K : List Pt) (h : PRC w a n ca K) (hs : n ≤ 4611686018427387903) : Calls Tryz.prog 35 #[.slice a n ca] w fun e w' => e = .returned (fltV (checkF K)) ∧ Junk w w' := r_rgCheck w a n ca K h.rd hs
theorem s_SamePoints (w : World) (a b : Option Addr) (n m ca cb : Nat) (K M : List Pt) (h1 : PRC w a n ca K) (h2 : PRC w b m cb M) (hs : n ≤ 9223372036854775807) : Calls Tryz.prog 37 #[.slice a n ca, .slice b m cb] w fun e w' => e = .returned (.bool (decide (K = M))) ∧ Junk w w' := k_SamePoints w a b n m ca cb K M h1.rd h2.rd hs
theorem PRC.only {v : Value} {w w' : World} {a : Option Addr} {n ca : Nat} {K : List Pt} (h : PRC w a n ca K) (ho : OnlyP v w w') (hv : ∀ x, a = some x → v.ownBlock ≠ some x.block) : PRC w' a n ca K := ⟨h.rd.only ho hv, h.ok⟩
end

section
set_option linter.unusedVariables false
set_option linter.unusedSimpArgs false
open Go.RowKit

theorem sign_calc {K : List Pt} {r : Int} (h : (checkF K).1 = 0) (e : turnAt K (leastF K : Nat) = r) : signF K = r := by
  have hf := check_fine.1 h
  rw [← e]
  exact sign_eq hf (least_c (by have := hf.few; omega))
theorem sq_check : checkF sqL = (0, 0) := by decide +kernel
theorem sq_sign : signF sqL = 1 := sign_calc (by rw [sq_check]) (by decide +kernel)
theorem sq_fine : fineQ sqL := check_fine.1 (by rw [sq_check])
theorem sq_cross : checkF [(0, 0), (4, 4), (4, 0), (0, 4)] = (193, 0) := by decide +kernel
theorem prc_blt {w : World} {L : List Pt} {n g : Nat} {c : Array Value} (hn : L.length = n) (hc : (pcells L).toArray = c) (hm : n ≤ 1000) (hg : w.heap.size = g) : PRC (w.alloc (.cells c 40)) (some ⟨g, 0, none⟩) n n L := by
  obtain ⟨a, cap, e, h⟩ := own_readn hn (powns_blt (W := w) hn hc (Nat.le_refl _) hm hg)
  injection e with e1 e2 e3
  subst e1
  exact ⟨h, ⟨Nat.le_refl _, fun h => by cases h⟩⟩
/-- Check of a ring that is known. -/
theorem ck_is (L : List Pt) (r : Int × Nat) (hr : checkF L = r) (n : Nat) (hn : n ≤ 400) (w : World) (a : Option Addr) (ca : Nat) (h : PRC w a n ca L) : Calls Tryz.prog 63 #[.slice a n ca] w fun e w' => e = .returned (.agg #[.int .i64 r.1, .int .i64 (r.2 : Int)]) ∧ Junk w w' := by
  rw [← hr]; exact c_rgCheck w a n ca L h hn
end

section
set_option linter.unusedVariables false
set_option linter.unusedSimpArgs false
open Go.RowKit

theorem own_readc {W w' : World} {v : Value} {L : List Pt} {n : Nat} (hn : L.length = n) (h : POwn W w' v L) : ∃ a cap, v = .slice a n cap ∧ PRC w' a n cap L ∧ n ≤ cap ∧ cap ≤ maxLen := by
  obtain ⟨a, cap, e, hr⟩ := own_prc (w' := w') hn h
  refine ⟨a, cap, e, hr, hr.ok.le, ?_⟩
  obtain ⟨_, ⟨h1, h2⟩ | ⟨g, cap', cur, h1, _, _, h4, h5, _⟩⟩ := h
  · rw [e] at h1
    injection h1 with e1 e2 e3
    rw [e3]; exact Nat.zero_le _
  · rw [e] at h1
    injection h1 with e1 e2 e3
    omega
theorem fr_is (L M : List Pt) (s : Int) (hr : rotF L s = M) (n : Nat) (hm : M.length = n) (hn : n ≤ 400) (w : World) (a : Option Addr) (ca : Nat) (h : PRC w a n ca L) : Calls Tryz.prog 93 #[.slice a n ca, .int .i64 s] w fun e w' => (∃ a' c', e = .returned (.slice a' n c') ∧ PRC w' a' n c' M) ∧ Junk w w' := by
  refine (c_rgFrom w a n ca L h hn s).mono ?_
  rintro e w' ⟨⟨v, rfl, hv⟩, hj⟩
  rw [hr] at hv
  obtain ⟨a', c', rfl, h'⟩ := own_prc hm hv
  exact ⟨⟨a', c', rfl, h'⟩, hj⟩
theorem sp_pt (L : List Pt) (n : Nat) (hn : n ≤ 400) (w : World) (a b : Option Addr) (ca cb : Nat) (h1 : PRC w a n ca L) (h2 : PRC w b n cb L) : Calls Tryz.prog 37 #[.slice a n ca, .slice b n cb] w fun e w' => e = .returned (.bool true) ∧ Junk w w' := by
  have h := s_SamePoints w a b n n ca cb _ _ h1 h2 (by omega)
  rw [decide_eq_true rfl] at h
  exact h
theorem sq_norm : normF sqL.reverse = sqL := by
  rw [norm_rev]
  refine norm_eq sq_fine ⟨⟨0, .inl (rot_zero _).symm⟩, sq_sign, ?_⟩
  have := least_c (K := sqL) (by decide)
  rwa [show leastF sqL = 0 by decide +kernel] at this
theorem sq_same : sameB sqL (rotF sqL.reverse 2) = true := by
  rw [same_true, same_norm]
  exact ⟨sq_fine, (fine_rot _ _).2 ((fine_rev _).2 sq_fine), by rw [norm_rot, norm_rev]⟩
theorem sq_three : sameB sqL (sqL.take 3) = false := same_false.2 fun h => absurd (same_len h) (by decide)
end
end Go.Proofs.YtegliapkbapigaaGreat

/- A divider as it lies in memory; contracts of its add, kindOf. -/
import Derived.Test.YtpoahdfhhnlghaaTkG
import Derived.Test.YtpoahdfhhnlghaaLists
namespace Go.Proofs.Ytpoahdfhhnlghaa
set_option linter.unusedVariables false
set_option linter.unusedSimpArgs false
open Go.RowKit

/-- A divider's cells. -/
def dvC (s : List UInt8) (i st : Int) (v u : Value) : Array Value := urow clsF 256 ++ #[.string ⟨s.toArray⟩, .int .i64 i, .int .i64 st, v, u]
theorem dv_size (s : List UInt8) (i st : Int) (v u : Value) : (dvC s i st v u).size = 261 := by unfold dvC; simp
theorem dv_cls (s : List UInt8) (i st : Int) (v u : Value) (c : Nat) (h : c < 256) : (dvC s i st v u)[c]? = some (.int .u8 (clsF c : Nat)) := by
  unfold dvC
  rw [Array.getElem?_append_left (by simpa using h)]
  exact urow_get _ _ _ h
theorem dv_at (s : List UInt8) (i st : Int) (v u : Value) (j : Nat) : (dvC s i st v u)[256 + j]? = #[.string ⟨s.toArray⟩, .int .i64 i, .int .i64 st, v, u][j]? := by
  unfold dvC
  rw [Array.getElem?_append_right (by simp)]
  simp
theorem dv_put (s : List UInt8) (i st : Int) (v u x : Value) (j : Nat) : (dvC s i st v u).setIfInBounds (256 + j) x = urow clsF 256 ++ (#[.string ⟨s.toArray⟩, .int .i64 i, .int .i64 st, v, u].setIfInBounds j x) := by
  unfold dvC
  rw [Array.setIfInBounds_append_right (by simp)]
  simp
/-- What a divider's block tells. -/
theorem dv_facts {s : List UInt8} {i st : Int} {v u : Value} {w : World} {D : Nat} (h : w.rowAt D = some (dvC s i st v u)) :
    (∀ c, c < 256 → w.cell? ⟨D, c, none⟩ = some (.int .u8 (clsF c : Nat))) ∧ w.cell? ⟨D, 256, none⟩ = some (.string ⟨s.toArray⟩) ∧ w.cell? ⟨D, 257, none⟩ = some (.int .i64 i) ∧ w.cell? ⟨D, 258, none⟩ = some (.int .i64 st) ∧ w.cell? ⟨D, 259, none⟩ = some v ∧ w.cell? ⟨D, 260, none⟩ = some u ∧
    (∀ k, w.frozen? ⟨D, k, none⟩ = false) ∧ D < w.heap.size := by
  refine ⟨fun c hc => by rw [ucell_of_row h, dv_cls _ _ _ _ _ _ hc], ?_, ?_, ?_, ?_, ?_, ufrozen_of_row h, ?_⟩
  · rw [ucell_of_row h, dv_at _ _ _ _ _ 0]; rfl
  · rw [ucell_of_row h, dv_at _ _ _ _ _ 1]; rfl
  · rw [ucell_of_row h, dv_at _ _ _ _ _ 2]; rfl
  · rw [ucell_of_row h, dv_at _ _ _ _ _ 3]; rfl
  · rw [ucell_of_row h, dv_at _ _ _ _ _ 4]; rfl
  · obtain ⟨t, ht⟩ := rowAt_some h
    exact (Array.getElem?_eq_some_iff.1 ht).1
theorem dv_set_at {s : List UInt8} {i st : Int} {v u : Value} {w : World} {D : Nat} (h : w.rowAt D = some (dvC s i st v u)) (j : Int) : (w.setCell ⟨D, 257, none⟩ (.int .i64 j)).rowAt D = some (dvC s j st v u) := by
  rw [usetCell_of_row h, rowAt_setRow h, dv_put _ _ _ _ _ _ 1]; rfl
theorem dv_set_st {s : List UInt8} {i st : Int} {v u : Value} {w : World} {D : Nat} (h : w.rowAt D = some (dvC s i st v u)) (j : Int) : (w.setCell ⟨D, 258, none⟩ (.int .i64 j)).rowAt D = some (dvC s i j v u) := by
  rw [usetCell_of_row h, rowAt_setRow h, dv_put _ _ _ _ _ _ 2]; rfl
theorem dv_set_v {s : List UInt8} {i st : Int} {v u : Value} {w : World} {D : Nat} (h : w.rowAt D = some (dvC s i st v u)) (x : Value) : (w.setCell ⟨D, 259, none⟩ x).rowAt D = some (dvC s i st x u) := by
  rw [usetCell_of_row h, rowAt_setRow h, dv_put _ _ _ _ _ _ 3]; rfl
theorem dv_set_u {s : List UInt8} {i st : Int} {v u : Value} {w : World} {D : Nat} (h : w.rowAt D = some (dvC s i st v u)) (x : Value) : (w.setCell ⟨D, 260, none⟩ x).rowAt D = some (dvC s i st v x) := by
  rw [usetCell_of_row h, rowAt_setRow h, dv_put _ _ _ _ _ _ 4]; rfl
/-- A row of ints of the call's own. -/
def NOwns (w : World) (base : Nat) (u : Value) (P : List Nat) : Prop := w.ownsRow base 3 1 u P.length (ints (P.map Int.ofNat))
/-- A divider, its rows made behind it. -/
def DvS (D : Nat) (s : List UInt8) (i : Int) (M : MT) (w : World) : Prop := ∃ v u, w.rowAt D = some (dvC s i M.start v u) ∧ TOwns w (D + 1) v M.out ∧ NOwns w (D + 1) u M.pos
theorem NOwns.below {w w' : World} {base : Nat} {v : Value} {P : List Nat} (h : NOwns w base v P) (hb : Below w.heap.size w w') : NOwns w' base v P := by
  obtain ⟨h1, h⟩ := h
  refine ⟨h1, ?_⟩
  rcases h with h | ⟨g, cap, cur, hv, hg, hc, h4⟩
  · exact .inl h
  · exact .inr ⟨g, cap, cur, hv, hg, (hb.block g (Array.getElem?_eq_some_iff.1 hc).1).trans hc, h4⟩
theorem NOwns.block {w : World} {base : Nat} {v : Value} {P : List Nat} (h : NOwns w base v P) : ∀ k, v.ownBlock = some k → base ≤ k := by
  obtain ⟨_, h⟩ := h
  intro k hk
  rcases h with ⟨rfl, _⟩ | ⟨g, cap, cur, rfl, hg, _⟩
  · simp [Value.ownBlock] at hk
  · simp [Value.ownBlock] at hk; omega
theorem NOwns.slice {w : World} {base : Nat} {v : Value} {P : List Nat} (h : NOwns w base v P) : ∃ a cap, v = .slice a P.length cap := by
  obtain ⟨_, h⟩ := h
  rcases h with ⟨rfl, h0⟩ | ⟨g, cap, cur, rfl, hg, _⟩
  · exact ⟨none, 0, by rw [h0]⟩
  · exact ⟨_, _, rfl⟩
/-- A cell of a block that is not the row's is written. -/
theorem TOwns.set {w : World} {base D k : Nat} {v x : Value} {K : List Tk} (h : TOwns w base v K) (hD : D < base) : TOwns (w.setCell ⟨D, k, none⟩ x) base v K := by
  have hb := h.block
  obtain ⟨h1, h⟩ := h
  refine ⟨h1, ?_⟩
  rcases h with h | ⟨g, cap, cur, hv, hg, hc, h4⟩
  · exact .inl h
  · exact .inr ⟨g, cap, cur, hv, hg, (Below.heap_setCell _ _ _ _ (by show g ≠ D; omega)).trans hc, h4⟩
theorem NOwns.set {w : World} {base D k : Nat} {v x : Value} {P : List Nat} (h : NOwns w base v P) (hD : D < base) : NOwns (w.setCell ⟨D, k, none⟩ x) base v P := by
  obtain ⟨h1, h⟩ := h
  refine ⟨h1, ?_⟩
  rcases h with h | ⟨g, cap, cur, hv, hg, hc, h4⟩
  · exact .inl h
  · exact .inr ⟨g, cap, cur, hv, hg, (Below.heap_setCell _ _ _ _ (by show g ≠ D; omega)).trans hc, h4⟩
theorem rows_ap {w : World} {b1 b2 s1 s2 : Nat} {e1 e2 : TypeId} {v v2 : Value} {k k2 : Nat} {xs ys : List Value} (h : w.ownsRow b1 e1 s1 v k xs) (h2 : w.ownsRow b2 e2 s2 v2 k2 ys) (he : e1 ≠ e2) : v.ownBlock = none ∨ v.ownBlock ≠ v2.ownBlock := by
  obtain ⟨_, h⟩ := h
  obtain ⟨_, h2⟩ := h2
  rcases h with ⟨rfl, _⟩ | ⟨g, cap, cur, rfl, _, hc, _⟩
  · exact .inl rfl
  · right
    rcases h2 with ⟨rfl, _⟩ | ⟨g2, cap2, cur2, rfl, _, hc2, _⟩
    · simp [Value.ownBlock]
    · intro hv
      simp [Value.ownBlock] at hv
      subst hv
      rw [hc] at hc2
      injection hc2 with hc2
      injection hc2 with _ hc2 _
      exact he hc2
theorem DvS.below {D : Nat} {s : List UInt8} {i : Int} {M : MT} {w w' : World} (h : DvS D s i M w) (hb : Below w.heap.size w w') : DvS D s i M w' := by
  obtain ⟨v, u, h1, h2, h3⟩ := h
  have hD := (dv_facts h1).2.2.2.2.2.2.2
  exact ⟨v, u, by rw [rowAt_of_block (hb.block D hD)]; exact h1, h2.below hb, h3.below hb⟩
theorem NOwns.app {w : World} {base : Nat} {u : Value} {P : List Nat} {z : Nat} {n : Nat} (h : w.ownsRow base 3 1 u n (ints (P.map Int.ofNat ++ [(z : Int)]))) (hn : n = P.length + 1) : NOwns w base u (P ++ [z]) := by
  unfold NOwns
  have e : (P ++ [z]).length = n := by simp [hn]
  rw [e, List.map_append]
  exact h
theorem reads_one_at (w : World) (n : Nat) (hn : n = w.heap.size) (z : Int) (h0 : -9223372036854775808 ≤ z) (h1 : z ≤ 9223372036854775807) : Reads (w.alloc (.cells #[.int .i64 z] 3)) (some ⟨n, 0, none⟩) 1 [z] := by subst hn; exact reads_one w z h0 h1

/-- Behind an append to the one row. -/
theorem dv_after {D : Nat} {s : List UInt8} {i st : Int} {v u : Value} {w w' : World} {K : List Tk} {P : List Nat} {C : Array Value} {t : TypeId} (hr : w.rowAt D = some (dvC s i st v u)) (hv : TOwns w (D + 1) v K) (hu : NOwns w (D + 1) u P) (hg : (w.alloc (.cells C t)).grownBy w' v.ownBlock) :
    w'.rowAt D = some (dvC s i st v u) ∧ NOwns w' (D + 1) u P ∧ Below D w w' := by
  have hD := (dv_facts hr).2.2.2.2.2.2.2
  refine ⟨?_, ?_, ?_⟩
  · rw [rowAt_of_block (hg.block D (by simp; omega) (fun e => by have := hv.block D e.symm; omega)), rowAt_alloc_past _ _ _ hD]
    exact hr
  · exact World.ownsRow.kept (hu.below (by (repeat' first | with_reducible (first | apply Below.refl | assumption | apply bw_a | apply bw_d | apply bw_n | apply bw_p | apply bw_c | apply bw_r) | go_size))) hg (rows_ap hu hv (by decide))
  · exact Below.grown (by (repeat' first | with_reducible (first | apply Below.refl | assumption | apply bw_a | apply bw_d | apply bw_n | apply bw_p | apply bw_c | apply bw_r) | go_size)) hg (by simp; omega) (fun k hk => by have := hv.block k hk; omega)
theorem dv_after_u {D : Nat} {s : List UInt8} {i st : Int} {v u : Value} {w w' : World} {K : List Tk} {P : List Nat} {C : Array Value} {t : TypeId} (hr : w.rowAt D = some (dvC s i st v u)) (hv : TOwns w (D + 1) v K) (hu : NOwns w (D + 1) u P) (hg : (w.alloc (.cells C t)).grownBy w' u.ownBlock) :
    w'.rowAt D = some (dvC s i st v u) ∧ TOwns w' (D + 1) v K ∧ Below D w w' := by
  have hD := (dv_facts hr).2.2.2.2.2.2.2
  refine ⟨?_, ?_, ?_⟩
  · rw [rowAt_of_block (hg.block D (by simp; omega) (fun e => by have := hu.block D e.symm; omega)), rowAt_alloc_past _ _ _ hD]
    exact hr
  · exact World.ownsRow.kept (hv.below (by (repeat' first | with_reducible (first | apply Below.refl | assumption | apply bw_a | apply bw_d | apply bw_n | apply bw_p | apply bw_c | apply bw_r) | go_size))) hg (rows_ap hv hu (by decide))
  · exact Below.grown (by (repeat' first | with_reducible (first | apply Below.refl | assumption | apply bw_a | apply bw_d | apply bw_n | apply bw_p | apply bw_c | apply bw_r) | go_size)) hg (by simp; omega) (fun k hk => by have := hu.block k hk; omega)
set_option maxRecDepth 100000 in
set_option maxHeartbeats 1000000 in
theorem n_dvAdd (D : Nat) (s : List UInt8) (i : Int) (M : MT) (w : World) (h : DvS D s i M w) (kd : Int) (x : List UInt8) (z : Nat) (hz : z ≤ 1000000) (hM : M.out.length ≤ 1000) (hP : M.pos.length ≤ 1000) :
    Calls Try.prog 43 #[.pointer (some ⟨D, 0, none⟩), .int .i64 kd, .string ⟨x.toArray⟩, .int .i64 (z : Int)] w fun e w' => e = .returned (.tuple #[]) ∧ DvS D s i ⟨M.st, M.start, M.out ++ [(kd, x)], M.pos ++ [z]⟩ w' ∧ Below D w w' := by
  obtain ⟨v, u, hr, hv, hu⟩ := h
  obtain ⟨st, start, out, pos⟩ := M
  simp only at hr hv hu hM hP ⊢
  obtain ⟨a, cap, rfl, _, _⟩ := treads_of_owns hv
  obtain ⟨a2, cap2, rfl⟩ := hu.slice
  obtain ⟨_, _, _, _, c3, c4, hf, hD⟩ := dv_facts hr
  have f3 := hf 259
  have f4 := hf 260
  have HR := Lib.hid hr; have HV := Lib.hid hv; have HU := Lib.hid hu
  have HONE := Lib.hid (fun W n hn => treads_at W n hn kd x)
  have HI := Lib.hid (fun W n hn => reads_one_at W n hn (z : Int) (by omega) (by omega))
  clear hr hv hu hf
  go_enter Try.func43, Try.ntmps43
  go_wp2_with (first
    | (at_builtin; refine wpList_tapp rfl _ _ rfl (D + 1) _ out rfl (HV.out.below (by (repeat' first | with_reducible (first | apply Below.refl | assumption | apply bw_a | apply bw_d | apply bw_n | apply bw_p | apply bw_c | apply bw_r) | go_size))) (some ⟨_, 0, none⟩) 1 1 [(kd, x)] rfl (fun h => nomatch h) (HONE.out _ _ (by simp)) (by omega) (by simp; omega) ?_; intro v' w' hown hg; obtain ⟨hr2, hu2, hb2⟩ := dv_after HR.out HV.out HU.out hg; obtain ⟨a', cap', rfl, _, _⟩ := treads_of_owns hown; simp only [List.length_append, List.length_singleton] at hown; have HV2 := Lib.hid hown; obtain ⟨_, _, _, _, d3, d4, hf2, hD2⟩ := dv_facts hr2; have g3 := hf2 259; have g4 := hf2 260; have HR2 := Lib.hid (fun x => dv_set_v hr2 x); have HU2 := Lib.hid (fun x => hu2.set (k := 259) (x := x) (Nat.lt_succ_self D)); have HB2 := Lib.hid hb2; have hs2 := hg.size; clear hr2 hu2 hb2 hown hg hf2)
    | (at_builtin; refine wpList_app rfl _ _ rfl (D + 1) _ pos.length (pos.map Int.ofNat) rfl ((HU2.out _).below (by (repeat' first | with_reducible (first | apply Below.refl | assumption | apply bw_a | apply bw_d | apply bw_n | apply bw_p | apply bw_c | apply bw_r) | go_size))) (some ⟨_, 0, none⟩) 1 1 [(z : Int)] rfl (fun h => nomatch h) (HI.out _ _ (by simp)) (by omega) (by simp; omega) ?_; intro v2 w2 hown2 hg2; obtain ⟨hr3, hv3, hb3⟩ := dv_after_u (HR2.out _) (HV2.out.set (k := 259) (Nat.lt_succ_self D)) (HU2.out _) hg2; have hn2 := NOwns.app hown2 rfl; obtain ⟨a3, cap3, rfl⟩ := hn2.slice; simp only [List.length_append, List.length_singleton] at hn2; have HU3 := Lib.hid hn2; obtain ⟨_, _, _, _, e3, e4, hf3, hD3⟩ := dv_facts hr3; have k4 := hf3 260; have HR3 := Lib.hid (fun x => dv_set_u hr3 x); have HV3 := Lib.hid hv3; have HB3 := Lib.hid hb3; clear hr3 hv3 hb3 hown2 hg2 hf3 hn2))
  go_end0
  refine ⟨rfl, ⟨_, _, HR3.out _, HV3.out.set (Nat.lt_succ_self _), HU3.out.set (Nat.lt_succ_self _)⟩, ?_⟩
  exact ((HB2.out.setCell (p := ⟨D, 259, none⟩) (Nat.le_refl _) _).trans HB3.out).setCell (p := ⟨D, 260, none⟩) (Nat.le_refl _) _

theorem cls_let (c : Nat) : ((clsF c : Int) == 65) = letN c := by
  unfold clsF
  cases letN c with
  | true => rfl
  | false => (repeat' split) <;> first | rfl | contradiction
theorem cls_dig (c : Nat) : ((clsF c : Int) == 48) = (!letN c && digN c) := by
  unfold clsF
  cases letN c with
  | true => rfl
  | false =>
    cases digN c with
    | true => rfl
    | false => (repeat' split) <;> first | rfl | contradiction
theorem let_dig {c : Nat} (h : digN c = true) : letN c = false := by
  unfold digN at h; unfold letN
  simp at h ⊢; omega
theorem cls_dig2 (c : Nat) : ((clsF c : Int) != 48) = !digN c := by
  show (!((clsF c : Int) == 48)) = _
  rw [cls_dig]
  cases h : digN c with
  | true => rw [let_dig h]; rfl
  | false => simp
set_option maxRecDepth 100000 in
set_option maxHeartbeats 1000000 in
theorem n_dvKind (D : Nat) (t : List UInt8) (w : World) (hc : ∀ c, c < 256 → w.cell? ⟨D, c, none⟩ = some (.int .u8 (clsF c : Nat))) (hl : t.length ≤ 1000) (h0 : 0 < t.length) :
    Calls Try.prog 52 #[.pointer (some ⟨D, 0, none⟩), .string ⟨t.toArray⟩] w fun e w' => e = .returned (.int .i64 (kindT t)) ∧ Junk w w' := by
  have HC := Lib.hid hc
  unfold kindT
  rw [head_n h0]
  have hB := byte_lt t 0
  have c0 := hc _ hB
  have e1 := cls_let (byteAt t 0)
  clear hc
  cases c1 : letN (byteAt t 0) with
  | true =>
    rw [c1] at e1
    clear c1
    go_enter Try.func52, Try.ntmps52
    go_wp2_with fail
    go_quiet (fail)
    go_wp2
    go_ret
    exact ⟨rfl, junk_of_below (by (repeat' first | with_reducible (first | apply Below.refl | assumption | apply bw_a | apply bw_d | apply bw_n | apply bw_p | apply bw_c | apply bw_r) | go_size))⟩
  | false =>
    rw [c1] at e1
    rw [if_neg (by decide)]
    obtain ⟨r, hr⟩ : ∃ r : Int, (if t.all digB = true then (2 : Int) else 3) = r := ⟨_, rfl⟩
    rw [hr]
    have HR := Lib.hid hr
    clear hr c1
    go_enter Try.func52, Try.ntmps52
    go_wp2_with fail
    go_quiet (fail)
    go_wp2_with fail
    go_loopw [16, 5] (fun i _ wr => ∃ (k d : Nat), i = .int .i64 (k : Int) ∧ k ≤ t.length ∧ (∀ j, j < k → digN (byteAt t j) = true) ∧ wr = w.drewN d) (fun i _ _ => t.length - (intOf i).toNat)
    case atStart => exact ⟨0, _, rfl, Nat.zero_le _, fun j hj => absurd hj (Nat.not_lt_zero _), rfl⟩
    case round =>
      obtain ⟨k, d, rfl, hk, hd, rfl⟩ := hrel
      have HDD := Lib.hid hd
      clear hd
      by_cases hlt : k < t.length
      · have hB := byte_lt t k
        have c0 := HC.out _ hB
        have e2 := cls_dig2 (byteAt t k)
        cases c2 : digN (byteAt t k) with
        | false =>
          rw [c2] at e2
          have HA := Lib.hid (all_dig hlt c2)
          clear c2
          go_wp2_with fail
          go_quiet (fail)
          go_wp2
          go_ret
          exact ⟨by rw [← HR.out, HA.out]; rfl, junk_of_below (by (repeat' first | with_reducible (first | apply Below.refl | assumption | apply bw_a | apply bw_d | apply bw_n | apply bw_p | apply bw_c | apply bw_r) | go_size))⟩
        | true =>
          rw [c2] at e2
          have HC2 := Lib.hid c2
          clear c2
          go_wp2_with fail
          go_quiet (fail)
          go_wp2_with fail
          go_roundw
          case rel => exact ⟨k + 1, _, by go_num, by omega, fun j hj => (Nat.lt_or_ge j k).elim (fun h => HDD.out j h) (fun h => by rw [show j = k by omega]; exact HC2.out), rfl⟩
          case measure => simp [intOf]; omega
      · obtain rfl : k = t.length := by omega
        have HA := Lib.hid (all_digs HDD.out)
        go_wp2
        go_ret
        exact ⟨by rw [← HR.out, HA.out]; rfl, junk_of_below (by (repeat' first | with_reducible (first | apply Below.refl | assumption | apply bw_a | apply bw_d | apply bw_n | apply bw_p | apply bw_c | apply bw_r) | go_size))⟩
end Go.Proofs.Ytpoahdfhhnlghaa

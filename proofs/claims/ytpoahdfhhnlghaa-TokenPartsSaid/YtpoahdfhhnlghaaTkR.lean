/- Contract of apportionref15's Tokens. -/
import Derived.Test.YtpoahdfhhnlghaaTkE
import Derived.Test.YtpoahdfhhnlghaaTkL
import Derived.Test.YtpoahdfhhnlghaaRowSet
namespace Go.Proofs.Ytpoahdfhhnlghaa
set_option linter.unusedVariables false
set_option linter.unusedSimpArgs false
open Go.RowKit

/-- What is left of a line's tokens, from a place on; where they begin. -/
def tokAt (s : List UInt8) (i : Nat) : List Tk := tokL (prevB s i) (s.drop i) []
def posAt (s : List UInt8) (i : Nat) : List Nat := posL (prevB s i) (s.drop i) i none
theorem next_step {s : List UInt8} {i e : Nat} {t : Tk} (hi : i < s.length) (h : NextT s i t e) : i < e ∧ e ≤ s.length ∧ ((t = tkZ ∧ tokAt s i = tokAt s e ∧ posAt s i = posAt s e) ∨ (t.1 ≠ 0 ∧ tokAt s i = t :: tokAt s e ∧ posAt s i = i :: posAt s e)) := by
  unfold tokAt posAt
  rcases h with ⟨h1, h2, rfl, rfl⟩ | ⟨h1, h2, rfl, rfl⟩ | ⟨h1, h2, h3, rfl, rfl⟩ | ⟨h0, h1, h2, h3, rfl⟩
  · refine ⟨by omega, by omega, .inr ⟨by decide, ?_, ?_⟩⟩
    · rw [tok_skip hi h1, h2]; rfl
    · rw [pos_skip hi h1, h2]; rfl
  · refine ⟨by omega, by omega, .inr ⟨by decide, ?_, ?_⟩⟩
    · rw [tok_skip hi h1, h2]; rfl
    · rw [pos_skip hi h1, h2]; rfl
  · refine ⟨by omega, by omega, .inl ⟨rfl, ?_, ?_⟩⟩
    · rw [tok_skip hi h1]; unfold sepT; rw [if_neg h2, if_neg h3]; rfl
    · rw [pos_skip hi h1]; unfold sepP; rw [if_neg (fun e => e.elim h2 h3)]; rfl
  · obtain ⟨m, rfl⟩ : ∃ m, e = i + m := ⟨e - i, by omega⟩
    refine ⟨h0, h1, .inr ⟨?_, ?_, ?_⟩⟩
    · have := kind_few (partT s i (i + m))
      show kindT _ ≠ 0
      omega
    · rw [tok_next (by omega) h1 h2 h3]; unfold partT; rw [show i + m - i = m by omega]
    · rw [pos_next (by omega) h1 h2 h3]
/-- What a line is answered with. -/
def TkRes (s : List UInt8) (w : World) (e : Ending) (w' : World) : Prop :=
  ∃ v, e = .returned (.tuple #[v, .agg #[.int .i64 (faultT s).1, .int .i64 ((faultT s).2 : Int)]]) ∧ TOwns w' w.heap.size v (toldT s) ∧ Junk w w'
theorem line_n (c : UInt8) : lineB c = decide (c.toNat = 9 ∨ (32 ≤ c.toNat ∧ c.toNat ≤ 126)) := rfl
theorem told_none {s : List UInt8} (h : (faultT s).1 ≠ 0) : toldT s = [] := by unfold toldT; rw [if_neg h]
theorem res_fault {s : List UInt8} {w w' : World} {x : Value} {f : Int} {a : Nat} (hf : faultT s = (f, a)) (h0 : f ≠ 0) (hx : x = .tuple #[.slice none 0 0, .agg #[.int .i64 f, .int .i64 (a : Int)]]) (hj : Junk w w') : TkRes s w (.returned x) w' := by
  refine ⟨.slice none 0 0, by rw [hx, hf], ?_, hj⟩
  rw [told_none (by rw [hf]; exact h0)]
  exact towns_nil _ _
theorem res_fine {s : List UInt8} {w w' : World} {x v : Value} (hf : faultT s = (0, 0)) (hv : TOwns w' w.heap.size v (toks s)) (hx : x = .tuple #[v, .agg #[.int .i64 0, .int .i64 0]]) (hj : Junk w w') : TkRes s w (.returned x) w' := by
  refine ⟨v, by rw [hx, hf]; rfl, ?_, hj⟩
  unfold toldT
  rw [hf, if_pos rfl]
  exact hv
/-- Between two rounds of the second loop. -/
def TkAt (s : List UInt8) (w : World) (o i : Value) (wr : World) : Prop :=
  ∃ (k : Nat) (D : List Tk) (P : List Nat), i = .int .i64 (k : Int) ∧ k ≤ s.length ∧ TOwns wr (w.heap.size + 1) o D ∧ D.length ≤ 40 ∧ P.length = D.length ∧ D ++ tokAt s k = toks s ∧ P ++ posAt s k = plcT s ∧
    wr.rowAt w.heap.size = some #[.int .i64 0, .int .i64 0] ∧ w.heap.size < wr.heap.size ∧ Below w.heap.size w wr
set_option maxRecDepth 100000 in
set_option maxHeartbeats 1000000 in
theorem r_tkTokens (s : List UInt8) (w : World) (hl : s.length ≤ 1099511627776) : Calls Try.prog 12 #[.string ⟨s.toArray⟩] w (TkRes s w) := by
  by_cases h200 : 200 < s.length
  · have HF := Lib.hid (fault_long h200)
    go_enter Try.func12, Try.ntmps12
    go_wp2
    refine bodyPost_ret (results_fault rfl _ _ w.heap.size #[.int .i64 3, .int .i64 0] rfl (by simp [go_sem]) rfl) rfl ?_
    exact res_fault HF.out (by decide) rfl (junk_of_below (by (repeat' first | with_reducible (first | apply Below.refl | assumption | apply bw_a | apply bw_d | apply bw_n | apply bw_p | apply bw_c | apply bw_r) | go_size)))
  have hl : s.length ≤ 200 := by omega
  have HN := Lib.hid (fun k (hk : k < s.length) w' => r_tkNext s k w' (by omega) hk)
  clear h200
  go_enter Try.func12, Try.ntmps12
  go_wp2_with fail
  go_loopw [4] (fun i wr => ∃ k : Nat, i = .int .i64 (k : Int) ∧ k ≤ s.length ∧ (∀ j, j < k → lineB (s.getD j 0) = true) ∧ wr = w.alloc (.cells #[.int .i64 0, .int .i64 0] 25)) (fun i _ => s.length - (intOf i).toNat)
  case atStart => exact ⟨0, rfl, Nat.zero_le _, fun j h => absurd h (Nat.not_lt_zero _), rfl⟩
  case round =>
    obtain ⟨k, rfl, hk, hb, rfl⟩ := hrel
    have HB := Lib.hid hb
    clear hb
    by_cases hlt : k < s.length
    · have hB := byte_lt s k
      by_cases hc : lineB (s.getD k 0) = true
      · have HC := Lib.hid hc
        have hcase : (byteAt s k = 9) ∨ (byteAt s k ≠ 9 ∧ 32 ≤ byteAt s k ∧ byteAt s k ≤ 126) := by
          rw [line_n, decide_eq_true_eq, show (s.getD k 0).toNat = byteAt s k from rfl] at hc
          omega
        clear hc
        rcases hcase with h | ⟨h, h1, h2⟩
        · go_wp2_with fail
          go_roundw
          case rel => exact ⟨k + 1, by go_num, by omega, fun j hj => (Nat.lt_or_ge j k).elim (HB.out j) (fun h => by rw [show j = k by omega]; exact HC.out), trivial⟩
          case measure => simp [intOf]; omega
        · have e9 : ((byteAt s k : Int) != 9) = true := by rw [bne_iff_ne]; omega
          have e32 : decide ((byteAt s k : Int) < 32) = false := decide_eq_false (by omega)
          have e126 : decide (126 < (byteAt s k : Int)) = false := decide_eq_false (by omega)
          clear h h1 h2
          go_wp2_with fail
          go_roundw
          case rel => exact ⟨k + 1, by go_num, by omega, fun j hj => (Nat.lt_or_ge j k).elim (HB.out j) (fun h => by rw [show j = k by omega]; exact HC.out), trivial⟩
          case measure => simp [intOf]; omega
      · have hc : lineB (s.getD k 0) = false := by simpa using hc
        have HF := Lib.hid (fault_byte hl hlt HB.out hc)
        have hcase : byteAt s k ≠ 9 ∧ (byteAt s k < 32 ∨ 126 < byteAt s k) := by
          rw [line_n, decide_eq_false_iff_not, show (s.getD k 0).toNat = byteAt s k from rfl] at hc
          omega
        obtain ⟨h, h1⟩ := hcase
        have e9 : ((byteAt s k : Int) != 9) = true := by rw [bne_iff_ne]; omega
        clear hc h
        rcases h1 with h1 | h1
        · have e32 : decide ((byteAt s k : Int) < 32) = true := decide_eq_true (by omega)
          clear h1
          go_wp2
          refine bodyPost_ret (results_fault rfl _ _ w.heap.size #[.int .i64 4, .int .i64 k] rfl (by simp [go_sem]) rfl) rfl ?_
          exact res_fault HF.out (by decide) rfl (junk_of_below (by (repeat' first | with_reducible (first | apply Below.refl | assumption | apply bw_a | apply bw_d | apply bw_n | apply bw_p | apply bw_c | apply bw_r) | go_size)))
        · have e32 : decide ((byteAt s k : Int) < 32) = false := decide_eq_false (by omega)
          have e126 : decide (126 < (byteAt s k : Int)) = true := decide_eq_true (by omega)
          clear h1
          go_wp2
          refine bodyPost_ret (results_fault rfl _ _ w.heap.size #[.int .i64 4, .int .i64 k] rfl (by simp [go_sem]) rfl) rfl ?_
          exact res_fault HF.out (by decide) rfl (junk_of_below (by (repeat' first | with_reducible (first | apply Below.refl | assumption | apply bw_a | apply bw_d | apply bw_n | apply bw_p | apply bw_c | apply bw_r) | go_size)))
    · obtain rfl : k = s.length := by omega
      have HF := Lib.hid (fault_rest hl HB.out)
      clear hlt HB
      go_wp2_with fail
      go_loopw [5, 6, 8] (fun o i _ wr => TkAt s w o i wr) (fun _ i _ _ => s.length - (intOf i).toNat)
      case atStart =>
        refine ⟨0, [], [], rfl, Nat.zero_le _, towns_nil _ _, by simp, rfl, rfl, rfl, ?_, ?_, ?_⟩
        · simp [go_sem]
        · simp
        · (repeat' first | with_reducible (first | apply Below.refl | assumption | apply bw_a | apply bw_d | apply bw_n | apply bw_p | apply bw_c | apply bw_r) | go_size)
      case round =>
        obtain ⟨k, D, P, rfl, hk, ho, hD, hP, hT, hQ, hr, hws, hb⟩ := hrel
        have c0 := ucell_of_row hr 0
        have c1 := ucell_of_row hr 1
        have f0 := ufrozen_of_row hr 0
        have f1 := ufrozen_of_row hr 1
        have hr := Lib.hid hr
        simp only [List.getElem?_toArray, List.getElem?_cons_zero, List.getElem?_cons_succ] at c0 c1
        have HO := Lib.hid ho; have HT := Lib.hid hT; have HQ := Lib.hid hQ; have HB := Lib.hid hb; have HP := Lib.hid hP
        clear ho hT hQ hb hP
        by_cases hlt : k < s.length
        · have HNk := Lib.hid (HN.out k hlt)
          go_wp2_with fail
          refine (HNk.out _).mono ?_; rintro e w' ⟨t, m, hnx, rfl, J1, d1, rfl⟩
          obtain ⟨hm, hm2, hst⟩ := next_step hlt hnx
          have HM := Lib.hid (show k < m ∧ m ≤ s.length from ⟨hm, hm2⟩)
          unfold tkV
          rcases hst with ⟨rfl, ht, hp⟩ | ⟨h0, ht, hp⟩
          · have HT2 := Lib.hid ht; have HP2 := Lib.hid hp
            clear ht hp hnx hm
            unfold tkZ
            go_wp2_with fail
            go_roundw
            case rel =>
              refine ⟨m, D, P, rfl, HM.out.2, HO.out.below (by (repeat' first | with_reducible (first | apply Below.refl | assumption | apply bw_a | apply bw_d | apply bw_n | apply bw_p | apply bw_c | apply bw_r) | go_size)), hD, HP.out, by rw [← HT2.out]; exact HT.out, by rw [← HP2.out]; exact HQ.out, ?_, ?_, ?_⟩
              · simp [go_sem, hr.out, hws]
              · simp; omega
              · have := HB.out; have := HB.out.size; (repeat' first | with_reducible (first | apply Below.refl | assumption | apply bw_a | apply bw_d | apply bw_n | apply bw_p | apply bw_c | apply bw_r) | go_size)
            case measure => have := HM.out; simp [intOf]; omega
          · have HT2 := Lib.hid ht; have HP2 := Lib.hid hp
            clear ht hp hnx hm
            obtain ⟨kd, x⟩ := t
            have e0 : (kd != 0) = true := bne_iff_ne.2 h0
            clear h0
            obtain ⟨a, cap, rfl, hR, hna⟩ := treads_of_owns HO.out
            have hsz := HB.out.size
            by_cases hfull : D.length = 40
            · have HF := Lib.hid (show faultT s = (8, k) by
                have h1 : (toks s).length = 40 + ((tokAt s m).length + 1) := by rw [← HT.out, HT2.out, List.length_append, hfull]; rfl
                have h2 : (plcT s).getD 40 0 = k := by
                  rw [← HQ.out, HP2.out, List.getD_eq_getElem?_getD, List.getElem?_append_right (by rw [HP.out, hfull]; exact Nat.le_refl _), HP.out, hfull]; rfl
                have := HF.out
                rw [if_pos (by omega), h2] at this
                exact this)
              rw [hfull]
              clear hR hna
              go_wp2
              rw [set2 hr.out]
              have hx : (wr.setRow w.heap.size #[.int .i64 8, .int .i64 k]).rowAt w.heap.size = some #[.int .i64 8, .int .i64 k] := rowAt_setRow hr.out
              refine bodyPost_ret (results_fault rfl _ _ w.heap.size #[.int .i64 8, .int .i64 k] rfl (by
                show ((World.plus (wr.setRow w.heap.size #[.int .i64 8, .int .i64 k]) _ _).alloc _).rowAt _ = _
                rw [rowAt_pa _ _ _ _ _ (by simp; omega)]; exact hx) rfl) rfl ?_
              exact res_fault HF.out (by decide) rfl (junk_of_below (by
                have := HB.out
                show Below _ w ((World.plus (wr.setRow w.heap.size #[.int .i64 8, .int .i64 k]) _ _).alloc _)
                (repeat' first | with_reducible (first | apply Below.refl | assumption | apply bw_a | apply bw_d | apply bw_n | apply bw_p | apply bw_c | apply bw_r) | go_size)))
            · have ef : ((D.length : Int) == 40) = false := by rw [beq_eq_false_iff_ne]; omega
              have HONE := Lib.hid (fun W n hn => treads_at W n hn kd x)
              have HNF := Lib.hid (show D.length < 40 by omega)
              clear hR hna hfull
              go_wp2_with (at_builtin; refine wpList_tapp rfl _ _ rfl (w.heap.size + 1) _ D rfl (HO.out.below (by (repeat' first | with_reducible (first | apply Below.refl | assumption | apply bw_a | apply bw_d | apply bw_n | apply bw_p | apply bw_c | apply bw_r) | go_size))) (some ⟨_, 0, none⟩) 1 1 [(kd, x)] rfl (fun h => nomatch h) (HONE.out _ _ (by simp)) (by omega) (by simp; omega) ?_; intro v' w' hown hg)
              have HG := Lib.hid (show Below w.heap.size w w' from (by
                have := HB.out
                exact Below.grown (w := ((wr.plus J1 d1).alloc (.cells #[.int .i64 kd, .string ⟨x.toArray⟩] 31)).alloc (.cells #[.int .i64 kd, .string ⟨x.toArray⟩] 31)) (by (repeat' first | with_reducible (first | apply Below.refl | assumption | apply bw_a | apply bw_d | apply bw_n | apply bw_p | apply bw_c | apply bw_r) | go_size)) hg (by simp; omega) (fun k hk => by have := HO.out.block k hk; omega)))
              have hr2 : w'.rowAt w.heap.size = some #[.int .i64 0, .int .i64 0] := by
                rw [rowAt_of_block (hg.block w.heap.size (by simp; omega) (fun e => by have := HO.out.block _ e.symm; omega))]
                rw [rowAt_alloc_past _ _ _ (by simp; omega), rowAt_pa _ _ _ _ _ hws]
                exact hr.out
              have hs2 := hg.size
              go_roundw
              case rel =>
                refine ⟨m, D ++ [(kd, x)], P ++ [k], rfl, HM.out.2, hown, by have := HNF.out; simp; omega, by simp [HP.out], ?_, ?_, hr2, ?_, HG.out⟩
                · rw [← HT.out, HT2.out, List.append_assoc]; rfl
                · rw [← HQ.out, HP2.out, List.append_assoc]; rfl
                · simp at hs2; omega
              case measure => have := HM.out; simp [intOf]; omega
        · obtain rfl : k = s.length := by omega
          have HF := Lib.hid (show faultT s = (0, 0) ∧ toks s = D by
            have h1 : tokAt s s.length = [] := by unfold tokAt; rw [List.drop_length]; rfl
            have h2 := HT.out
            rw [h1, List.append_nil] at h2
            have := HF.out
            rw [if_neg (by rw [← h2]; omega)] at this
            exact ⟨this, h2.symm⟩)
          obtain ⟨a, cap, rfl, hR, hna⟩ := treads_of_owns HO.out
          clear hR hna
          go_wp2
          rw [set2 hr.out]
          have hx : (wr.setRow w.heap.size #[.int .i64 0, .int .i64 0]).rowAt w.heap.size = some #[.int .i64 0, .int .i64 0] := rowAt_setRow hr.out
          refine bodyPost_ret (results_fault rfl _ _ w.heap.size #[.int .i64 0, .int .i64 0] rfl hx rfl) rfl ?_
          refine res_fine HF.out.1 ?_ rfl (junk_of_below (by have := HB.out; show Below _ w (wr.setRow w.heap.size #[.int .i64 0, .int .i64 0]); (repeat' first | with_reducible (first | apply Below.refl | assumption | apply bw_a | apply bw_d | apply bw_n | apply bw_p | apply bw_c | apply bw_r) | go_size)))
          rw [HF.out.2]
          have hsame : wr.setRow w.heap.size #[.int .i64 0, .int .i64 0] = wr := setRow_self hr.out
          show TOwns (wr.setRow w.heap.size #[.int .i64 0, .int .i64 0]) _ _ _
          rw [hsame]
          exact HO.out.base (Nat.le_succ _)
end Go.Proofs.Ytpoahdfhhnlghaa

/- Contract of token's Tokens. -/
import Derived.Test.YtpoahdfhhnlghaaTkK
namespace Go.Proofs.Ytpoahdfhhnlghaa
set_option linter.unusedVariables false
set_option linter.unusedSimpArgs false
open Go.RowKit

theorem cls_zero (n : Nat) : ((clsF n : Int) == 0) = !lineN n := by
  have h1 : letN n = true → lineN n = true := by unfold letN lineN; simp; omega
  have h2 : digN n = true → lineN n = true := by unfold digN lineN; simp; omega
  have h3 : joinN n = true → lineN n = true := by unfold joinN lineN; simp; omega
  unfold clsF
  cases e1 : letN n with
  | true => rw [h1 e1]; rfl
  | false =>
    cases e2 : digN n with
    | true => rw [h2 e2]; rfl
    | false =>
      cases e3 : joinN n with
      | true => rw [h3 e3]; rfl
      | false =>
        by_cases e4 : n = 44
        · subst e4; rfl
        · by_cases e5 : n = 35
          · subst e5; rfl
          · cases e6 : lineN n with
            | true => simp [e4, e5]
            | false => simp [e4, e5]
/-- A divider is built. -/
theorem built_div (b : ByteArray) : Try.prog.built 51 [(0, .agg (urow clsF 256)), (1, .string b)] = some (urow clsF 256 ++ #[.string b, .int .i64 0, .int .i64 0, .slice none 0 0, .slice none 0 0]) := by kernel_rfl
def dvZ : Array Value := urow (fun _ => 0) 256 ++ #[.string ⟨#[]⟩, .int .i64 0, .int .i64 0, .slice none 0 0, .slice none 0 0]
theorem zero_div (w : World) : (zeroValue 51).run Try.prog w = .ok (.agg dvZ) w := by
  have h : (Try.prog.info? 51).map (·.zero) = some (some (.agg dvZ)) := by kernel_rfl
  cases hi : Try.prog.info? 51 with
  | none => rw [hi] at h; cases h
  | some i =>
    rw [hi] at h
    simp at h
    simp [zeroValue, typeInfo, hi, h]
theorem wpList_div_build {ops : Array Oper} {rest : List Oper} {o : Oper} {a : Act} {w : World} {Q : Exit → Act → World → Prop} (hg : o.guard = none) (x y : Operand) (ho : o.op = .build 51 #[(0, x), (1, y)])
    (hx : a.eval x = .agg (urow clsF 256)) (s : List UInt8) (hy : a.eval y = .string ⟨s.toArray⟩)
    (h : wpList Try.prog ops Q rest (a.put o.dst (.agg (dvC s 0 0 (.slice none 0 0) (.slice none 0 0)))) w) : wpList Try.prog ops Q (o :: rest) a w := by
  have hp : (#[(0, x), (1, y)].map fun (i, x) => (i, a.eval x)).toList = [(0, .agg (urow clsF 256)), (1, .string ⟨s.toArray⟩)] := by simp [hx, hy]
  refine wpList_build hg _ _ ho ?_ ?_
  · rw [hp, built_div]; rfl
  · rw [hp, built_div]; exact h
theorem dv_one (s : List UInt8) (i st : Int) (v u : Value) (hv : v.oneCell' = true) (hu : u.oneCell' = true) : (dvC s i st v u).all (·.oneCell') = true := by
  unfold dvC
  rw [Array.all_append, urow_one]
  simp [Value.oneCell'] at *
  exact ⟨hv, hu⟩
theorem wpList_div_store {ops : Array Oper} {rest : List Oper} {o : Oper} {a : Act} {w : World} {Q : Exit → Act → World → Prop} (hgd : o.guard = none) (x y : Operand) (ho : o.op = .store 51 x y)
    (g : Nat) (hx : a.eval x = .pointer (some ⟨g, 0, none⟩)) (s : List UInt8) (hy : a.eval y = .agg (dvC s 0 0 (.slice none 0 0) (.slice none 0 0))) (c : Array Value) (hr : w.rowAt g = some c) (hc : c.size = 261)
    (h : wpList Try.prog ops Q rest (a.put o.dst undef) (w.setRow g (dvC s 0 0 (.slice none 0 0) (.slice none 0 0)))) : wpList Try.prog ops Q (o :: rest) a w := by
  obtain ⟨t, hg⟩ := rowAt_some hr
  exact wpList_plain hgd fun _ hK => wp_store_row _ x y ho g _ hx hy t c hg (by rw [dv_size]; kernel_rfl) (by rw [dv_size, hc]) (dv_one _ _ _ _ _ rfl rfl) (hK _ _ h)
theorem NOwns.cell {w : World} {base : Nat} {u : Value} {P : List Nat} (h : NOwns w base u P) {i : Nat} (hi : i < P.length) : ∃ g cap, u = .slice (some ⟨g, 0, none⟩) P.length cap ∧ w.cell? ⟨g, i, none⟩ = some (.int .i64 (P.getD i 0 : Nat)) := by
  obtain ⟨_, h⟩ := h
  rcases h with ⟨rfl, h0⟩ | ⟨g, cap, cur, rfl, _, hc, _, _, _, ht⟩
  · omega
  · refine ⟨g, cap, rfl, ?_⟩
    rw [Nat.mul_one] at ht
    have h1 : (cur.toList.take P.length)[i]? = some (.int .i64 (P.getD i 0 : Nat)) := by rw [ht]; simp [ints, List.getD_eq_getElem?_getD, hi]
    rw [List.getElem?_take_of_lt hi] at h1
    simp [World.cell?, hc]
    simpa using h1
theorem dv_new (s : List UInt8) (w : World) : DvS w.heap.size s (0 : Nat) ⟨0, 0, [], []⟩ (w.alloc (.cells (dvC s 0 0 (.slice none 0 0) (.slice none 0 0)) 51)) :=
  ⟨_, _, rowAt_alloc_at _ _ _ _ rfl, towns_nil _ _, ⟨rfl, .inl ⟨rfl, rfl⟩⟩⟩
theorem line_b (s : List UInt8) (k : Nat) : lineB (s.getD k 0) = lineN (byteAt s k) := rfl
set_option maxRecDepth 100000 in
set_option maxHeartbeats 2000000 in
theorem n_tkTokens (s : List UInt8) (w : World) (hl : s.length ≤ 1099511627776) : Calls Try.prog 11 #[.string ⟨s.toArray⟩] w (TkRes s w) := by
  by_cases h200 : 200 < s.length
  · have HF := Lib.hid (fault_long h200)
    go_enter Try.func11, Try.ntmps11
    go_wp2
    refine bodyPost_ret (results_fault rfl _ _ w.heap.size #[.int .i64 3, .int .i64 0] rfl (by simp [go_sem]) rfl) rfl ?_
    exact res_fault HF.out (by decide) rfl (junk_of_below (by (repeat' first | with_reducible (first | apply Below.refl | assumption | apply bw_a | apply bw_d | apply bw_n | apply bw_p | apply bw_c | apply bw_r) | go_size)))
  have hl : s.length ≤ 200 := by omega
  have HN := Lib.hid n_tkClasses
  have hz := zero_cls
  have hC0 : (urow (tabC 0) 256).size = 256 := size_urow _ _
  generalize urow (tabC 0) 256 = C0 at *
  clear h200
  go_enter Try.func11, Try.ntmps11
  go_wp2_with fail
  refine (HN.out _).mono ?_; rintro e w' ⟨rfl, J1, d1, rfl⟩
  unfold clsV
  go_wp2_with (refine wpList_cls_store rfl _ _ rfl _ rfl clsF rfl C0 (by simp [go_sem]) hC0 ?_)
  have hb : Below w.heap.size w (((w.alloc (.cells #[.int .i64 0, .int .i64 0] 25)).plus J1 d1).alloc (.cells (urow clsF 256) 47)) := by (repeat' first | with_reducible (first | apply Below.refl | assumption | apply bw_a | apply bw_d | apply bw_n | apply bw_p | apply bw_c | apply bw_r) | go_size)
  have hft : (((w.alloc (.cells #[.int .i64 0, .int .i64 0] 25)).plus J1 d1).alloc (.cells (urow clsF 256) 47)).rowAt w.heap.size = some #[.int .i64 0, .int .i64 0] := by simp [go_sem]
  have hcl : (((w.alloc (.cells #[.int .i64 0, .int .i64 0] 25)).plus J1 d1).alloc (.cells (urow clsF 256) 47)).rowAt (w.heap.size + 1 + J1.size) = some (urow clsF 256) := rowAt_alloc_at _ _ _ _ (by simp)
  have hgs : w.heap.size + 1 + J1.size < (((w.alloc (.cells #[.int .i64 0, .int .i64 0] 25)).plus J1 d1).alloc (.cells (urow clsF 256) 47)).heap.size := by simp
  have hg : w.heap.size < w.heap.size + 1 + J1.size := by omega
  generalize ((w.alloc (.cells #[.int .i64 0, .int .i64 0] 25)).plus J1 d1).alloc (.cells (urow clsF 256) 47) = W at *
  generalize w.heap.size + 1 + J1.size = g at *
  have HB := Lib.hid hb; have HFT := Lib.hid hft; have HCL := Lib.hid hcl
  have hcz : (urow clsF 256).size = 256 := size_urow _ _
  have HCC := Lib.hid (fun c (hc : c < 256) => (by rw [ucell_of_row hcl]; exact urow_get _ _ _ hc : W.cell? ⟨g, c, none⟩ = some (.int .u8 (clsF c : Nat))))
  have c0 := ucell_of_row hft 0
  have c1 := ucell_of_row hft 1
  have f0 := ufrozen_of_row hft 0
  have f1 := ufrozen_of_row hft 1
  simp only [List.getElem?_toArray, List.getElem?_cons_zero, List.getElem?_cons_succ] at c0 c1
  clear hb hft hcl
  go_loopw [14, 5] (fun i _ wr => ∃ k : Nat, i = .int .i64 (k : Int) ∧ k ≤ s.length ∧ (∀ j, j < k → lineB (s.getD j 0) = true) ∧ wr = W) (fun i _ _ => s.length - (intOf i).toNat)
  case atStart => exact ⟨0, rfl, Nat.zero_le _, fun j h => absurd h (Nat.not_lt_zero _), rfl⟩
  case round =>
    obtain ⟨k, rfl, hk, hbd, rfl⟩ := hrel
    have HBD := Lib.hid hbd
    clear hbd
    by_cases hlt : k < s.length
    · have hB := byte_lt s k
      have k0 := HCC.out _ hB
      have e0 := cls_zero (byteAt s k)
      rw [← line_b] at e0
      cases hc : lineB (s.getD k 0) with
      | true =>
        rw [hc] at e0
        have HC := Lib.hid hc
        clear hc
        go_wp2_with fail
        go_roundw
        case rel => exact ⟨k + 1, by go_num, by omega, fun j hj => (Nat.lt_or_ge j k).elim (HBD.out j) (fun h => by rw [show j = k by omega]; exact HC.out), trivial⟩
        case measure => simp [intOf]; omega
      | false =>
        rw [hc] at e0
        have HF := Lib.hid (fault_byte hl hlt HBD.out hc)
        clear hc
        go_wp2
        rw [set2 HFT.out]
        have hx : (wr.setRow w.heap.size #[.int .i64 4, .int .i64 k]).rowAt w.heap.size = some #[.int .i64 4, .int .i64 k] := rowAt_setRow HFT.out
        refine bodyPost_ret (results_fault rfl _ _ w.heap.size #[.int .i64 4, .int .i64 k] rfl hx rfl) rfl ?_
        exact res_fault HF.out (by decide) rfl (junk_of_below (by have := HB.out; show Below _ w (wr.setRow w.heap.size #[.int .i64 4, .int .i64 k]); (repeat' first | with_reducible (first | apply Below.refl | assumption | apply bw_a | apply bw_d | apply bw_n | apply bw_p | apply bw_c | apply bw_r) | go_size)))
    · obtain rfl : k = s.length := by omega
      have HF := Lib.hid (fault_rest hl HBD.out)
      clear hlt HBD
      have hzd := zero_div
      have hZ0 : dvZ.size = 261 := by unfold dvZ; simp
      generalize dvZ = Z0 at *
      go_wp2_with (first
        | (refine wpList_cls_load rfl _ rfl _ rfl (urow clsF 256) HCL.out (size_urow _ _) ?_)
        | (refine wpList_div_build rfl _ _ rfl rfl s rfl ?_)
        | (refine wpList_div_store rfl _ _ rfl _ rfl s rfl Z0 (by simp [go_sem]) hZ0 ?_))
      have HDV := Lib.hid (n_tkDivide wr.heap.size s 0 _ (dv_new s wr) hl)
      refine HDV.out.mono ?_; rintro e w' ⟨rfl, ⟨M, hd, hMo, hMp⟩, hb2⟩
      obtain ⟨v, u, hr, hv, hu⟩ := hd
      obtain ⟨a, cap, rfl, _, _⟩ := treads_of_owns hv
      obtain ⟨_, _, _, _, d3, d4, hf, hD⟩ := dv_facts hr
      have hlt : w.heap.size < wr.heap.size := by omega
      have hft2 : w'.rowAt w.heap.size = some #[.int .i64 0, .int .i64 0] := by
        rw [rowAt_of_block (hb2.block w.heap.size hlt), rowAt_alloc_past _ _ _ hlt]; exact HFT.out
      have p0 := ucell_of_row hft2 0
      have p1 := ucell_of_row hft2 1
      have q0 := ufrozen_of_row hft2 0
      have q1 := ufrozen_of_row hft2 1
      simp only [List.getElem?_toArray, List.getElem?_cons_zero, List.getElem?_cons_succ] at p0 p1
      have HFT2 := Lib.hid hft2
      have HB2 := Lib.hid (show Below w.heap.size w w' from (by have hb3 := HB.out; exact Below.trans (show Below w.heap.size w (wr.alloc (.cells (dvC s 0 0 (.slice none 0 0) (.slice none 0 0)) 51)) by (repeat' first | with_reducible (first | apply Below.refl | assumption | apply bw_a | apply bw_d | apply bw_n | apply bw_p | apply bw_c | apply bw_r) | go_size)) (hb2.mono (by omega))))
      have HV := Lib.hid hv
      have hlen : M.out.length = M.pos.length := by rw [hMo, hMp]; exact (plc_len s).symm
      by_cases h40 : 40 < M.out.length
      · have HFF := Lib.hid (show faultT s = (8, M.pos.getD 40 0) by rw [HF.out, ← hMo, ← hMp, if_pos h40])
        obtain ⟨gu, cap2, rfl, hcu⟩ := hu.cell (show 40 < M.pos.length by omega)
        have hgu : gu ≠ w.heap.size := by have := hu.block gu rfl; omega
        have hgu2 : gu < w'.heap.size := World.block_lt_of_cell? _ _ hcu
        have hpl : 40 < M.pos.length := by omega
        generalize M.pos.getD 40 0 = z at *
        generalize M.out.length = n at *
        generalize M.pos.length = m at *
        clear hv hu hr hf hft2 hb2 hMo hMp hlen HF HDV HCC HCL HFT HB HN hzd hz c0 c1 f0 f1 hcz hC0 hZ0
        go_wp2_with fail
        go_region
        all_goals go_wp2
        rw [set2 HFT2.out]
        have hx : (w'.setRow w.heap.size #[.int .i64 8, .int .i64 z]).drew.rowAt w.heap.size = some #[.int .i64 8, .int .i64 z] := rowAt_setRow HFT2.out
        refine bodyPost_ret (results_fault rfl _ _ w.heap.size #[.int .i64 8, .int .i64 z] rfl hx rfl) rfl ?_
        exact res_fault HFF.out (by decide) rfl (junk_of_below (by have := HB2.out; show Below _ w (w'.setRow w.heap.size #[.int .i64 8, .int .i64 z]).drew; (repeat' first | with_reducible (first | apply Below.refl | assumption | apply bw_a | apply bw_d | apply bw_n | apply bw_p | apply bw_c | apply bw_r) | go_size)))
      · have HFF := Lib.hid (show faultT s = (0, 0) by rw [HF.out, ← hMo, if_neg h40])
        clear hu hr hf hft2 hb2 hlen HF HDV HCC HCL HFT HB HN hzd hz c0 c1 f0 f1 hcz hC0 hZ0
        have HMo := Lib.hid hMo
        clear hv hMo hMp
        go_wp2
        rw [set2 HFT2.out]
        have hx : (w'.setRow w.heap.size #[.int .i64 0, .int .i64 0]).rowAt w.heap.size = some #[.int .i64 0, .int .i64 0] := rowAt_setRow HFT2.out
        refine bodyPost_ret (results_fault rfl _ _ w.heap.size #[.int .i64 0, .int .i64 0] rfl hx rfl) rfl ?_
        have hsame : w'.setRow w.heap.size #[.int .i64 0, .int .i64 0] = w' := setRow_self HFT2.out
        refine res_fine HFF.out ?_ rfl (junk_of_below (by have := HB2.out; show Below _ w (w'.setRow w.heap.size #[.int .i64 0, .int .i64 0]); (repeat' first | with_reducible (first | apply Below.refl | assumption | apply bw_a | apply bw_d | apply bw_n | apply bw_p | apply bw_c | apply bw_r) | go_size)))
        show TOwns (w'.setRow w.heap.size #[.int .i64 0, .int .i64 0]) _ _ _
        rw [hsame, ← HMo.out]
        exact HV.out.base (by omega)
end Go.Proofs.Ytpoahdfhhnlghaa

/- Contract of a divider's divide. -/
import Derived.Test.YtpoahdfhhnlghaaTkJ
namespace Go.Proofs.Ytpoahdfhhnlghaa
set_option linter.unusedVariables false
set_option linter.unusedSimpArgs false
open Go.RowKit

def fnS (st : Nat) : FuncId := if st = 0 then 32 else if st = 1 then 42 else 49
theorem n_dvStep (D : Nat) (s : List UInt8) (i : Nat) (M : MT) (w : World) (h : DvS D s i M w) (c : UInt8) (hv : InvT s i M) (hl : i ≤ s.length) (hm : s.length ≤ 200) (hM : M.out.length ≤ 900) (hP : M.pos.length ≤ 900) :
    Calls Try.prog (fnS M.st) #[.pointer (some ⟨D, 0, none⟩), .int .u8 (c.toNat : Int)] w (DvR D s i (stepT s M i c) (stV (stepT s M i c).st) w) := by
  unfold fnS
  rcases hv with ⟨h0, _⟩ | ⟨h0, h1, _⟩ | ⟨h0, h1, _⟩
  · rw [if_pos h0]
    have e : stepT s M i c = outS M i c := by unfold stepT; rw [if_pos h0]
    rw [e]
    exact n_dvOut D s i M w h c (by omega) (by omega) (by omega)
  · rw [if_neg (by omega), if_pos h0]
    exact n_dvIn D s i M w h c h0 h1 hl hm hM hP
  · rw [if_neg (by omega), if_neg (by omega)]
    exact n_dvJoin D s i M w h c h0 (by omega) hl hm hM hP
/-- Where a divider stands. -/
def atW (D : Nat) (w : World) : Nat := match w.cell? ⟨D, 257, none⟩ with
  | some (.int _ n) => n.toNat
  | _ => 0
theorem DvS.atW {D : Nat} {s : List UInt8} {i : Int} {M : MT} {w : World} (h : DvS D s i M w) : atW D w = i.toNat := by
  obtain ⟨v, u, hr, _, _⟩ := h
  unfold Go.Proofs.Ytpoahdfhhnlghaa.atW
  rw [(dv_facts hr).2.2.1]
theorem DvS.setAt {D : Nat} {s : List UInt8} {i : Int} {M : MT} {w : World} (h : DvS D s i M w) (j : Int) : DvS D s j M (w.setCell ⟨D, 257, none⟩ (.int .i64 j)) := by
  obtain ⟨v, u, hr, hv, hu⟩ := h
  exact ⟨v, u, dv_set_at hr j, hv.set (Nat.lt_succ_self _), hu.set (Nat.lt_succ_self _)⟩
theorem inv_st {s : List UInt8} {i : Nat} {M : MT} (h : InvT s i M) : M.st = 0 ∨ M.st = 1 ∨ M.st = 2 := by
  rcases h with ⟨h, _⟩ | ⟨h, _⟩ | ⟨h, _⟩
  · exact .inl h
  · exact .inr (.inl h)
  · exact .inr (.inr h)
theorem cls_drewN (w : World) (n : Nat) : Cls w { w.drewN n with drawn := (w.drewN n).drawn + 1 } := ⟨#[], w.drawn + n + 1, by
  show _ = { w with heap := w.heap ++ #[], drawn := w.drawn + n + 1 }
  rw [Array.append_empty]; rfl⟩
/-- Between two rounds. -/
def DvAt (D : Nat) (s : List UInt8) (w : World) (x : Value) (wr : World) : Prop :=
  ∃ (i : Nat) (M : MT), x = stV M.st ∧ i ≤ s.length ∧ InvT s i M ∧ DvS D s i M wr ∧ Below D w wr ∧ M.out.length ≤ 2 * i ∧ M.out.length = M.pos.length
def DvEnd (D : Nat) (s : List UInt8) (w : World) (e : Ending) (w' : World) : Prop := e = .returned (.tuple #[]) ∧ (∃ M, DvS D s s.length M w' ∧ M.out = toks s ∧ M.pos = plcT s) ∧ Below D w w'
set_option maxRecDepth 100000 in
set_option maxHeartbeats 2000000 in
theorem n_tkDivide (D : Nat) (s : List UInt8) (st : Nat) (w : World) (h : DvS D s 0 ⟨0, st, [], []⟩ w) (hm : s.length ≤ 200) :
    Calls Try.prog 25 #[.pointer (some ⟨D, 0, none⟩)] w (DvEnd D s w) := by
  have HD := Lib.hid h
  clear h
  go_enter Try.func25, Try.ntmps25
  go_wp2_with fail
  go_loopw [2] (fun x wr => DvAt D s w x wr) (fun _ wr => s.length - atW D wr)
  case atStart => exact ⟨0, _, rfl, Nat.zero_le _, inv_start s st, HD.out, Below.refl _ _, by simp, rfl⟩
  case round =>
    obtain ⟨i, M, rfl, hi, hv, hd, hb, h2, h3⟩ := hrel
    have HV := Lib.hid hv; have HDV := Lib.hid hd; have HB := Lib.hid hb; have HW := Lib.hid hd.atW
    have HL := Lib.hid h3
    obtain ⟨v, u, hr, _, _⟩ := hd
    obtain ⟨hc, c1, c2, c3, _, _, hf, hD⟩ := dv_facts hr
    have f2 := hf 257
    clear hr hc hf hb
    by_cases hlt : i < s.length
    · have HN := Lib.hid (fun W (hd : DvS D s i M W) => (n_dvStep D s i M W hd (s.getD i 0) HV.out (by omega) hm (by omega) (by have := HL.out; omega) : Calls Try.prog (fnS M.st) #[.pointer (some ⟨D, 0, none⟩), .int .u8 (byteAt s i : Int)] W _))
      have HI := Lib.hid (inv_step hlt HV.out)
      have HS := Lib.hid (step_len (s := s) (M := M) i (s.getD i 0) HL.out)
      generalize hN : stepT s M i (s.getD i 0) = N at *
      clear h3
      rcases inv_st hv with h0 | h0 | h0
      · have hx : stV M.st = .func (.func 32) #[] #[] := by rw [h0]; rfl
        rw [hx]
        have hfn : fnS M.st = 32 := by rw [h0]; rfl
        rw [hfn] at HN
        clear hv h0 hx hfn hN
        go_wp2_with fail
        go_quiet (fail)
        go_wp2_with fail
        refine region_quiet_tail (C := Cls wr) 11 (by kernel_rfl) (by kernel_rfl) (cls_drewN _ _) ?_
        simp only [List.take_succ_cons, List.take_zero, List.drop_succ_cons, List.drop_zero]
        iterate 11 (refine wpQuiet_step (fun K hK => ?_); go_simp; first | (refine hK _ ?_; clear hK K) | (apply Exists.intro; refine ⟨?_, hK _ ?_⟩; (rintro w3_ ⟨J3_, d3_, rfl⟩; first | (with_reducible exact rfl) | (go_simp; with_reducible exact rfl)); clear hK K))
        refine wpQuiet_nil ?_
        rintro w3 ⟨J3, d3, rfl⟩
        go_wp2_with fail
        refine (HN.out _ (HDV.out.below (by (repeat' first | with_reducible (first | apply Below.refl | assumption | apply bw_a | apply bw_d | apply bw_n | apply bw_p | apply bw_c | apply bw_r) | go_size)))).mono ?_; rintro e w' ⟨rfl, hd2, hb2⟩
        have HD2 := Lib.hid hd2
        have HB2 := Lib.hid hb2
        obtain ⟨v2, u2, hr2, _, _⟩ := hd2
        obtain ⟨hc2, _, k2, _, _, _, hf2, hD2⟩ := dv_facts hr2
        have g2 := hf2 257
        clear hr2 hc2 hf2 hb2
        go_wp2_with fail
        go_roundw
        case rel =>
          have hb3 := HB.out
          exact ⟨i + 1, N, rfl, by omega, HI.out, HD2.out.setAt _, (((show Below D w (wr.plus J3 d3) by (repeat' first | with_reducible (first | apply Below.refl | assumption | apply bw_a | apply bw_d | apply bw_n | apply bw_p | apply bw_c | apply bw_r) | go_size)).trans HB2.out).setCell (p := ⟨D, 257, none⟩) (Nat.le_refl _) _), by have := HS.out.2; omega, HS.out.1⟩
        case measure =>
          rw [HW.out, (HD2.out.setAt _).atW]
          omega
      · have hx : stV M.st = .func (.func 42) #[] #[] := by rw [h0]; rfl
        rw [hx]
        have hfn : fnS M.st = 42 := by rw [h0]; rfl
        rw [hfn] at HN
        clear hv h0 hx hfn hN
        go_wp2_with fail
        go_quiet (fail)
        go_wp2_with fail
        refine region_quiet_tail (C := Cls wr) 11 (by kernel_rfl) (by kernel_rfl) (cls_drewN _ _) ?_
        simp only [List.take_succ_cons, List.take_zero, List.drop_succ_cons, List.drop_zero]
        iterate 11 (refine wpQuiet_step (fun K hK => ?_); go_simp; first | (refine hK _ ?_; clear hK K) | (apply Exists.intro; refine ⟨?_, hK _ ?_⟩; (rintro w3_ ⟨J3_, d3_, rfl⟩; first | (with_reducible exact rfl) | (go_simp; with_reducible exact rfl)); clear hK K))
        refine wpQuiet_nil ?_
        rintro w3 ⟨J3, d3, rfl⟩
        go_wp2_with fail
        refine (HN.out _ (HDV.out.below (by (repeat' first | with_reducible (first | apply Below.refl | assumption | apply bw_a | apply bw_d | apply bw_n | apply bw_p | apply bw_c | apply bw_r) | go_size)))).mono ?_; rintro e w' ⟨rfl, hd2, hb2⟩
        have HD2 := Lib.hid hd2
        have HB2 := Lib.hid hb2
        obtain ⟨v2, u2, hr2, _, _⟩ := hd2
        obtain ⟨hc2, _, k2, _, _, _, hf2, hD2⟩ := dv_facts hr2
        have g2 := hf2 257
        clear hr2 hc2 hf2 hb2
        go_wp2_with fail
        go_roundw
        case rel =>
          have hb3 := HB.out
          exact ⟨i + 1, N, rfl, by omega, HI.out, HD2.out.setAt _, (((show Below D w (wr.plus J3 d3) by (repeat' first | with_reducible (first | apply Below.refl | assumption | apply bw_a | apply bw_d | apply bw_n | apply bw_p | apply bw_c | apply bw_r) | go_size)).trans HB2.out).setCell (p := ⟨D, 257, none⟩) (Nat.le_refl _) _), by have := HS.out.2; omega, HS.out.1⟩
        case measure =>
          rw [HW.out, (HD2.out.setAt _).atW]
          omega
      · have hx : stV M.st = .func (.func 49) #[] #[] := by rw [h0]; rfl
        rw [hx]
        have hfn : fnS M.st = 49 := by rw [h0]; rfl
        rw [hfn] at HN
        clear hv h0 hx hfn hN
        go_wp2_with fail
        go_quiet (fail)
        go_wp2_with fail
        refine region_quiet_tail (C := Cls wr) 11 (by kernel_rfl) (by kernel_rfl) (cls_drewN _ _) ?_
        simp only [List.take_succ_cons, List.take_zero, List.drop_succ_cons, List.drop_zero]
        iterate 11 (refine wpQuiet_step (fun K hK => ?_); go_simp; first | (refine hK _ ?_; clear hK K) | (apply Exists.intro; refine ⟨?_, hK _ ?_⟩; (rintro w3_ ⟨J3_, d3_, rfl⟩; first | (with_reducible exact rfl) | (go_simp; with_reducible exact rfl)); clear hK K))
        refine wpQuiet_nil ?_
        rintro w3 ⟨J3, d3, rfl⟩
        go_wp2_with fail
        refine (HN.out _ (HDV.out.below (by (repeat' first | with_reducible (first | apply Below.refl | assumption | apply bw_a | apply bw_d | apply bw_n | apply bw_p | apply bw_c | apply bw_r) | go_size)))).mono ?_; rintro e w' ⟨rfl, hd2, hb2⟩
        have HD2 := Lib.hid hd2
        have HB2 := Lib.hid hb2
        obtain ⟨v2, u2, hr2, _, _⟩ := hd2
        obtain ⟨hc2, _, k2, _, _, _, hf2, hD2⟩ := dv_facts hr2
        have g2 := hf2 257
        clear hr2 hc2 hf2 hb2
        go_wp2_with fail
        go_roundw
        case rel =>
          have hb3 := HB.out
          exact ⟨i + 1, N, rfl, by omega, HI.out, HD2.out.setAt _, (((show Below D w (wr.plus J3 d3) by (repeat' first | with_reducible (first | apply Below.refl | assumption | apply bw_a | apply bw_d | apply bw_n | apply bw_p | apply bw_c | apply bw_r) | go_size)).trans HB2.out).setCell (p := ⟨D, 257, none⟩) (Nat.le_refl _) _), by have := HS.out.2; omega, HS.out.1⟩
        case measure =>
          rw [HW.out, (HD2.out.setAt _).atW]
          omega
    · obtain rfl : i = s.length := by omega
      have HN := Lib.hid (fun W (hd : DvS D s s.length M W) => (n_dvStep D s s.length M W hd 32 HV.out (by omega) hm (by omega) (by have := HL.out; omega) : Calls Try.prog (fnS M.st) #[.pointer (some ⟨D, 0, none⟩), .int .u8 32] W _))
      have HI := Lib.hid (inv_end HV.out)
      generalize hN : stepT s M s.length 32 = N at *
      have HNN := Lib.hid (fun W (hd : DvS D s s.length N W) => (⟨N, hd, HI.out.1, HI.out.2⟩ : ∃ M, DvS D s s.length M W ∧ M.out = toks s ∧ M.pos = plcT s))
      clear h3
      rcases inv_st hv with h0 | h0 | h0
      · have hx : stV M.st = .func (.func 32) #[] #[] := by rw [h0]; rfl
        rw [hx]
        have hfn : fnS M.st = 32 := by rw [h0]; rfl
        rw [hfn] at HN
        clear hv h0 hx hfn hN
        go_wp2_with fail
        go_quiet (fail)
        go_wp2_with fail
        refine (HN.out _ (HDV.out.below (by (repeat' first | with_reducible (first | apply Below.refl | assumption | apply bw_a | apply bw_d | apply bw_n | apply bw_p | apply bw_c | apply bw_r) | go_size)))).mono ?_; rintro e w' ⟨rfl, hd2, hb2⟩
        have HD2 := Lib.hid hd2
        have HB2 := Lib.hid hb2
        clear hd2 hb2
        go_wp2
        go_end0
        exact ⟨rfl, HNN.out _ HD2.out, by have hb3 := HB.out; exact Below.trans (by (repeat' first | with_reducible (first | apply Below.refl | assumption | apply bw_a | apply bw_d | apply bw_n | apply bw_p | apply bw_c | apply bw_r) | go_size)) HB2.out⟩
      · have hx : stV M.st = .func (.func 42) #[] #[] := by rw [h0]; rfl
        rw [hx]
        have hfn : fnS M.st = 42 := by rw [h0]; rfl
        rw [hfn] at HN
        clear hv h0 hx hfn hN
        go_wp2_with fail
        go_quiet (fail)
        go_wp2_with fail
        refine (HN.out _ (HDV.out.below (by (repeat' first | with_reducible (first | apply Below.refl | assumption | apply bw_a | apply bw_d | apply bw_n | apply bw_p | apply bw_c | apply bw_r) | go_size)))).mono ?_; rintro e w' ⟨rfl, hd2, hb2⟩
        have HD2 := Lib.hid hd2
        have HB2 := Lib.hid hb2
        clear hd2 hb2
        go_wp2
        go_end0
        exact ⟨rfl, HNN.out _ HD2.out, by have hb3 := HB.out; exact Below.trans (by (repeat' first | with_reducible (first | apply Below.refl | assumption | apply bw_a | apply bw_d | apply bw_n | apply bw_p | apply bw_c | apply bw_r) | go_size)) HB2.out⟩
      · have hx : stV M.st = .func (.func 49) #[] #[] := by rw [h0]; rfl
        rw [hx]
        have hfn : fnS M.st = 49 := by rw [h0]; rfl
        rw [hfn] at HN
        clear hv h0 hx hfn hN
        go_wp2_with fail
        go_quiet (fail)
        go_wp2_with fail
        refine (HN.out _ (HDV.out.below (by (repeat' first | with_reducible (first | apply Below.refl | assumption | apply bw_a | apply bw_d | apply bw_n | apply bw_p | apply bw_c | apply bw_r) | go_size)))).mono ?_; rintro e w' ⟨rfl, hd2, hb2⟩
        have HD2 := Lib.hid hd2
        have HB2 := Lib.hid hb2
        clear hd2 hb2
        go_wp2
        go_end0
        exact ⟨rfl, HNN.out _ HD2.out, by have hb3 := HB.out; exact Below.trans (by (repeat' first | with_reducible (first | apply Below.refl | assumption | apply bw_a | apply bw_d | apply bw_n | apply bw_p | apply bw_c | apply bw_r) | go_size)) HB2.out⟩
end Go.Proofs.Ytpoahdfhhnlghaa

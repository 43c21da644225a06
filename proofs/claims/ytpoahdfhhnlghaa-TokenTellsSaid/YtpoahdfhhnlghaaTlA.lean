/- What the laws of package token have of their own: word, number, mixed, comma, hash, main, is, awake; the examples. -/
import Derived.Test.YtpoahdfhhnlghaaTkY
namespace Go.Proofs.Ytpoahdfhhnlghaa
set_option linter.unusedVariables false
set_option linter.unusedSimpArgs false
open Go.RowKit

/-- What a call of Tokens leaves. -/
def TkP (s : List UInt8) (w : World) (e : Ending) (w' : World) : Prop :=
  ∃ (a : Option Addr) (cap : Nat) (J : Array Obj) (d : Nat), e = .returned (.tuple #[.slice a (toldT s).length cap, .agg #[.int .i64 (faultT s).1, .int .i64 ((faultT s).2 : Int)]]) ∧ w' = w.plus J d ∧ TReads (w.plus J d) a (toldT s).length (toldT s) ∧ TOwns (w.plus J d) w.heap.size (.slice a (toldT s).length cap) (toldT s) ∧ (a = none → (toldT s).length = 0 ∧ cap = 0)
theorem tkp_of {s : List UInt8} {w w' : World} {e : Ending} (h : TkRes s w e w') : TkP s w e w' := by
  obtain ⟨v, rfl, hown, J, d, rfl⟩ := h
  obtain ⟨a, cap, rfl, hR, hna⟩ := treads_of_owns hown
  exact ⟨a, cap, J, d, rfl, rfl, hR, hown, hna⟩
theorem p_tkTokens (s : List UInt8) (w : World) (hl : s.length ≤ 1099511627776) : Calls Try.prog 11 #[.string ⟨s.toArray⟩] w (TkP s w) := (n_tkTokens s w hl).mono fun _ _ h => tkp_of h
theorem q_tkTokens (s : List UInt8) (w : World) (hl : s.length ≤ 1099511627776) : Calls Try.prog 12 #[.string ⟨s.toArray⟩] w (TkP s w) := (r_tkTokens s w hl).mono fun _ _ h => tkp_of h
theorem treads_eqh {w1 w2 : World} {a : Option Addr} {n : Nat} {K : List Tk} (h : TReads w1 a n K) (e : w1 = w2) : TReads w2 a n K := e ▸ h
theorem told_len (s : List UInt8) : (toldT s).length ≤ 40 := by
  unfold toldT
  by_cases h : (faultT s).1 = 0
  · rw [if_pos h]; exact (fault_none.1 h).2.2
  · rw [if_neg h]; exact Nat.zero_le _
theorem told_short (s : List UInt8) : ShortT (toldT s) := by
  intro t ht
  unfold toldT at ht
  by_cases h : (faultT s).1 = 0
  · rw [if_pos h] at ht
    have a := siz_mem ht
    have b := siz_tok s 0 []
    rw [List.length_nil, Nat.zero_add] at b
    have c : sizT (toks s) ≤ s.length := b
    have := (fault_none.1 h).1
    omega
  · rw [if_neg h] at ht; cases ht
theorem bodyPost_tk {fn : Func} {R : Ending → World → Prop} {a : Act} {w : World} (p : Tmp) (h : fn.results = #[.cell p 31]) (g : Nat)
    (hp : a.tmps.getD p undef = .pointer (some ⟨g, 0, none⟩)) (C : Array Value) (hr : w.rowAt g = some C) (hc : C.size = 2) (hd : a.defers = [])
    (hR : R (.returned (.agg C)) w) : bodyPost Try.prog fn R .ret a w := by
  obtain ⟨t, hg⟩ := rowAt_some hr
  exact bodyPost_ret (results_cell_row h _ _ g t C (0, 0) _ hp hg Try.underlying31 rfl (by rw [hc]; kernel_rfl)) hd hR
theorem l_tkWord (S : ByteArray) (w : World) : Calls Try.prog 22 #[.string S] w fun e w' => e = .returned (.agg #[.int .i64 1, .string S]) ∧ Junk w w' := by
  go_enter Try.func22, Try.ntmps22
  go_wp2
  exact bodyPost_tk 2 rfl w.heap.size rfl #[.int .i64 1, .string S] (by simp [go_sem]) rfl rfl ⟨rfl, junk_of_below (by (repeat' first | with_reducible (first | apply Below.refl | assumption | apply bw_a | apply bw_d | apply bw_n | apply bw_p | apply bw_c | apply bw_r) | go_size))⟩
theorem l_tkNumber (S : ByteArray) (w : World) : Calls Try.prog 35 #[.string S] w fun e w' => e = .returned (.agg #[.int .i64 2, .string S]) ∧ Junk w w' := by
  go_enter Try.func35, Try.ntmps35
  go_wp2
  exact bodyPost_tk 2 rfl w.heap.size rfl #[.int .i64 2, .string S] (by simp [go_sem]) rfl rfl ⟨rfl, junk_of_below (by (repeat' first | with_reducible (first | apply Below.refl | assumption | apply bw_a | apply bw_d | apply bw_n | apply bw_p | apply bw_c | apply bw_r) | go_size))⟩
theorem l_tkMixed (S : ByteArray) (w : World) : Calls Try.prog 23 #[.string S] w fun e w' => e = .returned (.agg #[.int .i64 3, .string S]) ∧ Junk w w' := by
  go_enter Try.func23, Try.ntmps23
  go_wp2
  exact bodyPost_tk 2 rfl w.heap.size rfl #[.int .i64 3, .string S] (by simp [go_sem]) rfl rfl ⟨rfl, junk_of_below (by (repeat' first | with_reducible (first | apply Below.refl | assumption | apply bw_a | apply bw_d | apply bw_n | apply bw_p | apply bw_c | apply bw_r) | go_size))⟩
theorem l_tkComma (w : World) : Calls Try.prog 36 #[] w fun e w' => e = .returned (.agg #[.int .i64 4, .string ⟨#[44]⟩]) ∧ Junk w w' := by
  go_enter Try.func36, Try.ntmps36
  go_wp2
  exact bodyPost_tk 0 rfl w.heap.size rfl #[.int .i64 4, .string ⟨#[44]⟩] (by simp [go_sem]) rfl rfl ⟨rfl, junk_of_below (by (repeat' first | with_reducible (first | apply Below.refl | assumption | apply bw_a | apply bw_d | apply bw_n | apply bw_p | apply bw_c | apply bw_r) | go_size))⟩
theorem l_tkHash (w : World) : Calls Try.prog 37 #[] w fun e w' => e = .returned (.agg #[.int .i64 5, .string ⟨#[35]⟩]) ∧ Junk w w' := by
  go_enter Try.func37, Try.ntmps37
  go_wp2
  exact bodyPost_tk 0 rfl w.heap.size rfl #[.int .i64 5, .string ⟨#[35]⟩] (by simp [go_sem]) rfl rfl ⟨rfl, junk_of_below (by (repeat' first | with_reducible (first | apply Below.refl | assumption | apply bw_a | apply bw_d | apply bw_n | apply bw_p | apply bw_c | apply bw_r) | go_size))⟩
/-- The tokens of the chapter's first line. -/
def mainL : List Tk := [(2, [49, 50]), (1, [77, 65, 73, 78]), (1, [83, 84]), (4, [44]), (5, [35]), (2, [52])]
def MainR (w : World) (e : Ending) (w' : World) : Prop := ∃ (g cap : Nat), e = .returned (.slice (some ⟨g, 0, none⟩) 6 cap) ∧ TReads w' (some ⟨g, 0, none⟩) 6 mainL ∧ Junk w w'
theorem main_reads (W : World) (n : Nat) (hn : n = W.heap.size) : TReads (W.alloc (.cells #[.int .i64 2, .string ⟨#[49, 50]⟩, .int .i64 1, .string ⟨#[77, 65, 73, 78]⟩, .int .i64 1, .string ⟨#[83, 84]⟩, .int .i64 4, .string ⟨#[44]⟩, .int .i64 5, .string ⟨#[35]⟩, .int .i64 2, .string ⟨#[52]⟩] 31)) (some ⟨n, 0, none⟩) 6 mainL := by
  subst hn; exact treads_full W mainL (by decide)
set_option maxRecDepth 100000 in
theorem l_tkMain (w : World) : Calls Try.prog 27 #[] w (MainR w) := by
  have HW := Lib.hid l_tkWord
  have HN := Lib.hid l_tkNumber
  have HC := Lib.hid l_tkComma
  have HH := Lib.hid l_tkHash
  have HM := Lib.hid main_reads
  go_enter Try.func27, Try.ntmps27
  go_wp2_with (first
    | (go_at_call 35; (with_reducible refine (HN.out _ _).mono ?_); rintro e w' ⟨rfl, J, d, rfl⟩)
    | (go_at_call 22; (with_reducible refine (HW.out _ _).mono ?_); rintro e w' ⟨rfl, J, d, rfl⟩)
    | (go_at_call 36; (with_reducible refine (HC.out _).mono ?_); rintro e w' ⟨rfl, J, d, rfl⟩)
    | (go_at_call 37; (with_reducible refine (HH.out _).mono ?_); rintro e w' ⟨rfl, J, d, rfl⟩))
  go_ret
  exact ⟨_, _, rfl, HM.out _ _ (by simp), junk_of_below (by (repeat' first | with_reducible (first | apply Below.refl | assumption | apply bw_a | apply bw_d | apply bw_n | apply bw_p | apply bw_c | apply bw_r) | go_size))⟩
/-- Has a text just these tokens? -/
def isT (s : List UInt8) (K : List Tk) : Bool := decide ((faultT s).1 = 0) && decide (toldT s = K)
set_option maxRecDepth 100000 in
theorem l_tkIs (s : List UInt8) (w : World) (hl : s.length ≤ 1099511627776) (a : Option Addr) (n ca : Nat) (K : List Tk) (hK : TReads w a n K) (hn : n ≤ 1000000) :
    Calls Try.prog 21 #[.string ⟨s.toArray⟩, .slice a n ca] w fun e w' => e = .returned (.bool (isT s K)) ∧ Junk w w' := by
  have HT := Lib.hid (fun W => p_tkTokens s W hl)
  have HK := Lib.hid hK
  have HS := Lib.hid (fun W a1 cap1 (h : TReads W a1 (toldT s).length (toldT s)) (h2 : TReads W a n K) => k_SameTokens W a1 a (toldT s).length n cap1 ca (toldT s) K h h2 (by have := told_len s; omega) hn)
  obtain ⟨r, hr⟩ : ∃ r, isT s K = r := ⟨_, rfl⟩
  rw [hr]
  have HQ := Lib.hid (show r = (decide ((faultT s).1 = 0) && decide (toldT s = K)) from hr.symm)
  clear hK hr
  go_enter Try.func21, Try.ntmps21
  go_wp2_with fail
  refine (HT.out _).mono ?_; rintro e w' ⟨a1, cap1, J, d, rfl, rfl, hR, _, _⟩
  have HR := Lib.hid hR
  clear hR
  generalize toldT s = T at *
  generalize (faultT s).1 = f at *
  generalize ((faultT s).2 : Int) = f2 at *
  generalize T.length = m at *
  by_cases hf : f = 0
  · subst hf
    have HQ2 := Lib.hid (show r = decide (T = K) by rw [HQ.out]; simp)
    go_wp2_with fail
    refine (HS.out _ _ _ (HR.out.below (by (repeat' first | with_reducible (first | apply Below.refl | assumption | apply bw_a | apply bw_d | apply bw_n | apply bw_p | apply bw_c | apply bw_r) | go_size))) (HK.out.below (by (repeat' first | with_reducible (first | apply Below.refl | assumption | apply bw_a | apply bw_d | apply bw_n | apply bw_p | apply bw_c | apply bw_r) | go_size)))).mono ?_; rintro e w' ⟨rfl, J2, d2, rfl⟩
    go_wp2
    go_ret
    exact ⟨by rw [HQ2.out]; rfl, junk_of_below (by (repeat' first | with_reducible (first | apply Below.refl | assumption | apply bw_a | apply bw_d | apply bw_n | apply bw_p | apply bw_c | apply bw_r) | go_size))⟩
  · have e1 : (f == 0) = false := by rw [beq_eq_false_iff_ne]; exact hf
    have HF := Lib.hid (show r = false by rw [HQ.out, decide_eq_false hf, Bool.false_and])
    clear hf
    go_wp2
    go_ret
    exact ⟨by rw [HF.out]; rfl, junk_of_below (by (repeat' first | with_reducible (first | apply Below.refl | assumption | apply bw_a | apply bw_d | apply bw_n | apply bw_p | apply bw_c | apply bw_r) | go_size))⟩
/-- The examples. -/
theorem ex_main : isT [49, 50, 32, 77, 97, 105, 110, 32, 83, 116, 46, 44, 32, 35, 52] mainL = true := by decide +kernel
theorem ex_text : errT mainL = 0 ∧ txT mainL = [49, 50, 32, 77, 65, 73, 78, 32, 83, 84, 44, 32, 35, 52] := by decide +kernel
theorem main_short : ShortT mainL := by
  intro t ht
  simp [mainL] at ht
  rcases ht with h | h | h | h | h | h <;> subst h <;> decide
set_option maxRecDepth 100000 in
theorem l_tkAwake (w : World) : Calls Try.prog 16 #[] w fun e w' => e = .returned (.bool true) ∧ Junk w w' := by
  have HM := Lib.hid l_tkMain
  have HX := Lib.hid (fun W g cap (h : TReads W (some ⟨g, 0, none⟩) 6 mainL) => (n_tkText W (some ⟨g, 0, none⟩) 6 cap mainL h main_short (by omega)).mono fun e w' (h : TxRes mainL W e w') => (⟨by rw [h.1, toldX, ex_text.1, if_pos rfl, ex_text.2], h.2⟩ : e = .returned (.tuple #[.string ⟨#[49, 50, 32, 77, 65, 73, 78, 32, 83, 84, 44, 32, 35, 52]⟩, .int .i64 0]) ∧ Junk W w'))
  have HI := Lib.hid (fun W g cap (h : TReads W (some ⟨g, 0, none⟩) 6 mainL) => (l_tkIs [49, 50, 32, 77, 97, 105, 110, 32, 83, 116, 46, 44, 32, 35, 52] W (by decide) (some ⟨g, 0, none⟩) 6 cap mainL h (by omega)).mono fun e w' h => (⟨by rw [h.1, ex_main], h.2⟩ : e = .returned (.bool true) ∧ Junk W w'))
  go_enter Try.func16, Try.ntmps16
  go_wp2_with fail
  refine (HM.out _).mono ?_; rintro e w' ⟨g, cap, rfl, hR, J, d, rfl⟩
  have HR := Lib.hid hR
  clear hR
  go_wp2_with fail
  refine (HX.out _ _ _ HR.out).mono ?_; rintro e w' ⟨rfl, J2, d2, rfl⟩
  go_wp2_with fail
  refine (HM.out _).mono ?_; rintro e w' ⟨g2, cap2, rfl, hR2, J3, d3, rfl⟩
  have HR2 := Lib.hid hR2
  clear hR2
  go_wp2_with fail
  refine (HI.out _ _ _ (treads_eqh HR2.out (by simp only [plus_plus, Array.append_assoc]))).mono ?_; rintro e w' ⟨rfl, J4, d4, rfl⟩
  go_wp2
  go_ret
  exact ⟨rfl, junk_of_below (by (repeat' first | with_reducible (first | apply Below.refl | assumption | apply bw_a | apply bw_d | apply bw_n | apply bw_p | apply bw_c | apply bw_r) | go_size))⟩
end Go.Proofs.Ytpoahdfhhnlghaa

/- The law TokenParts. -/
import Derived.Test.YtpoahdfhhnlghaaTlT
namespace Go.Proofs.Ytpoahdfhhnlghaa
set_option linter.unusedVariables false
set_option linter.unusedSimpArgs false
open Go.RowKit

theorem told_fine {s : List UInt8} (h : (faultT s).1 = 0) : toldT s = toks s := by unfold toldT; rw [if_pos h]
theorem text_of' {a : ByteArray} (h : a.size ≤ maxLen) : ∃ L : List UInt8, a = ⟨L.toArray⟩ ∧ L.length ≤ 9223372036854775807 := by
  obtain ⟨L, rfl⟩ := text_of a
  refine ⟨L, rfl, ?_⟩
  simp only [maxLen, ByteArray.size] at h
  simpa using h
/-- A guard that lets its operation by. -/
theorem wpList_unguard {P : Program} {ops : Array Oper} {rest : List Oper} {o : Oper} {a : Act} {w : World} {Q : Exit → Act → World → Prop} (hw : Region.wanted o (yielded ops a.tmps) = true) (h : wpList P ops Q ({ o with guard := none } :: rest) a w) : wpList P ops Q (o :: rest) a w := by
  unfold wpList at *
  rw [if_pos hw]
  rw [if_pos (by simp [Region.wanted])] at h
  exact h
theorem towns_at (W : World) (n : Nat) (hn : n = W.heap.size) (base : Nat) (hb : base ≤ n) : TOwns (W.alloc (.cells #[] 31)) base (.slice (some ⟨n, 0, none⟩) 0 0) [] := by subst hn; exact (towns_empty W).base hb
theorem parts_full {a b : List UInt8} (ha : a.length ≤ 90) (hb : b.length ≤ 90) (h1 : (faultT a).1 = 0) (h2 : (faultT b).1 = 0) (h : 40 < (toks a).length + (toks b).length) : (faultT (a ++ 32 :: b)).1 = 8 := by
  have hl : (a ++ 32 :: b).length ≤ 200 := by rw [List.length_append, List.length_cons]; omega
  rcases fault_kind hl with h3 | ⟨_, c, hc, hcb⟩ | ⟨h3, _⟩
  · have := (parts_fault ha hb).1 h3; omega
  · exfalso
    rcases List.mem_append.1 hc with hc | hc
    · have := (fine_iff.1 h1).2.1 c hc; rw [hcb] at this; cases this
    · rcases List.mem_cons.1 hc with rfl | hc
      · exact absurd hcb (by decide)
      · have := (fine_iff.1 h2).2.1 c hc; rw [hcb] at this; cases this
  · exact h3
set_option maxRecDepth 100000 in
set_option maxHeartbeats 4000000 in
theorem l_tokenParts (a b : List UInt8) (w : World) (hsa : a.length ≤ 9223372036854775807) (hsb : b.length ≤ 9223372036854775807) : Calls Try.prog 8 #[.string ⟨a.toArray⟩, .string ⟨b.toArray⟩] w fun e w' => e = .returned (.bool true) ∧ Junk w w' := by
  have HA := Lib.hid l_tkAwake
  by_cases ha : 90 < a.length
  · go_enter Try.func8, Try.ntmps8
    go_wp2_with fail
    refine (HA.out _).mono ?_; rintro e w' ⟨rfl, J, d, rfl⟩
    go_wp2
    go_ret
    exact ⟨rfl, junk_of_below (by (repeat' first | with_reducible (first | apply Below.refl | assumption | apply bw_a | apply bw_d | apply bw_n | apply bw_p | apply bw_c | apply bw_r) | go_size))⟩
  by_cases hb : 90 < b.length
  · go_enter Try.func8, Try.ntmps8
    go_wp2_with fail
    refine (HA.out _).mono ?_; rintro e w' ⟨rfl, J, d, rfl⟩
    go_wp2
    go_ret
    exact ⟨rfl, junk_of_below (by (repeat' first | with_reducible (first | apply Below.refl | assumption | apply bw_a | apply bw_d | apply bw_n | apply bw_p | apply bw_c | apply bw_r) | go_size))⟩
  have hla : a.length ≤ 90 := by omega
  have hlb : b.length ≤ 90 := by omega
  have hsum : a.length + 1 ≤ 9223372036854775807 := by omega
  have hsum2 : a.length + 1 + b.length ≤ 9223372036854775807 := by omega
  have hsum3 : a.length + (1 + b.length) ≤ 9223372036854775807 := by omega
  have ec : (⟨a.toArray⟩ : ByteArray) ++ ⟨#[32]⟩ ++ ⟨b.toArray⟩ = ⟨(a ++ 32 :: b).toArray⟩ := by simp [ba_app]
  have HT1 := Lib.hid (fun W => p_tkTokens a W (by omega))
  have HT2 := Lib.hid (fun W => p_tkTokens b W (by omega))
  have HT3 := Lib.hid (fun W => (by rw [ec]; exact p_tkTokens (a ++ 32 :: b) W (by simp; omega) : Calls Try.prog 11 #[.string ((⟨a.toArray⟩ : ByteArray) ++ ⟨#[32]⟩ ++ ⟨b.toArray⟩)] W (TkP (a ++ 32 :: b) W)))
  have hF := parts_fault (a := a) (b := b) hla hlb
  have hFull := parts_full (a := a) (b := b) hla hlb
  have h1 := told_fine (s := a)
  have h2 := told_fine (s := b)
  have h3 := told_fine (s := a ++ 32 :: b)
  have t1 := told_len a
  have t2 := told_len b
  have t3 := told_len (a ++ 32 :: b)
  rw [toks_parts] at h3
  unfold TkP at HT1 HT2 HT3
  generalize toldT (a ++ 32 :: b) = Z at *
  generalize toldT a = X at *
  generalize toldT b = Y at *
  generalize toks a = X' at *
  generalize toks b = Y' at *
  generalize ((faultT (a ++ 32 :: b)).2 : Int) = g3 at *
  generalize ((faultT a).2 : Int) = g1 at *
  generalize ((faultT b).2 : Int) = g2 at *
  generalize (faultT (a ++ 32 :: b)).1 = f3 at *
  generalize (faultT a).1 = f1 at *
  generalize (faultT b).1 = f2 at *
  have HS := Lib.hid (fun W a1 a2 cap1 cap2 (m n : Nat) (hm : m ≤ 100) (hn : n ≤ 100) (h : TReads W a1 m Z) (h2 : TReads W a2 n Z) => (k_SameTokens W a1 a2 m n cap1 cap2 Z Z h h2 (by omega) (by omega)).mono fun e w' h => (⟨by rw [h.1, decide_eq_true rfl], h.2⟩ : e = .returned (.bool true) ∧ Junk W w'))
  have H1 := Lib.hid h1; have H2 := Lib.hid h2; have H3 := Lib.hid h3; have HFF := Lib.hid hF; have HFULL := Lib.hid hFull
  clear hsa hsb ha hb ec h1 h2 h3 hF hFull
  go_enter Try.func8, Try.ntmps8
  go_wp2_with fail
  refine (HA.out _).mono ?_; rintro e w0 ⟨rfl, hj0⟩
  have HB0 := Lib.hid hj0.below
  clear hj0
  go_wp2_with fail
  refine (HT1.out _).mono ?_; rintro e w' ⟨a1, cap1, J1, d1, rfl, rfl, hr1, ho1, hn1⟩
  go_wp2_with fail
  have hr1 := hr1.below (w' := (w0.plus J1 d1).alloc (.cells #[.int .i64 f1, .int .i64 g1] 25)) (by (repeat' first | with_reducible (first | apply Below.refl | assumption | apply bw_a | apply bw_d | apply bw_n | apply bw_p | apply bw_c | apply bw_r) | go_size))
  have hf1 := fla_new (w0.plus J1 d1) (w0.heap.size + J1.size) (by simp) f1 g1
  have hb1 : Below w0.heap.size w0 ((w0.plus J1 d1).alloc (.cells #[.int .i64 f1, .int .i64 g1] 25)) := by (repeat' first | with_reducible (first | apply Below.refl | assumption | apply bw_a | apply bw_d | apply bw_n | apply bw_p | apply bw_c | apply bw_r) | go_size)
  have hN1 := Lib.hid hn1
  clear ho1 hn1
  generalize (w0.plus J1 d1).alloc (.cells #[.int .i64 f1, .int .i64 g1] 25) = W1 at *
  generalize w0.heap.size + J1.size = p1 at *
  have HR1 := Lib.hid hr1
  have HF1 := Lib.hid hf1
  have HB1 := Lib.hid hb1
  clear hr1 hf1 hb1
  refine (HT2.out _).mono ?_; rintro e w' ⟨a2, cap2, J2, d2, rfl, rfl, hr2, ho2, hn2⟩
  go_wp2_with fail
  have hr2 := hr2.below (w' := (W1.plus J2 d2).alloc (.cells #[.int .i64 f2, .int .i64 g2] 25)) (by (repeat' first | with_reducible (first | apply Below.refl | assumption | apply bw_a | apply bw_d | apply bw_n | apply bw_p | apply bw_c | apply bw_r) | go_size))
  have hf2 := fla_new (W1.plus J2 d2) (W1.heap.size + J2.size) (by simp) f2 g2
  have hb2 : Below W1.heap.size W1 ((W1.plus J2 d2).alloc (.cells #[.int .i64 f2, .int .i64 g2] 25)) := by (repeat' first | with_reducible (first | apply Below.refl | assumption | apply bw_a | apply bw_d | apply bw_n | apply bw_p | apply bw_c | apply bw_r) | go_size)
  have hN2 := Lib.hid hn2
  clear ho2 hn2
  generalize (W1.plus J2 d2).alloc (.cells #[.int .i64 f2, .int .i64 g2] 25) = W2 at *
  generalize W1.heap.size + J2.size = p2 at *
  have HR2 := Lib.hid hr2
  have HF2 := Lib.hid hf2
  have HB2 := Lib.hid hb2
  clear hr2 hf2 hb2
  refine (HT3.out _).mono ?_; rintro e W3 ⟨a3, cap3, J3, d3, rfl, hw3, hR3, _, _⟩
  rw [← hw3] at hR3
  have hb3 : Below W2.heap.size W2 W3 := Junk.below ⟨J3, d3, hw3⟩
  have HBW := Lib.hid (show Below w.heap.size w W3 from HB0.out.trans ((HB1.out.trans ((HB2.out.trans (hb3.mono HB2.out.size)).mono HB1.out.size)).mono HB0.out.size))
  have hb13 := HB2.out.trans (hb3.mono HB2.out.size)
  obtain ⟨c10, c11, q1⟩ := HF1.out.below hb13
  obtain ⟨c20, c21, q2⟩ := HF2.out.below hb3
  have hWs := HBW.out.size
  have HR1' := Lib.hid (HR1.out.below hb13)
  have HR2' := Lib.hid (HR2.out.below hb3)
  have HR3 := Lib.hid hR3
  clear hR3 hb3 hb13 hw3
  by_cases e1 : f1 = 0
  · subst e1
    by_cases e2 : f2 = 0
    · subst e2
      obtain rfl := H1.out rfl
      obtain rfl := H2.out rfl
      by_cases e40 : 40 < X.length + Y.length
      · obtain rfl := HFULL.out rfl rfl e40
        go_wp2
        go_ret
        exact ⟨rfl, junk_of_below (by have := HBW.out; have := HBW.out.size; (repeat' first | with_reducible (first | apply Below.refl | assumption | apply bw_a | apply bw_d | apply bw_n | apply bw_p | apply bw_c | apply bw_r) | go_size))⟩
      · obtain rfl := HFF.out.2 ⟨rfl, rfl, by omega⟩
        obtain rfl := H3.out rfl
        have hzl : (X ++ Y).length = X.length + Y.length := List.length_append
        have HR3' := Lib.hid (hzl ▸ HR3.out : TReads W3 a3 (X.length + Y.length) (X ++ Y))
        have HB1' := Lib.hid (fun W (h : Below W3.heap.size W3 W) => HR1'.out.below h)
        have HB2' := Lib.hid (fun W (h : Below W3.heap.size W3 W) => HR2'.out.below h)
        have HB3' := Lib.hid (fun W (h : Below W3.heap.size W3 W) => HR3'.out.below h)
        have HEM := Lib.hid (fun (W : World) (n : Nat) (hn : n = W.heap.size) (hb : W3.heap.size ≤ n) => (towns_at W n hn W3.heap.size hb))
        clear hzl
        go_wp2_with (first
          | (at_builtin; refine wpList_unguard (by rfl) ?_; refine wpList_tapp rfl (.tmp 74) (.tmp 75) rfl W3.heap.size _ [] rfl (HEM.out _ _ (by simp) (by first | omega | (simp; omega))) a1 X.length cap1 X rfl hN1.out (HB1'.out _ (by (repeat' first | with_reducible (first | apply Below.refl | assumption | apply bw_a | apply bw_d | apply bw_n | apply bw_p | apply bw_c | apply bw_r) | go_size))) (by first | omega | (simp; omega)) (by first | omega | (simp; omega)) ?_; intro v4 w4 hown4 hg4; rw [List.nil_append] at hown4; obtain ⟨a4, cap4, rfl, _, _⟩ := treads_of_owns hown4; have HO4 := Lib.hid hown4; have HB4 := Lib.hid (show Below W3.heap.size W3 w4 from Below.grown (by (repeat' first | with_reducible (first | apply Below.refl | assumption | apply bw_a | apply bw_d | apply bw_n | apply bw_p | apply bw_c | apply bw_r) | go_size)) hg4 (by simp; omega) (fun k hk => by have hk : some (W3.heap.size + 1) = some k := hk; injection hk with hk; omega)); have hs4 := HB4.out.size; clear hown4 hg4)
          | (at_builtin; refine wpList_unguard (by rfl) ?_; refine wpList_tapp rfl (.tmp 76) (.tmp 77) rfl W3.heap.size _ X rfl HO4.out a2 Y.length cap2 Y rfl hN2.out (HB2'.out _ HB4.out) (by omega) (by omega) ?_; intro v5 w5 hown5 hg5; have HB5 := Lib.hid (show Below W3.heap.size W3 w5 from Below.grown HB4.out hg5 hs4 (fun k hk => HO4.out.block k hk)); obtain ⟨a5, cap5, rfl, hR5, _⟩ := treads_of_owns hown5; rw [List.length_append] at hR5; have HR5 := Lib.hid hR5; clear hown5 hg5 hR5)
          | (go_at_call 13; refine (HS.out _ _ _ _ _ _ _ (by omega) (by omega) (HB3'.out _ HB5.out) HR5.out).mono ?_; rintro e w' ⟨rfl, J6, d6, rfl⟩))
        go_ret
        exact ⟨rfl, junk_of_below (by have := HBW.out; have := HB5.out.mono hWs; have := Below.trans HBW.out (HB5.out.mono hWs); have := this.size; (repeat' first | with_reducible (first | apply Below.refl | assumption | apply bw_a | apply bw_d | apply bw_n | apply bw_p | apply bw_c | apply bw_r) | go_size))⟩
    · have hz : f3 ≠ 0 := fun h => e2 (HFF.out.1 h).2.1
      have n2 : (f2 != 0) = true := bne_iff_ne.2 e2
      have n3 : (f3 != 0) = true := bne_iff_ne.2 hz
      clear e2 hz
      go_wp2
      go_ret
      exact ⟨rfl, junk_of_below (by have := HBW.out; have := HBW.out.size; (repeat' first | with_reducible (first | apply Below.refl | assumption | apply bw_a | apply bw_d | apply bw_n | apply bw_p | apply bw_c | apply bw_r) | go_size))⟩
  · have hz : f3 ≠ 0 := fun h => e1 (HFF.out.1 h).1
    have n1 : (f1 != 0) = true := bne_iff_ne.2 e1
    have n3 : (f3 != 0) = true := bne_iff_ne.2 hz
    clear e1 hz
    go_wp2
    go_ret
    exact ⟨rfl, junk_of_below (by have := HBW.out; have := HBW.out.size; (repeat' first | with_reducible (first | apply Below.refl | assumption | apply bw_a | apply bw_d | apply bw_n | apply bw_p | apply bw_c | apply bw_r) | go_size))⟩
end Go.Proofs.Ytpoahdfhhnlghaa

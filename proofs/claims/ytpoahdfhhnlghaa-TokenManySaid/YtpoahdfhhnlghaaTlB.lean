/- The law TokenBack. -/
import Derived.Test.YtpoahdfhhnlghaaTlX
namespace Go.Proofs.Ytpoahdfhhnlghaa
set_option linter.unusedVariables false
set_option linter.unusedSimpArgs false
open Go.RowKit

theorem is_back {K : List Tk} (h : errT K = 0) : isT (toldX K) K = true := by
  obtain ⟨h1, h2⟩ := text_back h
  unfold isT toldX
  rw [if_pos h, h1, told_fine h1, h2]
  simp
theorem told_zero {s : List UInt8} (h : (faultT s).1 ≠ 0) : toldT s = [] := told_none h
theorem tx_len {K : List Tk} : (toldX K).length ≤ 200 := by
  unfold toldX
  by_cases h : errT K = 0
  · rw [if_pos h]; exact (err_none.1 h).2.2
  · rw [if_neg h]; exact Nat.zero_le _
theorem there_back {s : List UInt8} (h : (faultT s).1 = 0) (h2 : errT (toldT s) = 0) : toldT (toldX (toldT s)) = toldT s := by
  rw [told_fine h] at h2 ⊢
  obtain ⟨h3, h4⟩ := (line_back h).2 h2
  unfold toldX
  rw [if_pos h2, told_fine h3, h4]
theorem err_back {s : List UInt8} (h : (faultT s).1 = 0) : errT (toldT s) = 0 ∨ (errT (toldT s) = 3 ∧ 100 < s.length) := by
  rw [told_fine h]; exact (line_back h).1
set_option maxRecDepth 100000 in
set_option maxHeartbeats 4000000 in
theorem l_tokenBack (w : World) (a : Option Addr) (n cap : Nat) (K : List Tk) (h : TArg w a n cap K) (hn : n ≤ maxLen) (s : List UInt8) (hs : s.length ≤ 9223372036854775807) : Calls Try.prog 6 #[.slice a n cap, .string ⟨s.toArray⟩] w fun e w' => e = .returned (.bool true) ∧ Junk w w' := by
  have HA := Lib.hid l_tkAwake
  have HL := Lib.hid (fun W (h : TReads W a n K) => k_LongTokens W a n cap K h hn)
  have HR := Lib.hid h.reads
  cases hlong : longT K with
  | true =>
    rw [hlong] at HL
    clear hlong h hn
    go_enter Try.func6, Try.ntmps6
    go_wp2_with fail
    refine (HA.out _).mono ?_; rintro e w' ⟨rfl, J, d, rfl⟩
    go_wp2_with fail
    refine (HL.out _ (HR.out.below (by (repeat' first | with_reducible (first | apply Below.refl | assumption | apply bw_a | apply bw_d | apply bw_n | apply bw_p | apply bw_c | apply bw_r) | go_size)))).mono ?_; rintro e w' ⟨rfl, J2, d2, rfl⟩
    go_wp2
    go_ret
    exact ⟨rfl, junk_of_below (by (repeat' first | with_reducible (first | apply Below.refl | assumption | apply bw_a | apply bw_d | apply bw_n | apply bw_p | apply bw_c | apply bw_r) | go_size))⟩
  | false =>
    rw [hlong] at HL
    by_cases h1000 : 1000 < s.length
    · clear hlong h hn
      go_enter Try.func6, Try.ntmps6
      go_wp2_with fail
      refine (HA.out _).mono ?_; rintro e w' ⟨rfl, J, d, rfl⟩
      go_wp2_with fail
      refine (HL.out _ (HR.out.below (by (repeat' first | with_reducible (first | apply Below.refl | assumption | apply bw_a | apply bw_d | apply bw_n | apply bw_p | apply bw_c | apply bw_r) | go_size)))).mono ?_; rintro e w' ⟨rfl, J2, d2, rfl⟩
      go_wp2
      go_ret
      exact ⟨rfl, junk_of_below (by (repeat' first | with_reducible (first | apply Below.refl | assumption | apply bw_a | apply bw_d | apply bw_n | apply bw_p | apply bw_c | apply bw_r) | go_size))⟩
    obtain ⟨hshort, hk⟩ := long_no hlong
    have hkl : K.length = n := h.reads.1
    have HT1 := Lib.hid (fun W (h : TReads W a n K) => n_tkText W a n cap K h hshort (by omega))
    have HI := Lib.hid (fun W (h : TReads W a n K) => l_tkIs (toldX K) W (by have := tx_len (K := K); omega) a n cap K h (by omega))
    have HTS := Lib.hid (fun W => p_tkTokens s W (by omega))
    have hX40 := told_len s
    have HTX := Lib.hid (fun W a1 c1 (h : TReads W a1 (toldT s).length (toldT s)) => n_tkText W a1 (toldT s).length c1 (toldT s) h (told_short s) (by omega))
    have HTU := Lib.hid (fun W => p_tkTokens (toldX (toldT s)) W (by have := tx_len (K := toldT s); omega))
    have HZ := Lib.hid (fun (h : (faultT s).1 ≠ 0) => told_zero h)
    have HTB := Lib.hid (fun (h : (faultT s).1 = 0) => there_back h)
    have HEB := Lib.hid (fun (h : (faultT s).1 = 0) => err_back h)
    have HIB := Lib.hid (fun h => is_back (K := K) h)
    have HS := Lib.hid (fun W a1 a2 cap1 cap2 (m n : Nat) (hm : m ≤ 100) (hn : n ≤ 100) (h : TReads W a1 m (toldT s)) (h2 : TReads W a2 n (toldT s)) => (k_SameTokens W a1 a2 m n cap1 cap2 (toldT s) (toldT s) h h2 (by omega) (by omega)).mono fun e w' h => (⟨by rw [h.1, decide_eq_true rfl], h.2⟩ : e = .returned (.bool true) ∧ Junk W w'))
    unfold TxRes at HT1 HTX
    unfold TkP at HTS HTU
    generalize hU1 : toldX K = U1 at *
    generalize hU2 : toldX (toldT s) = U2 at *
    generalize hY : toldT U2 = Y at *
    generalize hX : toldT s = X at *
    generalize hisT : isT U1 K = b1 at *
    generalize errT K = f1 at *
    generalize errT X = f2 at *
    generalize (faultT s).1 = fs at *
    generalize ((faultT s).2 : Int) = gs at *
    generalize (faultT U2).1 = fu at *
    generalize ((faultT U2).2 : Int) = gu at *
    have hl : s.length ≤ 1000 := by omega
    clear hlong h hn hs h1000 hshort hk hkl hU1 hU2 hY hX hisT
    go_enter Try.func6, Try.ntmps6
    go_wp2_with fail
    refine (HA.out _).mono ?_; rintro e w0 ⟨rfl, hj⟩
    have HB0 := Lib.hid hj.below
    clear hj
    go_wp2_with fail
    refine (HL.out _ (HR.out.below HB0.out)).mono ?_; rintro e w1 ⟨rfl, hj⟩
    have HB1 := Lib.hid (bw_j HB0.out HB0.out.size hj)
    clear hj
    go_wp2_with fail
    refine (HT1.out _ (HR.out.below HB1.out)).mono ?_; rintro e w2 ⟨rfl, hj⟩
    have HB2 := Lib.hid (bw_j HB1.out HB1.out.size hj)
    clear hj
    by_cases e1 : f1 = 0
    · subst e1
      obtain rfl := HIB.out rfl
      go_wp2_with fail
      refine (HI.out _ (HR.out.below HB2.out)).mono ?_; rintro e w3 ⟨rfl, hj⟩
      have HB3 := Lib.hid (bw_j HB2.out HB2.out.size hj)
      clear hj
      go_wp2_with fail
      refine (HTS.out _).mono ?_; rintro e w4 ⟨a4, cap4, J4, d4, rfl, hw4, hR4, _, _⟩
      rw [← hw4] at hR4
      have HR4 := Lib.hid hR4
      have HB4 := Lib.hid (bw_j HB3.out HB3.out.size ⟨J4, d4, hw4⟩)
      have hs4 := HB4.out.size
      clear hR4 hw4
      by_cases e2 : fs = 0
      · subst e2
        have HTB2 := HTB.out rfl
        have HE2 := HEB.out rfl
        go_wp2_with fail
        refine (HTX.out _ _ _ (HR4.out.below (by (repeat' first | with_reducible (first | apply Below.refl | assumption | apply bw_a | apply bw_d | apply bw_n | apply bw_p | apply bw_c | apply bw_r) | go_size)))).mono ?_; rintro e w5 ⟨rfl, hj⟩
        have HB5 := Lib.hid (bw_j (a := w) (B := w.heap.size) (by have := HB4.out; (repeat' first | with_reducible (first | apply Below.refl | assumption | apply bw_a | apply bw_d | apply bw_n | apply bw_p | apply bw_c | apply bw_r) | go_size)) (by simp; omega) hj)
        have HR5 := Lib.hid (HR4.out.below (bw_j (by (repeat' first | with_reducible (first | apply Below.refl | assumption | apply bw_a | apply bw_d | apply bw_n | apply bw_p | apply bw_c | apply bw_r) | go_size)) (by simp) hj))
        have hs5 := HB5.out.size
        clear hj
        rcases HE2 with e3 | ⟨e3, e4⟩
        · subst e3
          obtain rfl := HTB2 rfl
          go_wp2_with fail
          refine (HTU.out _).mono ?_; rintro e w6 ⟨a6, cap6, J6, d6, rfl, hw6, hR6, _, _⟩
          rw [← hw6] at hR6
          have HR6 := Lib.hid hR6
          have HB6 := Lib.hid (bw_j HB5.out HB5.out.size ⟨J6, d6, hw6⟩)
          have HR56 := Lib.hid (HR5.out.below (Junk.below ⟨J6, d6, hw6⟩))
          have hs6 := HB6.out.size
          clear hR6 hw6
          go_wp2_with fail
          refine (HTX.out _ _ _ (HR6.out.below (by (repeat' first | with_reducible (first | apply Below.refl | assumption | apply bw_a | apply bw_d | apply bw_n | apply bw_p | apply bw_c | apply bw_r) | go_size)))).mono ?_; rintro e w7 ⟨rfl, J7, d7, rfl⟩
          go_wp2_with fail
          refine (HS.out _ _ _ _ _ _ _ (by omega) (by omega) (HR56.out.below (by (repeat' first | with_reducible (first | apply Below.refl | assumption | apply bw_a | apply bw_d | apply bw_n | apply bw_p | apply bw_c | apply bw_r) | go_size))) (HR6.out.below (by (repeat' first | with_reducible (first | apply Below.refl | assumption | apply bw_a | apply bw_d | apply bw_n | apply bw_p | apply bw_c | apply bw_r) | go_size)))).mono ?_; rintro e w' ⟨rfl, J8, d8, rfl⟩
          go_wp2
          go_ret
          exact ⟨rfl, junk_of_below (by have := HB6.out; (repeat' first | with_reducible (first | apply Below.refl | assumption | apply bw_a | apply bw_d | apply bw_n | apply bw_p | apply bw_c | apply bw_r) | go_size))⟩
        · subst e3
          have e5 : (100 : Int) < (s.length : Int) := by omega
          clear HTB2
          go_wp2
          go_ret
          exact ⟨by simp, junk_of_below (by have := HB5.out; (repeat' first | with_reducible (first | apply Below.refl | assumption | apply bw_a | apply bw_d | apply bw_n | apply bw_p | apply bw_c | apply bw_r) | go_size))⟩
      · obtain rfl := HZ.out e2
        have n2 : (fs != 0) = true := bne_iff_ne.2 e2
        clear e2
        go_wp2
        go_ret
        exact ⟨rfl, junk_of_below (by have := HB4.out; (repeat' first | with_reducible (first | apply Below.refl | assumption | apply bw_a | apply bw_d | apply bw_n | apply bw_p | apply bw_c | apply bw_r) | go_size))⟩
    · have n1 : (f1 == 0) = false := by rw [beq_eq_false_iff_ne]; exact e1
      clear e1
      go_wp2_with fail
      refine (HTS.out _).mono ?_; rintro e w4 ⟨a4, cap4, J4, d4, rfl, hw4, hR4, _, _⟩
      rw [← hw4] at hR4
      have HR4 := Lib.hid hR4
      have HB4 := Lib.hid (bw_j HB2.out HB2.out.size ⟨J4, d4, hw4⟩)
      have hs4 := HB4.out.size
      clear hR4 hw4
      by_cases e2 : fs = 0
      · subst e2
        have HTB2 := HTB.out rfl
        have HE2 := HEB.out rfl
        go_wp2_with fail
        refine (HTX.out _ _ _ (HR4.out.below (by (repeat' first | with_reducible (first | apply Below.refl | assumption | apply bw_a | apply bw_d | apply bw_n | apply bw_p | apply bw_c | apply bw_r) | go_size)))).mono ?_; rintro e w5 ⟨rfl, hj⟩
        have HB5 := Lib.hid (bw_j (a := w) (B := w.heap.size) (by have := HB4.out; (repeat' first | with_reducible (first | apply Below.refl | assumption | apply bw_a | apply bw_d | apply bw_n | apply bw_p | apply bw_c | apply bw_r) | go_size)) (by simp; omega) hj)
        have HR5 := Lib.hid (HR4.out.below (bw_j (by (repeat' first | with_reducible (first | apply Below.refl | assumption | apply bw_a | apply bw_d | apply bw_n | apply bw_p | apply bw_c | apply bw_r) | go_size)) (by simp) hj))
        have hs5 := HB5.out.size
        clear hj
        rcases HE2 with e3 | ⟨e3, e4⟩
        · subst e3
          obtain rfl := HTB2 rfl
          go_wp2_with fail
          refine (HTU.out _).mono ?_; rintro e w6 ⟨a6, cap6, J6, d6, rfl, hw6, hR6, _, _⟩
          rw [← hw6] at hR6
          have HR6 := Lib.hid hR6
          have HB6 := Lib.hid (bw_j HB5.out HB5.out.size ⟨J6, d6, hw6⟩)
          have HR56 := Lib.hid (HR5.out.below (Junk.below ⟨J6, d6, hw6⟩))
          have hs6 := HB6.out.size
          clear hR6 hw6
          go_wp2_with fail
          refine (HTX.out _ _ _ (HR6.out.below (by (repeat' first | with_reducible (first | apply Below.refl | assumption | apply bw_a | apply bw_d | apply bw_n | apply bw_p | apply bw_c | apply bw_r) | go_size)))).mono ?_; rintro e w7 ⟨rfl, J7, d7, rfl⟩
          go_wp2_with fail
          refine (HS.out _ _ _ _ _ _ _ (by omega) (by omega) (HR56.out.below (by (repeat' first | with_reducible (first | apply Below.refl | assumption | apply bw_a | apply bw_d | apply bw_n | apply bw_p | apply bw_c | apply bw_r) | go_size))) (HR6.out.below (by (repeat' first | with_reducible (first | apply Below.refl | assumption | apply bw_a | apply bw_d | apply bw_n | apply bw_p | apply bw_c | apply bw_r) | go_size)))).mono ?_; rintro e w' ⟨rfl, J8, d8, rfl⟩
          go_wp2
          go_ret
          exact ⟨rfl, junk_of_below (by have := HB6.out; (repeat' first | with_reducible (first | apply Below.refl | assumption | apply bw_a | apply bw_d | apply bw_n | apply bw_p | apply bw_c | apply bw_r) | go_size))⟩
        · subst e3
          have e5 : (100 : Int) < (s.length : Int) := by omega
          clear HTB2
          go_wp2
          go_ret
          exact ⟨by simp, junk_of_below (by have := HB5.out; (repeat' first | with_reducible (first | apply Below.refl | assumption | apply bw_a | apply bw_d | apply bw_n | apply bw_p | apply bw_c | apply bw_r) | go_size))⟩
      · obtain rfl := HZ.out e2
        have n2 : (fs != 0) = true := bne_iff_ne.2 e2
        clear e2
        go_wp2
        go_ret
        exact ⟨rfl, junk_of_below (by have := HB4.out; (repeat' first | with_reducible (first | apply Below.refl | assumption | apply bw_a | apply bw_d | apply bw_n | apply bw_p | apply bw_c | apply bw_r) | go_size))⟩
end Go.Proofs.Ytpoahdfhhnlghaa

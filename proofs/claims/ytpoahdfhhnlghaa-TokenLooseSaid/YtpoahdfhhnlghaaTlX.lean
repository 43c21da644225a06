/- The law TokenTexts. -/
import Derived.Test.YtpoahdfhhnlghaaTlP
namespace Go.Proofs.Ytpoahdfhhnlghaa
set_option linter.unusedVariables false
set_option linter.unusedSimpArgs false
open Go.RowKit

/-- A slice of tokens that came in. -/
structure TArg (w : World) (a : Option Addr) (n cap : Nat) (K : List Tk) : Prop where
  reads : TReads w a n K
  none : a = none → n = 0 ∧ cap = 0
theorem long_no {K : List Tk} (h : longT K = false) : ShortT K ∧ K.length ≤ 60 := by
  unfold longT at h
  rw [Bool.or_eq_false_iff, List.any_eq_false, decide_eq_false_iff_not] at h
  refine ⟨fun t ht => ?_, by omega⟩
  have := h.1 t ht
  simp at this
  omega
set_option maxRecDepth 100000 in
set_option maxHeartbeats 4000000 in
theorem l_tokenTexts (w : World) (a : Option Addr) (n cap : Nat) (K : List Tk) (h : TArg w a n cap K) (hn : n ≤ maxLen) : Calls Try.prog 4 #[.slice a n cap] w fun e w' => e = .returned (.bool true) ∧ Junk w w' := by
  have HL := Lib.hid (k_LongTokens w a n cap K h.reads hn)
  cases hlong : longT K with
  | true =>
    rw [hlong] at HL
    clear hlong h hn
    go_enter Try.func4, Try.ntmps4
    go_wp2_with fail
    refine HL.out.mono ?_; rintro e w' ⟨rfl, J, d, rfl⟩
    go_wp2
    go_ret
    exact ⟨rfl, junk_of_below (by (repeat' first | with_reducible (first | apply Below.refl | assumption | apply bw_a | apply bw_d | apply bw_n | apply bw_p | apply bw_c | apply bw_r) | go_size))⟩
  | false =>
    rw [hlong] at HL
    obtain ⟨hs, hk⟩ := long_no hlong
    have hkl : K.length = n := h.reads.1
    have HA := Lib.hid l_tkAwake
    have HR := Lib.hid h.reads
    have HN := Lib.hid h.none
    have HX := Lib.hid (fun W a1 n1 c1 (h : TReads W a1 n1 K) (h1 : n1 ≤ 60) => n_tkText W a1 n1 c1 K h hs (by omega))
    have HY := Lib.hid (fun W (h : TReads W a n K) => r_tkText W a n cap K h hs hn)
    unfold TxRes at HX HY
    have HS := Lib.hid (fun W a1 a2 cap1 cap2 (m n : Nat) (hm : m ≤ 100) (hn : n ≤ 100) (h : TReads W a1 m K) (h2 : TReads W a2 n K) => (k_SameTokens W a1 a2 m n cap1 cap2 K K h h2 (by omega) (by omega)).mono fun e w' h => (⟨by rw [h.1, decide_eq_true rfl], h.2⟩ : e = .returned (.bool true) ∧ Junk W w'))
    generalize toldX K = U at *
    generalize errT K = f at *
    have hn60 : n ≤ 60 := by omega
    have HKL := Lib.hid hkl
    clear hlong h hn hs hk hkl
    go_enter Try.func4, Try.ntmps4
    go_wp2_with fail
    refine HL.out.mono ?_; rintro e w1 ⟨rfl, hj⟩
    have HB := Lib.hid hj.below
    have HR1 := Lib.hid (HR.out.below hj.below)
    have hws := hj.below.size
    clear hj
    go_wp2_with (first
      | (at_builtin; refine wpList_tapp rfl (.tmp 10) (.tmp 11) rfl w1.heap.size _ [] rfl (towns_at w1 _ (by simp) w1.heap.size (by first | omega | (simp; omega))) a n cap K rfl HN.out (HR1.out.below (by (repeat' first | with_reducible (first | apply Below.refl | assumption | apply bw_a | apply bw_d | apply bw_n | apply bw_p | apply bw_c | apply bw_r) | go_size))) (by first | omega | (simp; omega)) (by simp) ?_; intro v4 w4 hown4 hg4; rw [List.nil_append] at hown4; obtain ⟨a4, cap4, rfl, hR4, _⟩ := treads_of_owns hown4; have HR4 := Lib.hid hR4; have HB4 := Lib.hid (show Below w1.heap.size w1 w4 from Below.grown (by (repeat' first | with_reducible (first | apply Below.refl | assumption | apply bw_a | apply bw_d | apply bw_n | apply bw_p | apply bw_c | apply bw_r) | go_size)) hg4 (by simp) (fun k hk => by have hk : some (w1.heap.size) = some k := hk; injection hk with hk; omega)); have hs4 := HB4.out.size; clear hown4 hg4 hR4)
      | fail)
    have hk60 : K.length ≤ 60 := by have := HKL.out; omega
    refine (HX.out _ _ _ _ HR4.out hk60).mono ?_; rintro e w' ⟨rfl, J5, d5, rfl⟩
    go_wp2_with fail
    refine (HY.out _ (HR1.out.below (by have := HB4.out; (repeat' first | with_reducible (first | apply Below.refl | assumption | apply bw_a | apply bw_d | apply bw_n | apply bw_p | apply bw_c | apply bw_r) | go_size)))).mono ?_; rintro e w' ⟨rfl, J6, d6, rfl⟩
    go_wp2_with fail
    refine (HS.out _ _ _ _ _ _ _ (by omega) (by omega) (HR4.out.below (by (repeat' first | with_reducible (first | apply Below.refl | assumption | apply bw_a | apply bw_d | apply bw_n | apply bw_p | apply bw_c | apply bw_r) | go_size))) (HR1.out.below (by have := HB4.out; (repeat' first | with_reducible (first | apply Below.refl | assumption | apply bw_a | apply bw_d | apply bw_n | apply bw_p | apply bw_c | apply bw_r) | go_size)))).mono ?_; rintro e w' ⟨rfl, J7, d7, rfl⟩
    go_wp2_with fail
    refine (HA.out _).mono ?_; rintro e w' ⟨rfl, J8, d8, rfl⟩
    go_wp2
    go_ret
    exact ⟨rfl, junk_of_below (by have := HB.out.trans (HB4.out.mono hws); have := this.size; (repeat' first | with_reducible (first | apply Below.refl | assumption | apply bw_a | apply bw_d | apply bw_n | apply bw_p | apply bw_c | apply bw_r) | go_size))⟩
end Go.Proofs.Ytpoahdfhhnlghaa

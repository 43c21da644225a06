/- The law TokenKnown. -/
import Derived.Test.YtpoahdfhhnlghaaTlA
namespace Go.Proofs.Ytpoahdfhhnlghaa
set_option linter.unusedVariables false
set_option linter.unusedSimpArgs false
open Go.RowKit

def kA : List Tk := [(1, [97])]
def kB : List Tk := [(1, [65, 32, 66])]
def kC : List Tk := [(3, [49, 50, 45, 49, 47, 50]), (1, [79, 39, 78, 69, 73, 76, 39, 83])]
def kD : List Tk := [(1, [65]), (1, [66])]
def kE : List Tk := [(3, [49, 83, 84])]
theorem kn_fault : faultT [97, 10] = (4, 1) := by decide +kernel
theorem kn_told : toldT [97, 10] = [] := by decide +kernel
theorem kn_a : errT kA = 2 := by decide +kernel
theorem kn_b : errT kB = 2 := by decide +kernel
theorem kn_c : isT [49, 50, 45, 49, 47, 50, 32, 111, 39, 110, 101, 105, 108, 39, 115] kC = true := by decide +kernel
theorem kn_d : isT [45, 97, 46, 46, 98, 45] kD = true := by decide +kernel
theorem kn_e : isT [49, 115, 116] kE = true := by decide +kernel
theorem kn_text {K : List Tk} (he : errT K = 2) (W : World) (n m : Nat) (h : TReads W (some ⟨n, 0, none⟩) m K) (hs : ShortT K) (hm : m ≤ 100) :
    Calls Try.prog 18 #[.slice (some ⟨n, 0, none⟩) m m] W fun e w' => e = .returned (.tuple #[.string ⟨#[]⟩, .int .i64 2]) ∧ Junk W w' :=
  (n_tkText W _ m m K h hs (by omega)).mono fun e w' (h : TxRes K W e w') => ⟨by rw [h.1, toldX, he, if_neg (by decide)], h.2⟩
theorem kn_is {s : List UInt8} {K : List Tk} (he : isT s K = true) (hl : s.length ≤ 1000) (W : World) (n m : Nat) (h : TReads W (some ⟨n, 0, none⟩) m K) (hm : m ≤ 100) :
    Calls Try.prog 21 #[.string ⟨s.toArray⟩, .slice (some ⟨n, 0, none⟩) m m] W fun e w' => e = .returned (.bool true) ∧ Junk W w' :=
  (l_tkIs s W (by omega) _ m m K h (by omega)).mono fun e w' h => ⟨by rw [h.1, he], h.2⟩
theorem full_at (W : World) (K : List Tk) (n : Nat) (hn : n = W.heap.size) (hk : K.length ≤ 1000) : TReads (W.alloc (.cells (tcells K).toArray 31)) (some ⟨n, 0, none⟩) K.length K := by subst hn; exact treads_full W K hk
theorem short_lit {K : List Tk} (h : K.all (fun t => decide (t.2.length ≤ 1000000)) = true) : ShortT K := fun t ht => of_decide_eq_true (List.all_eq_true.1 h t ht)
theorem bw_j {B : Nat} {a w w' : World} (h : Below B a w) (hB : B ≤ w.heap.size) (hj : Junk w w') : Below B a w' := h.trans (hj.below.mono hB)
/-- A fault as it lies in its block. -/
def FlA (g : Nat) (e a : Int) (W : World) : Prop := W.cell? ⟨g, 0, none⟩ = some (.int .i64 e) ∧ W.cell? ⟨g, 1, none⟩ = some (.int .i64 a) ∧ g < W.heap.size
theorem FlA.below {g : Nat} {e a : Int} {W W' : World} (h : FlA g e a W) (hb : Below W.heap.size W W') : FlA g e a W' := by
  obtain ⟨h1, h2, h3⟩ := h
  have hk := hb.block g h3
  exact ⟨(World.cell?_of_block hk).trans h1, (World.cell?_of_block hk).trans h2, Nat.lt_of_lt_of_le h3 hb.size⟩
theorem fla_new (W : World) (n : Nat) (hn : n = W.heap.size) (e a : Int) : FlA n e a (W.alloc (.cells #[.int .i64 e, .int .i64 a] 25)) := by
  subst hn
  have h := rowAt_alloc_at W #[.int .i64 e, .int .i64 a] 25 W.heap.size rfl
  exact ⟨ucell_of_row h 0, ucell_of_row h 1, by simp⟩
set_option maxRecDepth 100000 in
set_option maxHeartbeats 2000000 in
theorem l_tokenKnown (w : World) : Calls Try.prog 10 #[] w fun e w' => e = .returned (.bool true) ∧ Junk w w' := by
  have HT := Lib.hid (fun W => (p_tkTokens [97, 10] W (by decide)).mono fun e w' (h : TkP [97, 10] W e w') => (by
    obtain ⟨a, cap, J, d, h1, h2, _⟩ := h
    rw [kn_fault, kn_told] at h1
    exact ⟨a, cap, J, d, h1, h2⟩ : ∃ a cap J d, e = .returned (.tuple #[.slice a 0 cap, .agg #[.int .i64 4, .int .i64 1]]) ∧ w' = W.plus J d))
  have HW := Lib.hid l_tkWord
  have HM := Lib.hid l_tkMixed
  have HA := Lib.hid l_tkAwake
  have HX1 := Lib.hid (fun W n h => kn_text kn_a W n 1 h (short_lit rfl) (by omega))
  have HX2 := Lib.hid (fun W n h => kn_text kn_b W n 1 h (short_lit rfl) (by omega))
  have HI1 := Lib.hid (fun W n h => kn_is kn_c (by decide) W n 2 h (by omega))
  have HI2 := Lib.hid (fun W n h => kn_is kn_d (by decide) W n 2 h (by omega))
  have HI3 := Lib.hid (fun W n h => kn_is kn_e (by decide) W n 1 h (by omega))
  have FA := Lib.hid (fun W n hn => full_at W kA n hn (by decide))
  have FB := Lib.hid (fun W n hn => full_at W kB n hn (by decide))
  have FC := Lib.hid (fun W n hn => full_at W kC n hn (by decide))
  have FD := Lib.hid (fun W n hn => full_at W kD n hn (by decide))
  have FE := Lib.hid (fun W n hn => full_at W kE n hn (by decide))
  go_enter Try.func10, Try.ntmps10
  go_wp2_with fail
  refine (HT.out _).mono ?_; rintro e w' ⟨a, cap, J, d, rfl, rfl⟩
  go_wp2_with fail
  have F0 := fla_new (w.plus J d) (w.heap.size + J.size) (by simp) 4 1
  have hb0 : Below w.heap.size w ((w.plus J d).alloc (.cells #[.int .i64 4, .int .i64 1] 25)) := by (repeat' first | with_reducible (first | apply Below.refl | assumption | apply bw_a | apply bw_d | apply bw_n | apply bw_p | apply bw_c | apply bw_r) | go_size)
  generalize (w.plus J d).alloc (.cells #[.int .i64 4, .int .i64 1] 25) = W0 at *
  generalize w.heap.size + J.size = g at *
  have F0 := Lib.hid F0
  have HB0 := Lib.hid hb0
  clear hb0
  refine (HW.out _ _).mono ?_; rintro e w' ⟨rfl, JHW0_4934, d_4934, rfl⟩
  go_wp2_with fail
  refine (HX1.out _ _ (FA.out _ _ (by simp))).mono ?_; rintro e W1 ⟨rfl, hj⟩
  have F1 := Lib.hid (F0.out.below (bw_j (by (repeat' first | with_reducible (first | apply Below.refl | assumption | apply bw_a | apply bw_d | apply bw_n | apply bw_p | apply bw_c | apply bw_r) | go_size)) (by simp; omega) hj))
  have HB1 := Lib.hid (bw_j (a := w) (B := w.heap.size) (by have := HB0.out; have := HB0.out.size; (repeat' first | with_reducible (first | apply Below.refl | assumption | apply bw_a | apply bw_d | apply bw_n | apply bw_p | apply bw_c | apply bw_r) | go_size)) (by have := HB0.out.size; simp; omega) hj)
  clear hj F0 HB0
  go_wp2_with fail
  refine (HW.out _ _).mono ?_; rintro e w' ⟨rfl, JHW1_5367, d_5367, rfl⟩
  go_wp2_with fail
  refine (HX2.out _ _ (FB.out _ _ (by simp))).mono ?_; rintro e W2 ⟨rfl, hj⟩
  have F2 := Lib.hid (F1.out.below (bw_j (by (repeat' first | with_reducible (first | apply Below.refl | assumption | apply bw_a | apply bw_d | apply bw_n | apply bw_p | apply bw_c | apply bw_r) | go_size)) (by simp; omega) hj))
  have HB2 := Lib.hid (bw_j (a := w) (B := w.heap.size) (by have := HB1.out; have := HB1.out.size; (repeat' first | with_reducible (first | apply Below.refl | assumption | apply bw_a | apply bw_d | apply bw_n | apply bw_p | apply bw_c | apply bw_r) | go_size)) (by have := HB1.out.size; simp; omega) hj)
  clear hj F1 HB1
  go_wp2_with fail
  refine (HA.out _).mono ?_; rintro e w' ⟨rfl, J5, d5, rfl⟩
  go_wp2_with fail
  refine (HM.out _ _).mono ?_; rintro e w' ⟨rfl, JHM2_5879, d_5879, rfl⟩
  go_wp2_with fail
  refine (HW.out _ _).mono ?_; rintro e w' ⟨rfl, JHW2_5971, d_5971, rfl⟩
  go_wp2_with fail
  refine (HI1.out _ _ (FC.out _ _ (by simp))).mono ?_; rintro e W3 ⟨rfl, hj⟩
  have F3 := Lib.hid (F2.out.below (bw_j (by (repeat' first | with_reducible (first | apply Below.refl | assumption | apply bw_a | apply bw_d | apply bw_n | apply bw_p | apply bw_c | apply bw_r) | go_size)) (by simp; omega) hj))
  have HB3 := Lib.hid (bw_j (a := w) (B := w.heap.size) (by have := HB2.out; have := HB2.out.size; (repeat' first | with_reducible (first | apply Below.refl | assumption | apply bw_a | apply bw_d | apply bw_n | apply bw_p | apply bw_c | apply bw_r) | go_size)) (by have := HB2.out.size; simp; omega) hj)
  clear hj F2 HB2
  go_wp2_with fail
  refine (HW.out _ _).mono ?_; rintro e w' ⟨rfl, JHW3_6404, d_6404, rfl⟩
  go_wp2_with fail
  refine (HW.out _ _).mono ?_; rintro e w' ⟨rfl, JHW3_6496, d_6496, rfl⟩
  go_wp2_with fail
  refine (HI2.out _ _ (FD.out _ _ (by simp))).mono ?_; rintro e W4 ⟨rfl, hj⟩
  have F4 := Lib.hid (F3.out.below (bw_j (by (repeat' first | with_reducible (first | apply Below.refl | assumption | apply bw_a | apply bw_d | apply bw_n | apply bw_p | apply bw_c | apply bw_r) | go_size)) (by simp; omega) hj))
  have HB4 := Lib.hid (bw_j (a := w) (B := w.heap.size) (by have := HB3.out; have := HB3.out.size; (repeat' first | with_reducible (first | apply Below.refl | assumption | apply bw_a | apply bw_d | apply bw_n | apply bw_p | apply bw_c | apply bw_r) | go_size)) (by have := HB3.out.size; simp; omega) hj)
  clear hj F3 HB3
  go_wp2_with fail
  refine (HM.out _ _).mono ?_; rintro e w' ⟨rfl, JHM4_6929, d_6929, rfl⟩
  go_wp2_with fail
  refine (HI3.out _ _ (FE.out _ _ (by simp))).mono ?_; rintro e W5 ⟨rfl, hj⟩
  have F5 := Lib.hid (F4.out.below (bw_j (by (repeat' first | with_reducible (first | apply Below.refl | assumption | apply bw_a | apply bw_d | apply bw_n | apply bw_p | apply bw_c | apply bw_r) | go_size)) (by simp; omega) hj))
  have HB5 := Lib.hid (bw_j (a := w) (B := w.heap.size) (by have := HB4.out; have := HB4.out.size; (repeat' first | with_reducible (first | apply Below.refl | assumption | apply bw_a | apply bw_d | apply bw_n | apply bw_p | apply bw_c | apply bw_r) | go_size)) (by have := HB4.out.size; simp; omega) hj)
  clear hj F4 HB4
  obtain ⟨f0, f1, _⟩ := F5.out
  go_wp2
  go_ret
  exact ⟨rfl, junk_of_below HB5.out⟩
end Go.Proofs.Ytpoahdfhhnlghaa

/- The law WordsKnown. -/
import Derived.Test.YtngjkmjejijfiaaDoorWdF
namespace Go.Proofs.YtngjkmjejijfiaaDoor
set_option linter.unusedVariables false
set_option linter.unusedSimpArgs false
open Go.RowKit

theorem allk {kd : Int} {K : List Tx} (h : allW (wdT kd) = K) (W : World) (ht : LdW W) : Calls Tryd.prog 12 #[.int .i64 kd] W fun e w' => ∃ a cap, e = .returned (.slice a K.length cap) ∧ SFull w' W.heap.size (.slice a K.length cap) K ∧ Junk W w' := by
  subst h
  exact allat W ht
def kn2 : List Tx := [[69], [78], [78, 69], [78, 87], [83], [83, 69], [83, 87], [87]]
def kn4 : List Tx := [[65, 80, 84], [66, 76, 68, 71], [70, 76], [82, 77], [83, 84, 69], [85, 78, 73, 84]]
theorem all_2 : allW (wdT 2) = kn2 := by decide +kernel
theorem all_4 : allW (wdT 4) = kn4 := by decide +kernel
theorem all_5 : allW (wdT 5) = [] := by decide +kernel
theorem tk_1 : tellS (wdT 1) [83, 84] = ([83, 84], true) := by decide +kernel
theorem tk_2 : tellS (wdT 1) [115, 116, 114, 101, 101, 116] = ([], false) := by decide +kernel
theorem tk_3 : tellS (wdT 3) [83, 84] = ([], false) := by decide +kernel
theorem tk_4 : tellL (wdT 3) [78, 69, 87, 32, 89, 79, 82, 75] = ([], false) := by decide +kernel
theorem tk_5 : tellS (wdT 3) [78, 69, 87, 32, 89, 79, 82, 75] = ([78, 89], true) := by decide +kernel
theorem sfull_at (W : World) (K : List Tx) (n : Nat) (hn : n = W.heap.size) (hk : K.length ≤ 1000) : SReads (W.alloc (.cells (scells K).toArray 9)) (some ⟨n, 0, none⟩) K.length K := by subst hn; exact sreads_full W K hk
set_option maxRecDepth 100000 in
set_option maxHeartbeats 2000000 in
theorem l_wordsKnown (w : World) (ht : LdW w) : Calls Tryd.prog 7 #[] w fun e w' => e = .returned (.bool true) ∧ Below w.heap.size w w' := by
  have HA := Lib.hid l_wdAwake
  have H1 := Lib.hid (shortAt tk_1 (by decide))
  have H2 := Lib.hid (shortAt tk_2 (by decide))
  have H3 := Lib.hid (shortAt tk_3 (by decide))
  have H4 := Lib.hid (longAt tk_4 (by decide))
  have H5 := Lib.hid (shortAt tk_5 (by decide))
  have A2 := Lib.hid (allk all_2)
  have A4 := Lib.hid (allk all_4)
  have A5 := Lib.hid (allk all_5)
  have F2 := Lib.hid (fun W n hn => sfull_at W kn2 n hn (by decide))
  have F4 := Lib.hid (fun W n hn => sfull_at W kn4 n hn (by decide))
  have E2 := Lib.hid (fun W a1 a2 c1 c2 h1 h2 => same_at (W := W) (K := kn2) (a1 := a1) (a2 := a2) (c1 := c1) (c2 := c2) (by decide) h1 h2)
  have E4 := Lib.hid (fun W a1 a2 c1 c2 h1 h2 => same_at (W := W) (K := kn4) (a1 := a1) (a2 := a2) (c1 := c1) (c2 := c2) (by decide) h1 h2)
  have HT := Lib.hid ht
  clear ht
  go_enter Tryd.func7, Tryd.ntmps7
  go_wp2_with fail
  refine (H1.out _ (HT.out.below (by (repeat' first | with_reducible (first | apply Below.refl | assumption | apply bw_a | apply bw_d | apply bw_n | apply bw_p | apply bw_c | apply bw_r) | go_size)))).mono ?_; rintro e w' ⟨rfl, J1, d1, rfl⟩
  go_wp2_with fail
  refine (H2.out _ (HT.out.below (by (repeat' first | with_reducible (first | apply Below.refl | assumption | apply bw_a | apply bw_d | apply bw_n | apply bw_p | apply bw_c | apply bw_r) | go_size)))).mono ?_; rintro e w' ⟨rfl, J2, d2, rfl⟩
  go_wp2_with fail
  refine (H3.out _ (HT.out.below (by (repeat' first | with_reducible (first | apply Below.refl | assumption | apply bw_a | apply bw_d | apply bw_n | apply bw_p | apply bw_c | apply bw_r) | go_size)))).mono ?_; rintro e w' ⟨rfl, J3, d3, rfl⟩
  go_wp2_with fail
  refine (H4.out _ (HT.out.below (by (repeat' first | with_reducible (first | apply Below.refl | assumption | apply bw_a | apply bw_d | apply bw_n | apply bw_p | apply bw_c | apply bw_r) | go_size)))).mono ?_; rintro e w' ⟨rfl, J4, d4, rfl⟩
  go_wp2_with fail
  refine (H5.out _ (HT.out.below (by (repeat' first | with_reducible (first | apply Below.refl | assumption | apply bw_a | apply bw_d | apply bw_n | apply bw_p | apply bw_c | apply bw_r) | go_size)))).mono ?_; rintro e w' ⟨rfl, J5, d5, rfl⟩
  go_wp2_with fail
  refine (HA.out _ (HT.out.below (by (repeat' first | with_reducible (first | apply Below.refl | assumption | apply bw_a | apply bw_d | apply bw_n | apply bw_p | apply bw_c | apply bw_r) | go_size)))).mono ?_; rintro e w' ⟨rfl, J6, d6, rfl⟩
  go_wp2_with fail
  have HB6 := Lib.hid (show Below w.heap.size w (w.plus (J1 ++ (J2 ++ (J3 ++ (J4 ++ (J5 ++ J6))))) d6) by (repeat' first | with_reducible (first | apply Below.refl | assumption | apply bw_a | apply bw_d | apply bw_n | apply bw_p | apply bw_c | apply bw_r) | go_size))
  generalize w.plus (J1 ++ (J2 ++ (J3 ++ (J4 ++ (J5 ++ J6))))) d6 = W6 at *
  have s6 := HB6.out.size
  refine (A4.out _ (HT.out.below HB6.out)).mono ?_; rintro e W7 ⟨a7, c7, rfl, hv7, hj7⟩
  have HB7 := Lib.hid (bw_k HB6.out s6 hj7)
  have s7 := hj7.below.size
  have HV7 := Lib.hid hv7
  clear hj7 hv7
  go_wp2_with fail
  have HB8 := Lib.hid (show Below W7.heap.size W7 (W7.alloc (.cells (scells kn4).toArray 9)) by (repeat' first | with_reducible (first | apply Below.refl | assumption | apply bw_a | apply bw_d | apply bw_n | apply bw_p | apply bw_c | apply bw_r) | go_size))
  have HF8 := Lib.hid (F4.out W7 _ rfl)
  have s8 : (W7.alloc (.cells (scells kn4).toArray 9)).heap.size = W7.heap.size + 1 := by simp
  change Calls _ _ _ (W7.alloc (.cells (scells kn4).toArray 9)) _
  generalize W7.alloc (.cells (scells kn4).toArray 9) = W8 at *
  refine (E4.out _ _ _ _ _ (sreads_of_slice (HV7.out.below HB8.out).1) HF8.out).mono ?_; rintro e W9 ⟨rfl, hj9⟩
  have HB9 := Lib.hid (bw_k (HB7.out.trans (HB8.out.mono (by omega))) (by omega) hj9)
  have s9 := hj9.below.size
  clear hj9
  go_wp2_with fail
  refine (A2.out _ (HT.out.below HB9.out)).mono ?_; rintro e W10 ⟨a10, c10, rfl, hv10, hj10⟩
  have HB10 := Lib.hid (bw_k HB9.out (by omega) hj10)
  have s10 := hj10.below.size
  have HV10 := Lib.hid hv10
  clear hj10 hv10
  go_wp2_with fail
  have HB11 := Lib.hid (show Below W10.heap.size W10 (W10.alloc (.cells (scells kn2).toArray 9)) by (repeat' first | with_reducible (first | apply Below.refl | assumption | apply bw_a | apply bw_d | apply bw_n | apply bw_p | apply bw_c | apply bw_r) | go_size))
  have HF11 := Lib.hid (F2.out W10 _ rfl)
  have s11 : (W10.alloc (.cells (scells kn2).toArray 9)).heap.size = W10.heap.size + 1 := by simp
  change Calls _ _ _ (W10.alloc (.cells (scells kn2).toArray 9)) _
  generalize W10.alloc (.cells (scells kn2).toArray 9) = W11 at *
  refine (E2.out _ _ _ _ _ (sreads_of_slice (HV10.out.below HB11.out).1) HF11.out).mono ?_; rintro e W12 ⟨rfl, hj12⟩
  have HB12 := Lib.hid (bw_k (HB10.out.trans (HB11.out.mono (by omega))) (by omega) hj12)
  have s12 := hj12.below.size
  clear hj12
  go_wp2_with fail
  refine (A5.out _ (HT.out.below HB12.out)).mono ?_; rintro e W13 ⟨a13, c13, rfl, hv13, hj13⟩
  have HB13 := Lib.hid (bw_k HB12.out (by omega) hj13)
  clear hj13 hv13
  go_wp2
  go_ret
  exact ⟨rfl, HB13.out⟩
end Go.Proofs.YtngjkmjejijfiaaDoor

/- The law WordsTells. -/
import Derived.Test.YtngjkmjejijfiaaDoorWdE
namespace Go.Proofs.YtngjkmjejijfiaaDoor
set_option linter.unusedVariables false
set_option linter.unusedSimpArgs false
open Go.RowKit

theorem sowns_only {w w' : World} {base : Nat} {v u : Value} {K : List Tx} (h : SOwns w base u K) (ho : OnlyS v w w') (hne : ∀ k, u.ownBlock = some k → v.ownBlock ≠ some k) : SOwns w' base u K := by
  obtain ⟨h1, h⟩ := h
  refine ⟨h1, ?_⟩
  rcases h with h | ⟨g, cap, cur, hv, hg, hc, h4, h5, h6, h7⟩
  · exact .inl h
  · exact .inr ⟨g, cap, cur, hv, hg, by rw [ho.block g (hne g (by rw [hv]; rfl))]; exact hc, h4, h5, h6, h7⟩
theorem allat {kd : Int} (W : World) (ht : LdW W) : Calls Tryd.prog 12 #[.int .i64 kd] W fun e w' => ∃ a cap, e = .returned (.slice a (allW (wdT kd)).length cap) ∧ SFull w' W.heap.size (.slice a (allW (wdT kd)).length cap) (allW (wdT kd)) ∧ Junk W w' :=
  (n_wdAll kd W ht).mono fun e w' (h : AllRes _ W e w') => by
    obtain ⟨v, rfl, hv, hj⟩ := h
    obtain ⟨a, cap, rfl, _, _⟩ := sreads_of_owns hv.1
    exact ⟨a, cap, rfl, hv, hj⟩
theorem rallat {kd : Int} (W : World) : Calls Tryd.prog 13 #[.int .i64 kd] W fun e w' => ∃ a cap, e = .returned (.slice a (allW (wdT kd)).length cap) ∧ SFull w' W.heap.size (.slice a (allW (wdT kd)).length cap) (allW (wdT kd)) ∧ Junk W w' :=
  (r_wdAll kd W).mono fun e w' (h : AllRes _ W e w') => by
    obtain ⟨v, rfl, hv, hj⟩ := h
    obtain ⟨a, cap, rfl, _, _⟩ := sreads_of_owns hv.1
    exact ⟨a, cap, rfl, hv, hj⟩
theorem sreads_of_slice {w : World} {base : Nat} {a : Option Addr} {n cap : Nat} {K : List Tx} (h : SOwns w base (.slice a n cap) K) : SReads w a n K := by
  obtain ⟨a', cap', he, hr, _⟩ := sreads_of_owns h
  injection he with e1 e2 e3
  subst e1 e2
  exact hr
theorem bw_k {B : Nat} {a w w' : World} (h : Below B a w) (hB : B ≤ w.heap.size) (hj : Junk w w') : Below B a w' := h.trans (hj.below.mono hB)
theorem same_at {W : World} {K : List Tx} {a1 a2 : Option Addr} {c1 c2 : Nat} (hl : K.length ≤ 51) (h1 : SReads W a1 K.length K) (h2 : SReads W a2 K.length K) :
    Calls Tryd.prog 14 #[.slice a1 K.length c1, .slice a2 K.length c2] W fun e w' => e = .returned (.bool true) ∧ Junk W w' :=
  (k_SameTexts W a1 a2 _ _ c1 c2 K K h1 h2 (by omega) (by omega)).mono fun e w' h => ⟨by rw [h.1, decide_eq_true rfl], h.2⟩
set_option maxRecDepth 100000 in
set_option maxHeartbeats 2000000 in
theorem l_wordsTells (kd : Int) (x : Tx) (w : World) (ht : LdW w) : Calls Tryd.prog 3 #[.int .i64 kd, .string ⟨x.toArray⟩] w fun e w' => e = .returned (.bool true) ∧ Below w.heap.size w w' := by
  by_cases hl : 1000 < x.length
  · have hl2 : (1000 : Int) < (x.length : Int) := by omega
    go_enter Tryd.func3, Tryd.ntmps3
    go_wp2
    go_ret
    exact ⟨rfl, by (repeat' first | with_reducible (first | apply Below.refl | assumption | apply bw_a | apply bw_d | apply bw_n | apply bw_p | apply bw_c | apply bw_r) | go_size)⟩
  have HA := Lib.hid l_wdAwake
  have HS := Lib.hid (shortAt (kd := kd) (x := x) (y := (tellS (wdT kd) x).1) (b := (tellS (wdT kd) x).2) rfl (by omega))
  have HL := Lib.hid (longAt (kd := kd) (x := x) (y := (tellL (wdT kd) x).1) (b := (tellL (wdT kd) x).2) rfl (by omega))
  have HS2 := Lib.hid (fun W => r_wdShort kd x W)
  have HL2 := Lib.hid (fun W => r_wdLong kd x W)
  have HAL := Lib.hid (@allat kd)
  have HAR := Lib.hid (@rallat kd)
  have HLE := Lib.hid (show (allW (wdT kd)).length ≤ 51 by rw [← sel_all, sel_len]; exact wd_few kd)
  have HT := Lib.hid ht
  unfold SBRes at HS2 HL2
  generalize allW (wdT kd) = K at *
  generalize tellS (wdT kd) x = r at *
  generalize tellL (wdT kd) x = t at *
  obtain ⟨y, b⟩ := r
  obtain ⟨z, c⟩ := t
  simp only at HS HL HS2 HL2
  clear ht
  go_enter Tryd.func3, Tryd.ntmps3
  go_wp2_with fail
  refine (HS.out _ (HT.out.below (by (repeat' first | with_reducible (first | apply Below.refl | assumption | apply bw_a | apply bw_d | apply bw_n | apply bw_p | apply bw_c | apply bw_r) | go_size)))).mono ?_; rintro e w' ⟨rfl, J1, d1, rfl⟩
  go_wp2_with fail
  refine (HS2.out _).mono ?_; rintro e w' ⟨rfl, J2, d2, rfl⟩
  go_wp2_with fail
  refine (HL.out _ (HT.out.below (by (repeat' first | with_reducible (first | apply Below.refl | assumption | apply bw_a | apply bw_d | apply bw_n | apply bw_p | apply bw_c | apply bw_r) | go_size)))).mono ?_; rintro e w' ⟨rfl, J3, d3, rfl⟩
  go_wp2_with fail
  refine (HL2.out _).mono ?_; rintro e w' ⟨rfl, J4, d4, rfl⟩
  go_wp2_with fail
  have HB4 := Lib.hid (show Below w.heap.size w (w.plus (J1 ++ (J2 ++ (J3 ++ J4))) d4) by (repeat' first | with_reducible (first | apply Below.refl | assumption | apply bw_a | apply bw_d | apply bw_n | apply bw_p | apply bw_c | apply bw_r) | go_size))
  generalize w.plus (J1 ++ (J2 ++ (J3 ++ J4))) d4 = W4 at *
  have s4 := HB4.out.size
  refine (HAL.out _ (HT.out.below HB4.out)).mono ?_; rintro e W5 ⟨a1, c1, rfl, hv1, hj5⟩
  have HB5 := Lib.hid (bw_k HB4.out s4 hj5)
  have s5 := hj5.below.size
  have HV1 := Lib.hid hv1
  have HN1 := Lib.hid (fun k h => (hv1.1.block k h).2)
  clear hj5 hv1
  go_wp2_with fail
  refine (HAR.out _).mono ?_; rintro e W6 ⟨a2, c2, rfl, hv2, hj6⟩
  have HB6 := Lib.hid (bw_k HB5.out (by omega) hj6)
  have s6 := hj6.below.size
  have HV1 := Lib.hid (HV1.out.below hj6.below)
  have HV2 := Lib.hid hv2
  have HNE := Lib.hid (fun k (h1 : (Value.slice a2 K.length c2).ownBlock = some k) (h2 : (Value.slice a1 K.length c1).ownBlock = some k) => by
    have := (hv2.1.block k h1).1
    have := HN1.out k h2
    omega : ∀ k, (Value.slice a2 K.length c2).ownBlock = some k → (Value.slice a1 K.length c1).ownBlock ≠ some k)
  clear hj6 hv2
  have HE := Lib.hid (fun W a1 a2 c1 c2 h1 h2 => same_at (W := W) (K := K) (a1 := a1) (a2 := a2) (c1 := c1) (c2 := c2) HLE.out h1 h2)
  go_wp2_with fail
  refine (HE.out _ _ _ _ _ (sreads_of_slice HV1.out.1) (sreads_of_slice HV2.out.1)).mono ?_; rintro e W7 ⟨rfl, hj7⟩
  have HB7 := Lib.hid (bw_k HB6.out (by omega) hj7)
  have s7 := hj7.below.size
  have HV1 := Lib.hid (HV1.out.below hj7.below)
  have HV2 := Lib.hid (HV2.out.below hj7.below)
  clear hj7
  go_wp2_with fail
  refine (k_OverTexts _ _ _ K HV1.out).mono ?_; rintro e W8 ⟨rfl, ho⟩
  have HB8 := Lib.hid (HB7.out.trans (ho.below (B := w.heap.size) (fun k hk => by have := (HV1.out.1.block k hk).1; omega)))
  have s8 := ho.size
  have HV2 := Lib.hid (sowns_only HV2.out.1 ho HNE.out)
  clear ho
  go_wp2_with fail
  refine (HAL.out _ (HT.out.below HB8.out)).mono ?_; rintro e W9 ⟨a3, c3, rfl, hv3, hj9⟩
  have HB9 := Lib.hid (bw_k HB8.out (by omega) hj9)
  have s9 := hj9.below.size
  have HV2 := Lib.hid (HV2.out.below hj9.below)
  have HV3 := Lib.hid hv3
  clear hj9 hv3
  go_wp2_with fail
  refine (HE.out _ _ _ _ _ (sreads_of_slice HV3.out.1) (sreads_of_slice HV2.out)).mono ?_; rintro e W10 ⟨rfl, hj10⟩
  have HB10 := Lib.hid (bw_k HB9.out (by omega) hj10)
  have s10 := hj10.below.size
  clear hj10
  go_wp2_with fail
  refine (HA.out _ (HT.out.below HB10.out)).mono ?_; rintro e W11 ⟨rfl, hj11⟩
  have HB11 := Lib.hid (bw_k HB10.out (by omega) hj11)
  clear hj11
  go_wp2
  go_ret
  exact ⟨rfl, HB11.out⟩
end Go.Proofs.YtngjkmjejijfiaaDoor

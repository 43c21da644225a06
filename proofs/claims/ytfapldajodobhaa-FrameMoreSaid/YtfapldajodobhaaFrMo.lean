/- Law FrameMore. -/
import Derived.Test.YtfapldajodobhaaFrH
namespace Go.Proofs.Ytfapldajodobhaa
set_option linter.unusedVariables false
set_option linter.unusedSimpArgs false
open Go.RowKit

/-- Bytes that hold no frame hold none with more bytes behind. -/
theorem bad_more {T : List UInt8} (hn : splitF T = none) (hs : stateF T = 2) (more : List UInt8) : splitF (T ++ more) = none ∧ stateF (T ++ more) = 2 := by
  have hl0 : T.length ≠ 0 := fun h => by unfold stateF at hs; rw [if_pos h] at hs; cases hs
  have ht : tornF T = false := by
    cases ht : tornF T with
    | false => rfl
    | true => rw [state_torn ht (by omega)] at hs; cases hs
  have h8 : 8 ≤ T.length := Nat.le_of_not_lt fun h => by rw [torn_short h] at ht; cases ht
  have hfg : (formF T && goodF T) = false := by
    unfold splitF at hn
    rw [if_neg (by rw [ht]; decide)] at hn
    cases hfg : (formF T && goodF T) with
    | false => rfl
    | true => rw [if_pos hfg] at hn; cases hn
  have n1 : num4 (T ++ more) = num4 T := num4_app [] _ _ (by omega)
  have n2 : num4 ((T ++ more).drop 4) = num4 (T.drop 4) := by
    rw [List.drop_append_of_le_length (by omega)]
    exact num4_app [] _ _ (by simp; omega)
  have hf : formF (T ++ more) = formF T := by unfold formF; rw [n1, n2]
  cases hfT : formF T with
  | false =>
    rw [hfT] at hf
    exact ⟨split_bad (.inl hf), state_bad (torn_not (by simp; omega) (.inl hf))⟩
  | true =>
    have hgT : goodF T = false := by rw [hfT] at hfg; simpa using hfg
    have hb : num4 T + 12 ≤ T.length := by
      unfold tornF at ht
      rw [hfT] at ht
      simp at ht
      omega
    have hg : goodF (T ++ more) = false := by
      rw [← hgT]
      unfold goodF
      rw [n1, List.drop_append_of_le_length (by omega), List.take_append_of_le_length (by simp; omega), List.drop_append_of_le_length (by omega), num4_app [] _ more (by simp; omega)]
    exact ⟨split_bad (.inr hg), state_bad (torn_not (by simp; omega) (.inr (by rw [n1]; simp; omega)))⟩
theorem state_cases (T : List UInt8) : (stateF T = 0 ∧ T.length = 0) ∨ (stateF T = 1 ∧ 0 < T.length) ∨ (stateF T = 2 ∧ 0 < T.length) := by
  unfold stateF
  by_cases h : T.length = 0
  · exact .inl ⟨if_pos h, h⟩
  · rw [if_neg h]
    by_cases ht : tornF T = true
    · exact .inr (.inl ⟨if_pos ht, by omega⟩)
    · exact .inr (.inr ⟨if_neg ht, by omega⟩)
/-- What is scanned with more bytes behind. -/
theorem scan_more (b more : List UInt8) : ∃ Y U, scanF (b ++ more) = ((scanF b).1 ++ Y, U) ∧ U.length ≤ (scanF b).2.length + more.length ∧ (stateF (scanF b).2 = 2 → stateF U = 2 ∧ U.length = (scanF b).2.length + more.length) := by
  obtain ⟨h1, h2, h3⟩ := scan_canon b
  have e : b ++ more = framesF (scanF b).1 ++ ((scanF b).2 ++ more) := by rw [← List.append_assoc, ← h1]
  refine ⟨(scanF ((scanF b).2 ++ more)).1, (scanF ((scanF b).2 ++ more)).2, ?_, ?_, ?_⟩
  · rw [e]; exact scan_frames _ _ h3
  · have := scan_len ((scanF b).2 ++ more)
    rw [List.length_append] at this
    exact this
  · intro h
    obtain ⟨k1, k2⟩ := bad_more h2 h more
    rw [scan_none k1]
    exact ⟨k2, by simp⟩

def AgainAt (w : World) (base : Nat) (X : List (List UInt8)) (v i : Value) (wr : World) : Prop :=
  ∃ k : Nat, i = .int .i64 (k : Int) ∧ k ≤ X.length ∧ BOwns wr base v (framesF (X.take k)) ∧ Below base w wr

set_option maxRecDepth 100000 in
set_option maxHeartbeats 4000000 in
theorem l_frameMore (w : World) (a a2 : Option Addr) (len cap len2 cap2 : Nat) (L M : List UInt8) (h : BArg w a len cap L) (h2 : BArg w a2 len2 cap2 M) :
    Calls Try.prog 9 #[.slice a len cap, .slice a2 len2 cap2] w fun e w' => e = .returned (.bool true) ∧ Junk w w' := by
  have HAw := Lib.hid l_awake
  have hL := h.reads.1
  have hM := h2.reads.1
  by_cases hbig : 5000 < len
  · have e1 : (5000 : Int) < (len : Int) := by omega
    clear h h2
    go_enter Try.func9, Try.ntmps9
    go_wp2_with (go_at_call 19; refine (HAw.out _).mono ?_; rintro e w10 ⟨rfl, J10, d10, rfl⟩)
    go_ret
    exact ⟨rfl, junk_of_below (by (repeat' (first | (with_reducible exact Below.refl _ _) | (with_reducible assumption) | (with_reducible refine Below.alloc ?_ ?_ _) | (with_reducible refine Below.drew ?_) | (with_reducible refine below_drewN ?_ _) | (with_reducible refine below_plus ?_ ?_ _ _) | (with_reducible refine Below.setCell ?_ ?_ _) | (with_reducible refine Below.setRow ?_ ?_ _) | go_size)))⟩
  have e1 : ¬ (5000 : Int) < (len : Int) := by omega
  by_cases hbig2 : 5000 < len2
  · have e2 : (5000 : Int) < (len2 : Int) := by omega
    clear h h2
    go_enter Try.func9, Try.ntmps9
    go_wp2_with (go_at_call 19; refine (HAw.out _).mono ?_; rintro e w10 ⟨rfl, J10, d10, rfl⟩)
    go_ret
    exact ⟨rfl, junk_of_below (by (repeat' (first | (with_reducible exact Below.refl _ _) | (with_reducible assumption) | (with_reducible refine Below.alloc ?_ ?_ _) | (with_reducible refine Below.drew ?_) | (with_reducible refine below_drewN ?_ _) | (with_reducible refine below_plus ?_ ?_ _ _) | (with_reducible refine Below.setCell ?_ ?_ _) | (with_reducible refine Below.setRow ?_ ?_ _) | go_size)))⟩
  have e2 : ¬ (5000 : Int) < (len2 : Int) := by omega
  replace h := h.bin (by omega)
  replace h2 := h2.bin (by omega)
  have HB := Lib.hid h
  have HM := Lib.hid h2
  have HCo := Lib.hid (fun w' (hb : BIn w' a len L cap) => k_CopyBytes w' a len cap L hb)
  have HSame := Lib.hid (fun w' a b n m ca cb Ls Ms h1 h2 => k_SameLists w' a b n m ca cb Ls Ms h1 h2)
  have HSb := Lib.hid (fun w' a b n m ca cb L M h1 h2 => k_SameBytes w' a b n m ca cb L M h1 h2)
  have HS1 := Lib.hid (fun w' (h : BIn w' a len L cap) => n_Scan w' a len cap L h)
  have HS2 := Lib.hid (fun w' a n cap (h : BIn w' a n (L ++ M) cap) => n_Scan w' a n cap (L ++ M) h)
  unfold ScanRes at HS1 HS2
  obtain ⟨Y, U, hsm, hU, hbad⟩ := scan_more L M
  obtain ⟨hc1, hc2, hc3⟩ := scan_canon L
  have hst := state_cases (scanF L).2
  have hlen := scan_len L
  have hfew := scan_few L
  have HL1 := Lib.hid (fun w base v ps (h : LOwns w base v ps) hp => lin_scan (L := L) h hp (by omega))
  have HL2 := Lib.hid (fun w base v ps (h : LOwns w base v ps) hp => lin_scan (L := L ++ M) h hp (by simp; omega))
  have hfl : (framesF (scanF L).1).length = len - (scanF L).2.length := by
    have := congrArg List.length hc1
    rw [List.length_append] at this
    omega
  have hfew2 := scan_few (L ++ M)
  rw [hsm] at HS2 HL2 hfew2
  have hfew3 : (scanF L).1.length + Y.length ≤ 10000 := by simp at hfew2; omega
  have hpre : L.take (framesF (scanF L).1).length = framesF (scanF L).1 :=
     (congrArg (List.take (framesF (scanF L).1).length) hc1).trans (List.take_left' rfl)
  simp only [List.length_append] at HS2
  rw [hL] at HS1
  rw [hL, hM] at HS2
  obtain ⟨X, hX⟩ : ∃ X, (scanF L).1 = X := ⟨_, rfl⟩
  obtain ⟨T, hT⟩ : ∃ T, (scanF L).2 = T := ⟨_, rfl⟩
  rw [hX, hT] at HS1
  rw [hX] at HS2 HL1 HL2 hfl hc3 hfew hfew3 hpre
  rw [hT] at hst hlen hU hbad hfl
  obtain ⟨N, hN⟩ : ∃ N, len - T.length = N := ⟨_, rfl⟩
  obtain ⟨N2, hN2⟩ : ∃ N2, len + len2 - U.length = N2 := ⟨_, rfl⟩
  obtain ⟨S1, hS1⟩ : ∃ S, stateF T = S := ⟨_, rfl⟩
  obtain ⟨S2, hS2⟩ : ∃ S, stateF U = S := ⟨_, rfl⟩
  obtain ⟨XL, hXL⟩ : ∃ n, X.length = n := ⟨_, rfl⟩
  obtain ⟨YL, hYL⟩ : ∃ n, (X ++ Y).length = n := ⟨_, rfl⟩
  have hYL2 : XL ≤ YL := by rw [← hYL, List.length_append]; omega
  have HTk := Lib.hid (show (X ++ Y).take XL = X from List.take_left' hXL)
  have hgood : N ≤ len ∧ N ≤ N2 ∧ (S1 = 0 ∧ N = len ∨ S1 = 1 ∧ N ≠ len ∨ S1 = 2 ∧ N ≠ len ∧ S2 = 2 ∧ N2 = N) := by
    refine ⟨by omega, by omega, ?_⟩
    rcases hst with ⟨h1, h2⟩ | ⟨h1, h2⟩ | ⟨h1, h2⟩
    · exact .inl ⟨by omega, by omega⟩
    · exact .inr (.inl ⟨by omega, by omega⟩)
    · obtain ⟨k1, k2⟩ := hbad h1
      exact .inr (.inr ⟨by omega, by omega, by omega, by omega⟩)
  rw [hN, hS1] at HS1
  rw [hN2, hS2] at HS2
  rw [hXL] at HL1
  rw [show ((X ++ Y, U) : List (List UInt8) × List UInt8).1.length = YL from hYL] at HL2
  rw [hN] at hfl
  rw [hfl] at hpre
  have HPre := Lib.hid hpre
  have HFl := Lib.hid hfl
  have HXL := Lib.hid hXL
  have HX6 := Lib.hid hc3
  have hN5 : N ≤ 5000 := by omega
  have hXLb : XL ≤ 10000 := by omega
  obtain ⟨g1, g2, g3⟩ := hgood
  clear h h2 hpre hfl hXL hYL hc1 hc2 hc3 hX hT hN hN2 hS1 hS2 hst hlen hfew hfew2 hfew3 hU hbad hsm
  go_enter Try.func9, Try.ntmps9
  go_wp2_with fail
  refine (HAw.out _).mono ?_
  rintro e w1 ⟨rfl, hj1⟩
  have hb1 := hj1.below
  clear hj1 HAw
  go_wp2_with fail
  refine (HS1.out _ (HB.out.below hb1)).mono ?_
  rintro e w2 ⟨⟨v2, ps, rfl, hps, hlo2⟩, hj2⟩
  have hb12 := hj2.below
  have hb2 := hb1.trans (hb12.mono hb1.size)
  have hlo2b := hlo2.base (show w.heap.size ≤ w1.heap.size + 3 by have := hb1.size; omega)
  have HLO2 := Lib.hid hlo2b
  have HPS := Lib.hid hps
  have HLX := Lib.hid (fun w' (h : LOwns w' w.heap.size v2 ps) => HL1.out w' _ _ _ h hps)
  clear hlo2 hlo2b hps hj2 hb12 HS1 HL1
  obtain ⟨ax, cx, ev2, _⟩ := HLX.out _ HLO2.out
  subst ev2
  go_wp2_with fail
  refine (HCo.out _ (HB.out.below hb2)).mono ?_
  rintro e w3 ⟨v3, rfl, ho3, hj3⟩
  have hb23 := hj3.below
  have hb3 := hb2.trans (hb23.mono hb2.size)
  have HO3 := Lib.hid ho3
  have HM3 := Lib.hid (HM.out.below hb3)
  have HLM := Lib.hid (show (L ++ M).length = len + len2 by rw [List.length_append, hL, hM])
  clear hj3 ho3 HCo
  go_wp2_with (at_builtin; refine wpList_bapp rfl _ _ rfl w2.heap.size _ L rfl HO3.out a2 len2 cap2 M rfl HM3.out.none HM3.out.reads (by omega) hb23.size ?_; intro v4 w4 ho4 hg4)
  have hb24 : Below w2.heap.size w2 w4 := hb23.grown hg4 hb23.size (fun j hj => HO3.out.block j hj)
  have hb4 := hb2.trans (hb24.mono hb2.size)
  obtain ⟨a4, c4, e4, hB4⟩ := bin_of_owns ho4 (by rw [HLM.out]; omega)
  rw [HLM.out] at e4 hB4
  subst e4
  have HB4 := Lib.hid hB4
  clear ho4 hg4 hB4 HO3 HM3 hb23 hb3
  refine (HS2.out _ _ _ _ HB4.out).mono ?_
  rintro e w5 ⟨⟨v5, qs, rfl, hqs, hlo5⟩, hj5⟩
  have hb45 := hj5.below
  obtain ⟨ay, cy, ev5, hly⟩ := HL2.out _ _ _ _ hlo5 hqs
  subst ev5
  have hb25 : Below w2.heap.size w2 w5 := hb24.trans (hb45.mono hb24.size)
  have hb5 := hb2.trans (hb25.mono hb2.size)
  obtain ⟨ax', cx', ev2, hlx⟩ := HLX.out w5 (HLO2.out.below hb25)
  injection ev2 with ea _ ec
  subst ea ec
  have htk := HTk.out
  have hly2 := hly.take hYL2
  rw [htk] at hly2
  have HLx := Lib.hid hlx
  have HLy := Lib.hid hly2
  have i1 : (XL : Int) ≤ (YL : Int) := by omega
  have i2 : (XL : Int) ≤ (cy : Int) := by have := hly2.room; omega
  have i3 : ¬ (YL : Int) < (XL : Int) := by omega
  have i4 : ¬ (N : Int) < 0 := by omega
  have i5 : ¬ (len : Int) < (N : Int) := by omega
  have i6 : ¬ (N2 : Int) < (N : Int) := by omega
  clear hly hly2 hlx htk hlo5 hqs hj5 hb45 hb24 hb4 HS2 HB4 HL2 HLX HLO2 HPS HTk
  go_upto_region 6 with fail
  go_cut [102] from 41 to 102 (fun t wx => t = .bool false ∧ Cls w5 wx)
  case first =>
    as_aux_lemma =>
      clear HPre HFl HXL HX6 HB HM HLM HSb
      rcases g3 with ⟨rfl, rfl⟩ | ⟨rfl, hne⟩ | ⟨rfl, hne, rfl, rfl⟩
      · go_wp2_with (go_at_call 22; refine (HSame.out _ _ _ _ _ _ _ _ _ (HLx.out.below (by (repeat' (first | (with_reducible exact Below.refl _ _) | (with_reducible assumption) | (with_reducible refine Below.alloc ?_ ?_ _) | (with_reducible refine Below.drew ?_) | (with_reducible refine below_drewN ?_ _) | (with_reducible refine below_plus ?_ ?_ _ _) | (with_reducible refine Below.setCell ?_ ?_ _) | (with_reducible refine Below.setRow ?_ ?_ _) | go_size)))) (HLy.out.below (by (repeat' (first | (with_reducible exact Below.refl _ _) | (with_reducible assumption) | (with_reducible refine Below.alloc ?_ ?_ _) | (with_reducible refine Below.drew ?_) | (with_reducible refine below_drewN ?_ _) | (with_reducible refine below_plus ?_ ?_ _ _) | (with_reducible refine Below.setCell ?_ ?_ _) | (with_reducible refine Below.setRow ?_ ?_ _) | go_size))))).mono ?_; rw [decide_eq_true (rfl : X = X)]; rintro e w8 ⟨rfl, J8, d8, rfl⟩)
        go_meet
        case rel => exact ⟨congrArg Value.bool (by simp; omega), _, _, rfl⟩
      · have hn2 : ((N : Int) == (len : Int)) = false := by rw [beq_eq_false_iff_ne]; omega
        go_wp2_with (go_at_call 22; refine (HSame.out _ _ _ _ _ _ _ _ _ (HLx.out.below (by (repeat' (first | (with_reducible exact Below.refl _ _) | (with_reducible assumption) | (with_reducible refine Below.alloc ?_ ?_ _) | (with_reducible refine Below.drew ?_) | (with_reducible refine below_drewN ?_ _) | (with_reducible refine below_plus ?_ ?_ _ _) | (with_reducible refine Below.setCell ?_ ?_ _) | (with_reducible refine Below.setRow ?_ ?_ _) | go_size)))) (HLy.out.below (by (repeat' (first | (with_reducible exact Below.refl _ _) | (with_reducible assumption) | (with_reducible refine Below.alloc ?_ ?_ _) | (with_reducible refine Below.drew ?_) | (with_reducible refine below_drewN ?_ _) | (with_reducible refine below_plus ?_ ?_ _ _) | (with_reducible refine Below.setCell ?_ ?_ _) | (with_reducible refine Below.setRow ?_ ?_ _) | go_size))))).mono ?_; rw [decide_eq_true (rfl : X = X)]; rintro e w8 ⟨rfl, J8, d8, rfl⟩)
        go_meet
        case rel => exact ⟨congrArg Value.bool (by simp; omega), _, _, rfl⟩
      · have hn2 : ((N2 : Int) == (len : Int)) = false := by rw [beq_eq_false_iff_ne]; omega
        go_wp2_with (go_at_call 22; refine (HSame.out _ _ _ _ _ _ _ _ _ (HLx.out.below (by (repeat' (first | (with_reducible exact Below.refl _ _) | (with_reducible assumption) | (with_reducible refine Below.alloc ?_ ?_ _) | (with_reducible refine Below.drew ?_) | (with_reducible refine below_drewN ?_ _) | (with_reducible refine below_plus ?_ ?_ _ _) | (with_reducible refine Below.setCell ?_ ?_ _) | (with_reducible refine Below.setRow ?_ ?_ _) | go_size)))) (HLy.out.below (by (repeat' (first | (with_reducible exact Below.refl _ _) | (with_reducible assumption) | (with_reducible refine Below.alloc ?_ ?_ _) | (with_reducible refine Below.drew ?_) | (with_reducible refine below_drewN ?_ _) | (with_reducible refine below_plus ?_ ?_ _ _) | (with_reducible refine Below.setCell ?_ ?_ _) | (with_reducible refine Below.setRow ?_ ?_ _) | go_size))))).mono ?_; rw [decide_eq_true (rfl : X = X)]; rintro e w8 ⟨rfl, J8, d8, rfl⟩)
        go_meet
        case rel => exact ⟨congrArg Value.bool (by simp; omega), _, _, rfl⟩
  case rest =>
    as_aux_lemma =>
      obtain ⟨rfl, J6, d6, rfl⟩ := hcut
      have hb56 : Below w5.heap.size w5 (w5.plus J6 d6) := Junk.below ⟨_, _, rfl⟩
      generalize w5.plus J6 d6 = w6 at *
      have hb6 := hb5.trans (hb56.mono hb5.size)
      have HLx6 := Lib.hid (HLx.out.below hb56)
      clear g3 HLx HLy HSame hb56 hb25 hb5 hb2
      go_wp2_with fail
      go_loopw [12, 13] (fun v i wr => AgainAt w6 w6.heap.size X v i wr) (fun _ i _ => XL - (intOf i).toNat)
      case atStart => exact ⟨0, rfl, by omega, bowns_nil _ _, Below.refl _ _⟩
      case round =>
        obtain ⟨k, rfl, k1, hv, hb⟩ := hrel
        rw [HXL.out] at k1
        have HV := Lib.hid hv
        clear hv
        by_cases hlt : k < XL
        · have hkX : k < X.length := by rw [HXL.out]; exact hlt
          rcases HLx6.out.cells with h0 | ⟨b, off, rfl, hc⟩
          · omega
          obtain ⟨a1, n1, c1, q1, hB1⟩ := hc k X[k] (by simp)
          have hbw : b < w6.heap.size := World.block_lt_of_cell? _ _ q1
          have q2 : wr.cell? ⟨b, off + k, none⟩ = some (.slice a1 n1 c1) := (World.cell?_of_block (hb.block b hbw)).trans q1
          have hn1 := hB1.reads.1
          have hx6 := HX6.out X[k] (by simp)
          have HP := Lib.hid (fun w' (hw : Below w6.heap.size w6 w') => n_frPut w' a1 n1 c1 X[k] (hB1.below hw) (by omega))
          have hft := frames_take X k hkX
          have hlb : (framesF (X.take (k + 1))).length ≤ N := by
            have h1 := congrArg List.length (frames_split X (k + 1))
            rw [HFl.out, List.length_append] at h1
            omega
          rw [hft, List.length_append] at hlb
          have HFT := Lib.hid hft
          obtain ⟨F, hF⟩ : ∃ F, framesF (X.take k) = F := ⟨_, rfl⟩
          obtain ⟨G, hG⟩ : ∃ G, frameF X[k] = G := ⟨_, rfl⟩
          unfold PutAns at HP
          rw [hF] at HV HFT hlb
          rw [hG] at HP HFT hlb
          clear hc q1 hB1 hft hF hG hn1 hx6
          go_wp2_with fail
          refine (HP.out _ hb).mono ?_
          rintro e w7 ⟨v7, rfl, ho7, ha7, hj7⟩
          obtain ⟨a7, c7, rfl, hB7⟩ := bin_of_owns ho7 (by omega)
          have hb7 := hj7.below
          have HV7 := Lib.hid (HV.out.below hb7)
          have HB7 := Lib.hid hB7
          have hbb7 : Below w6.heap.size w6 w7 := hb.trans (hb7.mono hb.size)
          clear ho7 ha7 hj7 hB7 HV HP
          go_wp2_with (at_builtin; refine wpList_bapp rfl _ _ rfl w6.heap.size _ F rfl HV7.out a7 G.length c7 G rfl HB7.out.none HB7.out.reads (by omega) hbb7.size ?_; intro v8 w8 ho8 hg8)
          have hb8 : Below w6.heap.size w6 w8 := hbb7.grown hg8 hbb7.size (fun j hj => HV7.out.block j hj)
          refine ⟨⟨k + 1, by simp, hkX, by rw [HFT.out]; exact ho8, hb8⟩, by simp [intOf]; omega⟩
        · obtain rfl : k = XL := by omega
          have hv := HV.out
          rw [List.take_of_length_le (Nat.le_of_eq HXL.out)] at hv
          obtain ⟨a8, c8, rfl, hB8⟩ := bin_of_owns hv (by rw [HFl.out]; omega)
          have hbr := hb6.trans (hb.mono hb6.size)
          have hB9 := bin_prefix (HB.out.below hbr) g1
          rw [HPre.out] at hB9
          have i7 : (N : Int) ≤ (cap : Int) := by have := HB.out.room; omega
          have i8 : (N : Int) ≤ (len : Int) := by omega
          have HB8 := Lib.hid hB8.reads
          have HB9 := Lib.hid hB9.reads
          rw [HFl.out] at HB8
          rw [HFl.out]
          obtain ⟨Z, hZ⟩ : ∃ Z, framesF X = Z := ⟨_, rfl⟩
          rw [hZ] at HB8 HB9
          clear hv hB8 hB9 HV hZ HPre HFl HXL HX6 HLx6
          go_wp2_with (go_at_call 14; refine (HSb.out _ _ _ _ _ _ _ Z Z (HB8.out.below (by (repeat' (first | (with_reducible exact Below.refl _ _) | (with_reducible assumption) | (with_reducible refine Below.alloc ?_ ?_ _) | (with_reducible refine Below.drew ?_) | (with_reducible refine below_drewN ?_ _) | (with_reducible refine below_plus ?_ ?_ _ _) | (with_reducible refine Below.setCell ?_ ?_ _) | (with_reducible refine Below.setRow ?_ ?_ _) | go_size)))) (HB9.out.below (by (repeat' (first | (with_reducible exact Below.refl _ _) | (with_reducible assumption) | (with_reducible refine Below.alloc ?_ ?_ _) | (with_reducible refine Below.drew ?_) | (with_reducible refine below_drewN ?_ _) | (with_reducible refine below_plus ?_ ?_ _ _) | (with_reducible refine Below.setCell ?_ ?_ _) | (with_reducible refine Below.setRow ?_ ?_ _) | go_size))))).mono ?_; rw [decide_eq_true (rfl : Z = Z)]; rintro e w9 ⟨rfl, J9, d9, rfl⟩)
          go_ret
          exact ⟨rfl, junk_of_below (hbr.trans ((show Below wr.heap.size wr _ by (repeat' (first | (with_reducible exact Below.refl _ _) | (with_reducible assumption) | (with_reducible refine Below.alloc ?_ ?_ _) | (with_reducible refine Below.drew ?_) | (with_reducible refine below_drewN ?_ _) | (with_reducible refine below_plus ?_ ?_ _ _) | (with_reducible refine Below.setCell ?_ ?_ _) | (with_reducible refine Below.setRow ?_ ?_ _) | go_size))).mono hbr.size))⟩
end Go.Proofs.Ytfapldajodobhaa

/- Law FrameBack. -/
import Derived.Test.YtfapldajodobhaaFrV
namespace Go.Proofs.Ytfapldajodobhaa
set_option linter.unusedVariables false
set_option linter.unusedSimpArgs false
open Go.RowKit

theorem torn_prefix (r : List UInt8) (m : Nat) (hr : r.length ≤ 65536) (hm : m < (frameF r).length) : tornF ((frameF r).take m) = true := by
  have hl : ((frameF r).take m).length = m := by rw [List.length_take]; omega
  by_cases h8 : m < 8
  · exact torn_short (by omega)
  have e : frameF r = (frameF r).take m ++ (frameF r).drop m := (List.take_append_drop m _).symm
  have h := frame_head r [] hr
  have hf := form_frame r [] hr
  rw [List.append_nil] at h hf
  obtain ⟨h1, _, _⟩ := h
  have n1 : num4 ((frameF r).take m) = r.length := by
    rw [← h1]
    conv => rhs; rw [e]
    exact (num4_app [] _ _ (by omega)).symm
  have n2 : num4 (((frameF r).take m).drop 4) = num4 ((frameF r).drop 4) := by
    have e2 : (frameF r).drop 4 = ((frameF r).take m).drop 4 ++ (frameF r).drop m := by
      conv => lhs; rw [e]
      rw [List.drop_append_of_le_length (by omega)]
    rw [e2]
    exact (num4_app [] _ _ (by simp; omega)).symm
  have hf2 : formF ((frameF r).take m) = true := by
    unfold formF at hf ⊢
    rw [n1, n2]
    rw [h1] at hf
    exact hf
  unfold tornF
  rw [hf2, n1, decide_eq_true (show ((frameF r).take m).length < r.length + 12 by rw [frameF_len] at hm; omega)]
  simp
theorem frames_split (Ls : List (List UInt8)) (K : Nat) : framesF Ls = framesF (Ls.take K) ++ framesF (Ls.drop K) := by
  conv => lhs; rw [← List.take_append_drop K Ls]
  unfold framesF
  rw [List.flatMap_append]
theorem scan_cut (Ls : List (List UInt8)) (h : ∀ L ∈ Ls, L.length ≤ 65536) (p K : Nat) (hK : K ≤ Ls.length) (h1 : (framesF (Ls.take K)).length ≤ p) (h2 : K < Ls.length → p < (framesF (Ls.take (K + 1))).length) (hp : p ≤ (framesF Ls).length) :
    ∃ T : List UInt8, scanF ((framesF Ls).take p) = (Ls.take K, T) ∧ T.length = p - (framesF (Ls.take K)).length ∧ stateF T = (if (framesF (Ls.take K)).length = p then 0 else 1) := by
  have hs := frames_split Ls K
  have ht : (framesF Ls).take p = framesF (Ls.take K) ++ (framesF (Ls.drop K)).take (p - (framesF (Ls.take K)).length) := by
    conv => lhs; rw [hs]
    rw [List.take_append, List.take_of_length_le h1]
  have hkt : ∀ L ∈ Ls.take K, L.length ≤ 65536 := fun L hL => h L (List.mem_of_mem_take hL)
  have hlen : ((framesF (Ls.drop K)).take (p - (framesF (Ls.take K)).length)).length = p - (framesF (Ls.take K)).length := by
    have := congrArg List.length hs
    rw [List.length_append] at this
    rw [List.length_take]
    omega
  have hsplit : splitF ((framesF (Ls.drop K)).take (p - (framesF (Ls.take K)).length)) = none ∧ stateF ((framesF (Ls.drop K)).take (p - (framesF (Ls.take K)).length)) = (if (framesF (Ls.take K)).length = p then 0 else 1) := by
    by_cases he : (framesF (Ls.take K)).length = p
    · rw [if_pos he, he, Nat.sub_self, List.take_zero]
      exact ⟨by decide, by decide⟩
    · have hKl : K < Ls.length := by
        by_cases hc : K < Ls.length
        · exact hc
        · exfalso
          rw [List.take_of_length_le (by omega)] at h1 he
          omega
      have hd : Ls.drop K = Ls[K] :: Ls.drop (K + 1) := List.drop_eq_getElem_cons hKl
      have hft := frames_take Ls K hKl
      have hlt := h2 hKl
      rw [hft, List.length_append] at hlt
      have e3 : framesF (Ls.drop K) = frameF Ls[K] ++ framesF (Ls.drop (K + 1)) := by rw [hd]; rfl
      have e4 : (framesF (Ls.drop K)).take (p - (framesF (Ls.take K)).length) = (frameF Ls[K]).take (p - (framesF (Ls.take K)).length) := by
        rw [e3, List.take_append_of_le_length (by omega)]
      have htn := torn_prefix Ls[K] (p - (framesF (Ls.take K)).length) (h _ (by simp)) (by omega)
      rw [if_neg he]
      rw [e4] at hlen ⊢
      exact ⟨split_torn htn, state_torn htn (by omega)⟩
  refine ⟨_, ?_, hlen, hsplit.2⟩
  rw [ht, scan_frames _ _ hkt, scan_none hsplit.1]
  simp

def CutAt (w : World) (Ls : List (List UInt8)) (p : Nat) (a b i : Value) (wr : World) : Prop := ∃ k : Nat, a = .int .i64 (k : Int) ∧ b = .int .i64 ((framesF (Ls.take k)).length : Int) ∧ i = .int .i64 (k : Int) ∧ k ≤ Ls.length ∧ (framesF (Ls.take k)).length ≤ p ∧ wr = w

/-- A call's records read as those that were scanned. -/
theorem bin_prefix {w : World} {a : Option Addr} {n cap p : Nat} {F : List UInt8} (h : BIn w a n F cap) (hp : p ≤ n) : BIn w a p (F.take p) cap := by
  obtain ⟨⟨hl, hc⟩, hn, hs, hr⟩ := h
  refine ⟨⟨by simp; omega, ?_⟩, (fun e => by have := hn e; omega), by omega, by omega⟩
  by_cases h0 : p = 0
  · exact .inl h0
  rcases hc with h0 | ⟨b, off, he, hc⟩
  · omega
  refine .inr ⟨b, off, he, fun i hi => ?_⟩
  rw [hc i (by omega)]
  congr 2
  unfold byteAt
  simp [List.getD_eq_getElem?_getD, List.getElem?_take_of_lt hi]

set_option maxRecDepth 100000 in
set_option maxHeartbeats 4000000 in
theorem l_frameBack (w : World) (a : Option Addr) (len cap : Nat) (Ls : List (List UInt8)) (at_ : Int) (hat : I64 at_) (h : LArg w a len cap Ls) :
    Calls Try.prog 6 #[.slice a len cap, .int .i64 at_] w fun e w' => e = .returned (.bool true) ∧ Junk w w' := by
  have HAw := Lib.hid l_awake
  have hL := h.len_eq
  subst hL
  by_cases h20 : 20 < Ls.length
  · have e1 : (20 : Int) < (Ls.length : Int) := by omega
    clear h
    go_enter Try.func6, Try.ntmps6
    go_wp2_with (go_at_call 19; refine (HAw.out _).mono ?_; rintro e w10 ⟨rfl, J10, d10, rfl⟩)
    go_ret
    exact ⟨rfl, junk_of_below (by (repeat' (first | (with_reducible exact Below.refl _ _) | (with_reducible assumption) | (with_reducible refine Below.alloc ?_ ?_ _) | (with_reducible refine Below.drew ?_) | (with_reducible refine below_drewN ?_ _) | (with_reducible refine below_plus ?_ ?_ _ _) | (with_reducible refine Below.setCell ?_ ?_ _) | (with_reducible refine Below.setRow ?_ ?_ _) | go_size)))⟩
  have e1 : ¬ (20 : Int) < (Ls.length : Int) := by omega
  have HA := Lib.hid h
  have HAll := Lib.hid (fun w' (h : LArg w' a Ls.length cap Ls) => l_all w' a Ls.length cap Ls h (by omega))
  have HSame := Lib.hid (fun w' a b n m ca cb Ls Ms h1 h2 => k_SameLists w' a b n m ca cb Ls Ms h1 h2)
  have HSc := Lib.hid (fun w' a len cap L h => n_Scan w' a len cap L h)
  clear h
  go_enter Try.func6, Try.ntmps6
  go_wp2_with fail
  refine (HAw.out _).mono ?_
  rintro e w1 ⟨rfl, hj1⟩
  have hb1 := hj1.below
  clear hj1 HAw
  go_wp2_with fail
  refine (HAll.out _ (HA.out.below hb1)).mono ?_
  rintro e w2 ⟨⟨hbig, rfl⟩ | ⟨hsm, v, u, rfl, hv, hu⟩, hj2⟩
  · have hb2 := hj2.below
    go_wp2
    go_ret
    exact ⟨rfl, junk_of_below (hb1.trans (hb2.mono hb1.size))⟩
  have hb2 := hb1.trans (hj2.below.mono hb1.size)
  have hfb := frames_bound Ls 1000 hsm
  have hfb2 : Ls.length * (1000 + 12) ≤ 20 * 1012 := Nat.mul_le_mul (by omega) (by omega)
  have hsm6 : ∀ L ∈ Ls, L.length ≤ 65536 := fun L hL => by have := hsm L hL; omega
  obtain ⟨ab, cb, rfl, hB⟩ := bin_of_owns hv (by omega)
  obtain ⟨au, cu, rfl, hcu⟩ := row_form hu
  have hscan : scanF (framesF Ls) = (Ls, []) := by
    have := scan_frames Ls [] hsm6
    rw [List.append_nil, scan_none (show splitF [] = none by decide)] at this
    simpa using this
  have HCut := Lib.hid (fun p K hK h1 h2 hp => scan_cut Ls hsm6 p K hK h1 h2 hp)
  have HLin := Lib.hid (fun w' (hb : Below w.heap.size w w') => (HA.out.below hb).lin (by omega) (fun L hL => by have := hsm L hL; omega))
  obtain ⟨F, hF⟩ : ∃ F, framesF Ls = F := ⟨_, rfl⟩
  rw [hF] at hB hscan HCut hfb
  rw [hF]
  have HF := Lib.hid hF
  have hst0 : stateF [] = 0 := by decide
  have HSF := Lib.hid (fun w' (hb : BIn w' ab F.length F cb) => n_Scan w' _ _ _ _ hb)
  unfold ScanRes at HSF
  rw [hscan, hst0] at HSF
  simp only [List.length_nil, Nat.sub_zero] at HSF
  have HB2 := Lib.hid hB
  have HU2 := Lib.hid hu
  clear hv hB hu hF hj2 hsm hsm6 HAll
  go_wp2_with fail
  refine (HSF.out _ HB2.out).mono ?_
  rintro e w3 ⟨⟨v3, ps, rfl, hps, hlo3⟩, hj3⟩
  have hb23 := hj3.below
  have hb3 := hb2.trans (hb23.mono hb2.size)
  obtain ⟨a3, c3, e3, hL3⟩ := lin_scan hlo3 (by rw [hscan]; exact hps) (by omega)
  rw [hscan] at e3 hL3
  subst e3
  have HL3 := Lib.hid hL3
  have HB3 := Lib.hid (HB2.out.below hb23)
  have HU3 := Lib.hid (ownsRow_keeps HU2.out (keeps_below hb23 _ _))
  clear hlo3 hL3 hps hj3 hscan HB2 HU2 HSF hb23 hb2 hb1
  obtain ⟨FL, hFL⟩ : ∃ FL, F.length = FL := ⟨_, rfl⟩
  have HFL := Lib.hid hFL
  rw [hFL] at HB3 hfb
  rw [hFL]
  clear hFL
  go_wp2_with (go_at_call 22; refine (HSame.out _ _ _ _ _ _ _ _ _ HL3.out (HLin.out _ hb3)).mono ?_; rw [decide_eq_true (rfl : Ls = Ls)]; rintro e w4 ⟨rfl, J4, d4, rfl⟩)
  have hb34 : Below w3.heap.size w3 (w3.plus J4 d4) := Junk.below ⟨J4, d4, rfl⟩
  generalize w3.plus J4 d4 = w4 at *
  have hm0 := Int.emod_nonneg at_ (show ((FL : Int) + 1) ≠ 0 by omega)
  have hm1 := Int.emod_lt_of_pos at_ (show (0 : Int) < (FL : Int) + 1 by omega)
  have hpk := k_Pick w4 at_ ((FL : Int) + 1) hat ⟨by omega, by omega⟩
  rw [if_neg (by omega)] at hpk
  obtain ⟨p, hp⟩ : ∃ p : Nat, at_ % ((FL : Int) + 1) = (p : Int) := ⟨(at_ % ((FL : Int) + 1)).toNat, by omega⟩
  rw [hp] at hpk hm0 hm1
  have hpF : p ≤ FL := by omega
  have HPk := Lib.hid hpk
  clear hp hpk hm0 hm1 hat
  refine HPk.out.mono ?_
  rintro e w5 ⟨rfl, hj5⟩
  have hb35 : Below w3.heap.size w3 w5 := hb34.trans (hj5.below.mono hb34.size)
  have hb5 := hb3.trans (hb35.mono hb3.size)
  have HBp := Lib.hid (bin_prefix (HB3.out.below hb35) hpF)
  have hSp := n_Scan w5 ab p cb (F.take p) HBp.out
  unfold ScanRes at hSp
  have hpl : (F.take p).length = p := by rw [List.length_take, HFL.out]; omega
  rw [hpl] at hSp
  have HLS := Lib.hid (fun w' base v ps (h : LOwns w' base v ps) (hp : ps.map (·.2) = (scanF (F.take p)).1) => lin_scan h hp (by omega))
  have hcr := fun K hK h1 h2 => HCut.out p K hK h1 h2 (by rw [HFL.out]; exact hpF)
  obtain ⟨sc, hsc⟩ : ∃ sc, scanF (F.take p) = sc := ⟨_, rfl⟩
  rw [hsc] at hSp HLS
  have hcutp := Lib.hid hcr
  clear hcr
  rw [hsc] at hcutp
  obtain ⟨X, Tr⟩ := sc
  obtain ⟨N, hN⟩ : ∃ N : Int, ((p - Tr.length : Nat) : Int) = N := ⟨_, rfl⟩
  obtain ⟨S, hS⟩ : ∃ S : Int, ((stateF Tr : Nat) : Int) = S := ⟨_, rfl⟩
  have HN := Lib.hid hN
  have HS := Lib.hid hS
  simp only at hSp
  rw [hN, hS] at hSp
  have HSp := Lib.hid hSp
  have i1 : (p : Int) ≤ (FL : Int) := by omega
  have i2 : (p : Int) ≤ (cb : Int) := by have := HB3.out.room; omega
  clear hSp hsc hN hS hpl HCut hj5 hb34 HPk
  go_wp2_with fail
  refine HSp.out.mono ?_
  rintro e w6 ⟨⟨v6, qs, rfl, hqs, hlo6⟩, hj6⟩
  have hb56 := hj6.below
  have hb6 := hb5.trans (hb56.mono hb5.size)
  obtain ⟨a6, c6, e6, hL6⟩ := HLS.out _ _ _ _ hlo6 hqs
  obtain ⟨XL, hXL⟩ : ∃ XL, X.length = XL := ⟨_, rfl⟩
  rw [show ((X, Tr) : List (List UInt8) × List UInt8).1.length = XL from hXL] at e6 hL6
  clear hXL
  subst e6
  have HL6 := Lib.hid hL6
  have HU6 := Lib.hid (ownsRow_keeps (ownsRow_keeps HU3.out (keeps_below hb35 _ _)) (keeps_below hb56 _ _))
  clear hlo6 hL6 hqs hj6 hb56 hb35 hb5 hb3 HSp HLS HU3 HB3 HBp
  go_wp2_with fail
  go_loopw [15, 16, 17] (fun x y i wr => CutAt w6 Ls p x y i wr) (fun _ _ i _ => Ls.length - (intOf i).toNat)
  case atStart => exact ⟨0, rfl, rfl, rfl, by omega, by simp [framesF], rfl⟩
  case round =>
    obtain ⟨k, rfl, rfl, rfl, k1, hkp, rfl⟩ := hrel
    by_cases hlt : k < Ls.length
    · obtain ⟨g, rfl, hcell⟩ := row_cell HU6.out (endsF_get Ls Ls.length k hlt)
      by_cases hnx : (framesF (Ls.take (k + 1))).length ≤ p
      · obtain ⟨E2, hE2⟩ : ∃ E2, (framesF (Ls.take (k + 1))).length = E2 := ⟨_, rfl⟩
        have HE2 := Lib.hid hE2
        rw [hE2] at hcell hnx
        have e5 : (E2 : Int) ≤ (p : Int) := by omega
        clear hE2 hkp
        go_wp2_with fail
        go_roundw
        case rel => exact ⟨k + 1, by go_num, by rw [HE2.out], by go_num, by omega, by rw [HE2.out]; exact hnx, by first | rfl | trivial⟩
        case measure => simp [intOf]; omega
      · have hnx2 : k < Ls.length → p < (framesF (Ls.take (k + 1))).length := fun _ => by omega
        obtain ⟨E2, hE2⟩ : ∃ E2, (framesF (Ls.take (k + 1))).length = E2 := ⟨_, rfl⟩
        rw [hE2] at hcell hnx hnx2
        have e5 : ¬ (E2 : Int) ≤ (p : Int) := by omega
        rw [← hE2] at hnx2
        obtain ⟨T, hT, hTl, hTs⟩ := hcutp.out k k1 hkp hnx2
        injection hT with hX hTr
        subst hX hTr
        obtain ⟨E, hE⟩ : ∃ E, (framesF (Ls.take k)).length = E := ⟨_, rfl⟩
        rw [hE] at hTl hTs hkp
        rw [hE]
        have hNE : N = (E : Int) := by rw [← HN.out]; omega
        have i3 : (k : Int) ≤ (Ls.length : Int) := by omega
        have i4 : (k : Int) ≤ (cap : Int) := by have := HA.out.room; omega
        have HLk := Lib.hid ((HLin.out _ hb6).take k1)
        by_cases hEp : E = p
        · have hS0 : S = 0 := by rw [← HS.out, hTs, if_pos hEp]; rfl
          subst hS0 hNE hEp
          clear hTl hTs HS HN hcutp hE hkp hE2 hnx hnx2
          go_wp2_with (go_at_call 22; refine (HSame.out _ _ _ _ _ _ _ _ _ (HL6.out.below (by (repeat' (first | (with_reducible exact Below.refl _ _) | (with_reducible assumption) | (with_reducible refine Below.alloc ?_ ?_ _) | (with_reducible refine Below.drew ?_) | (with_reducible refine below_drewN ?_ _) | (with_reducible refine below_plus ?_ ?_ _ _) | (with_reducible refine Below.setCell ?_ ?_ _) | (with_reducible refine Below.setRow ?_ ?_ _) | go_size)))) (HLk.out.below (by (repeat' (first | (with_reducible exact Below.refl _ _) | (with_reducible assumption) | (with_reducible refine Below.alloc ?_ ?_ _) | (with_reducible refine Below.drew ?_) | (with_reducible refine below_drewN ?_ _) | (with_reducible refine below_plus ?_ ?_ _ _) | (with_reducible refine Below.setCell ?_ ?_ _) | (with_reducible refine Below.setRow ?_ ?_ _) | go_size))))).mono ?_; rw [decide_eq_true (rfl : Ls.take k = Ls.take k)]; rintro e w8 ⟨rfl, J8, d8, rfl⟩)
          go_ret
          exact ⟨rfl, junk_of_below (hb6.trans ((show Below wr.heap.size wr _ by (repeat' (first | (with_reducible exact Below.refl _ _) | (with_reducible assumption) | (with_reducible refine Below.alloc ?_ ?_ _) | (with_reducible refine Below.drew ?_) | (with_reducible refine below_drewN ?_ _) | (with_reducible refine below_plus ?_ ?_ _ _) | (with_reducible refine Below.setCell ?_ ?_ _) | (with_reducible refine Below.setRow ?_ ?_ _) | go_size))).mono hb6.size))⟩
        · have hS0 : S = 1 := by rw [← HS.out, hTs, if_neg hEp]; rfl
          have hEp2 : ¬ (E : Int) = (p : Int) := by omega
          subst hS0 hNE
          clear hTl hTs HS HN hcutp hE hkp hE2 hnx hnx2
          go_wp2_with (go_at_call 22; refine (HSame.out _ _ _ _ _ _ _ _ _ (HL6.out.below (by (repeat' (first | (with_reducible exact Below.refl _ _) | (with_reducible assumption) | (with_reducible refine Below.alloc ?_ ?_ _) | (with_reducible refine Below.drew ?_) | (with_reducible refine below_drewN ?_ _) | (with_reducible refine below_plus ?_ ?_ _ _) | (with_reducible refine Below.setCell ?_ ?_ _) | (with_reducible refine Below.setRow ?_ ?_ _) | go_size)))) (HLk.out.below (by (repeat' (first | (with_reducible exact Below.refl _ _) | (with_reducible assumption) | (with_reducible refine Below.alloc ?_ ?_ _) | (with_reducible refine Below.drew ?_) | (with_reducible refine below_drewN ?_ _) | (with_reducible refine below_plus ?_ ?_ _ _) | (with_reducible refine Below.setCell ?_ ?_ _) | (with_reducible refine Below.setRow ?_ ?_ _) | go_size))))).mono ?_; rw [decide_eq_true (rfl : Ls.take k = Ls.take k)]; rintro e w8 ⟨rfl, J8, d8, rfl⟩)
          go_ret
          exact ⟨rfl, junk_of_below (hb6.trans ((show Below wr.heap.size wr _ by (repeat' (first | (with_reducible exact Below.refl _ _) | (with_reducible assumption) | (with_reducible refine Below.alloc ?_ ?_ _) | (with_reducible refine Below.drew ?_) | (with_reducible refine below_drewN ?_ _) | (with_reducible refine below_plus ?_ ?_ _ _) | (with_reducible refine Below.setCell ?_ ?_ _) | (with_reducible refine Below.setRow ?_ ?_ _) | go_size))).mono hb6.size))⟩
    · obtain rfl : k = Ls.length := by omega
      have hnx2 : Ls.length < Ls.length → p < (framesF (Ls.take (Ls.length + 1))).length := fun h => by omega
      obtain ⟨T, hT, hTl, hTs⟩ := hcutp.out Ls.length k1 hkp hnx2
      injection hT with hX hTr
      subst hX hTr
      obtain ⟨E, hE⟩ : ∃ E, (framesF (Ls.take Ls.length)).length = E := ⟨_, rfl⟩
      rw [hE] at hTl hTs hkp
      rw [hE]
      have hNE : N = (E : Int) := by rw [← HN.out]; omega
      have i3 : (Ls.length : Int) ≤ (Ls.length : Int) := by omega
      have i4 : (Ls.length : Int) ≤ (cap : Int) := by have := HA.out.room; omega
      have HLk := Lib.hid ((HLin.out _ hb6).take k1)
      by_cases hEp : E = p
      · have hS0 : S = 0 := by rw [← HS.out, hTs, if_pos hEp]; rfl
        subst hS0 hNE hEp
        clear hTl hTs HS HN hcutp hE hkp hnx2
        go_wp2_with (go_at_call 22; refine (HSame.out _ _ _ _ _ _ _ _ _ (HL6.out.below (by (repeat' (first | (with_reducible exact Below.refl _ _) | (with_reducible assumption) | (with_reducible refine Below.alloc ?_ ?_ _) | (with_reducible refine Below.drew ?_) | (with_reducible refine below_drewN ?_ _) | (with_reducible refine below_plus ?_ ?_ _ _) | (with_reducible refine Below.setCell ?_ ?_ _) | (with_reducible refine Below.setRow ?_ ?_ _) | go_size)))) (HLk.out.below (by (repeat' (first | (with_reducible exact Below.refl _ _) | (with_reducible assumption) | (with_reducible refine Below.alloc ?_ ?_ _) | (with_reducible refine Below.drew ?_) | (with_reducible refine below_drewN ?_ _) | (with_reducible refine below_plus ?_ ?_ _ _) | (with_reducible refine Below.setCell ?_ ?_ _) | (with_reducible refine Below.setRow ?_ ?_ _) | go_size))))).mono ?_; rw [decide_eq_true (rfl : Ls.take Ls.length = Ls.take Ls.length)]; rintro e w8 ⟨rfl, J8, d8, rfl⟩)
        go_ret
        exact ⟨rfl, junk_of_below (hb6.trans ((show Below wr.heap.size wr _ by (repeat' (first | (with_reducible exact Below.refl _ _) | (with_reducible assumption) | (with_reducible refine Below.alloc ?_ ?_ _) | (with_reducible refine Below.drew ?_) | (with_reducible refine below_drewN ?_ _) | (with_reducible refine below_plus ?_ ?_ _ _) | (with_reducible refine Below.setCell ?_ ?_ _) | (with_reducible refine Below.setRow ?_ ?_ _) | go_size))).mono hb6.size))⟩
      · have hS0 : S = 1 := by rw [← HS.out, hTs, if_neg hEp]; rfl
        have hEp2 : ¬ (E : Int) = (p : Int) := by omega
        subst hS0 hNE
        clear hTl hTs HS HN hcutp hE hkp hnx2
        go_wp2_with (go_at_call 22; refine (HSame.out _ _ _ _ _ _ _ _ _ (HL6.out.below (by (repeat' (first | (with_reducible exact Below.refl _ _) | (with_reducible assumption) | (with_reducible refine Below.alloc ?_ ?_ _) | (with_reducible refine Below.drew ?_) | (with_reducible refine below_drewN ?_ _) | (with_reducible refine below_plus ?_ ?_ _ _) | (with_reducible refine Below.setCell ?_ ?_ _) | (with_reducible refine Below.setRow ?_ ?_ _) | go_size)))) (HLk.out.below (by (repeat' (first | (with_reducible exact Below.refl _ _) | (with_reducible assumption) | (with_reducible refine Below.alloc ?_ ?_ _) | (with_reducible refine Below.drew ?_) | (with_reducible refine below_drewN ?_ _) | (with_reducible refine below_plus ?_ ?_ _ _) | (with_reducible refine Below.setCell ?_ ?_ _) | (with_reducible refine Below.setRow ?_ ?_ _) | go_size))))).mono ?_; rw [decide_eq_true (rfl : Ls.take Ls.length = Ls.take Ls.length)]; rintro e w8 ⟨rfl, J8, d8, rfl⟩)
        go_ret
        exact ⟨rfl, junk_of_below (hb6.trans ((show Below wr.heap.size wr _ by (repeat' (first | (with_reducible exact Below.refl _ _) | (with_reducible assumption) | (with_reducible refine Below.alloc ?_ ?_ _) | (with_reducible refine Below.drew ?_) | (with_reducible refine below_drewN ?_ _) | (with_reducible refine below_plus ?_ ?_ _ _) | (with_reducible refine Below.setCell ?_ ?_ _) | (with_reducible refine Below.setRow ?_ ?_ _) | go_size))).mono hb6.size))⟩
end Go.Proofs.Ytfapldajodobhaa

/- Law FrameHeads. -/
import Derived.Test.YtfapldajodobhaaFrH
import Derived.BigRegion
namespace Go.Proofs.Ytfapldajodobhaa
set_option linter.unusedVariables false
set_option linter.unusedSimpArgs false
open Go.RowKit

set_option maxRecDepth 100000 in
set_option maxHeartbeats 4000000 in
theorem l_frameHeads (w : World) (a : Option Addr) (len cap : Nat) (Ls : List (List UInt8)) (which bit : Int) (hwh : I64 which) (hbi : I64 bit) (h : LArg w a len cap Ls) :
    Calls Try.prog 8 #[.slice a len cap, .int .i64 which, .int .i64 bit] w fun e w' => e = .returned (.bool true) ∧ Junk w w' := by
  have HAw := Lib.hid l_awake
  have hL := h.len_eq
  subst hL
  by_cases h20 : 20 < Ls.length
  · have e1 : (20 : Int) < (Ls.length : Int) := by omega
    clear h hwh hbi
    go_enter Try.func8, Try.ntmps8
    go_wp2_with (go_at_call 19; refine (HAw.out _).mono ?_; rintro e w10 ⟨rfl, J10, d10, rfl⟩)
    go_ret
    exact ⟨rfl, junk_of_below (by (repeat' (first | (with_reducible exact Below.refl _ _) | (with_reducible assumption) | (with_reducible refine Below.alloc ?_ ?_ _) | (with_reducible refine Below.drew ?_) | (with_reducible refine below_drewN ?_ _) | (with_reducible refine below_plus ?_ ?_ _ _) | (with_reducible refine Below.setCell ?_ ?_ _) | (with_reducible refine Below.setRow ?_ ?_ _) | go_size)))⟩
  have e1 : ¬ (20 : Int) < (Ls.length : Int) := by omega
  by_cases h0 : Ls.length = 0
  · have e2 : (Ls.length : Int) = 0 := by omega
    clear h hwh hbi
    go_enter Try.func8, Try.ntmps8
    go_wp2_with (go_at_call 19; refine (HAw.out _).mono ?_; rintro e w10 ⟨rfl, J10, d10, rfl⟩)
    go_ret
    exact ⟨rfl, junk_of_below (by (repeat' (first | (with_reducible exact Below.refl _ _) | (with_reducible assumption) | (with_reducible refine Below.alloc ?_ ?_ _) | (with_reducible refine Below.drew ?_) | (with_reducible refine below_drewN ?_ _) | (with_reducible refine below_plus ?_ ?_ _ _) | (with_reducible refine Below.setCell ?_ ?_ _) | (with_reducible refine Below.setRow ?_ ?_ _) | go_size)))⟩
  have e2 : ((Ls.length : Int) == 0) = false := by rw [beq_eq_false_iff_ne]; omega
  have HA := Lib.hid h
  have HAll := Lib.hid (fun w' (h : LArg w' a Ls.length cap Ls) => l_all w' a Ls.length cap Ls h (by omega))
  have HSame := Lib.hid (fun w' a b n m ca cb Ls Ms h1 h2 => k_SameLists w' a b n m ca cb Ls Ms h1 h2)
  have HSc := Lib.hid (fun w' a len cap L h => n_Scan w' a len cap L h)
  have hp1 := fun w' => k_Pick w' which (Ls.length : Int) hwh ⟨by omega, by omega⟩
  have hp2 := fun w' => k_Pick w' bit 64 hbi ⟨by decide, by decide⟩
  have hm0 := Int.emod_nonneg which (show (Ls.length : Int) ≠ 0 by omega)
  have hm1 := Int.emod_lt_of_pos which (show (0 : Int) < (Ls.length : Int) by omega)
  have hn0 := Int.emod_nonneg bit (show (64 : Int) ≠ 0 by decide)
  have hn1 := Int.emod_lt_of_pos bit (show (0 : Int) < 64 by decide)
  rw [if_neg (by omega)] at hp1
  rw [if_neg (by decide)] at hp2
  obtain ⟨k, hk⟩ : ∃ k : Nat, which % (Ls.length : Int) = (k : Int) := ⟨(which % (Ls.length : Int)).toNat, by omega⟩
  obtain ⟨q, hq⟩ : ∃ q : Nat, bit % 64 = (q : Int) := ⟨(bit % 64).toNat, by omega⟩
  rw [hk] at hp1 hm0 hm1
  rw [hq] at hp2 hn0 hn1
  have hkl : k < Ls.length := by omega
  have hq64 : q < 64 := by omega
  have HP1 := Lib.hid hp1
  have HP2 := Lib.hid hp2
  clear h hp1 hp2 hm0 hm1 hn0 hn1 hk hq hwh hbi
  go_enter Try.func8, Try.ntmps8
  go_wp2_with fail
  refine (HAw.out _).mono ?_
  rintro e w1 ⟨rfl, hj1⟩
  have hb1 := hj1.below
  clear hj1 HAw
  go_wp2_with fail
  refine (HAll.out _ (HA.out.below hb1)).mono ?_
  rintro e w2 ⟨⟨hbig, rfl⟩ | ⟨hsm, v, u, rfl, hv, hu⟩, hj2⟩
  · have hb2 := hj2.below
    go_wp2
    go_ret
    exact ⟨rfl, junk_of_below (hb1.trans (hb2.mono hb1.size))⟩
  have hb2 := hb1.trans (hj2.below.mono hb1.size)
  have hfb := frames_bound Ls 1000 hsm
  have hfb2 : Ls.length * (1000 + 12) ≤ 20 * 1012 := Nat.mul_le_mul (by omega) (by omega)
  have hsm6 : ∀ L ∈ Ls, L.length ≤ 65536 := fun L hL => by have := hsm L hL; omega
  obtain ⟨ab, cb, rfl, _⟩ := bin_of_owns hv (by omega)
  obtain ⟨au, cu, rfl, hcu⟩ := row_form hu
  have HLin := Lib.hid (fun w' (hb : Below w.heap.size w w') => ((HA.out.below hb).lin (by omega) (fun L hL => by have := hsm L hL; omega)).take (Nat.le_of_lt hkl))
  have hft := frames_take Ls k hkl
  have hfa := frames_at Ls k hkl
  have hrl : Ls[k].length ≤ 1000 := hsm _ (by simp)
  obtain ⟨S0, hS0⟩ : ∃ S0, (framesF (Ls.take k)).length = S0 := ⟨_, rfl⟩
  obtain ⟨S1, hS1⟩ : ∃ S1, (framesF (Ls.take (k + 1))).length = S1 := ⟨_, rfl⟩
  have hS01 : S1 = S0 + (Ls[k].length + 12) := by rw [← hS1, hft, List.length_append, hS0, frameF_len]
  have hSF : S1 ≤ (framesF Ls).length := by rw [hfa, List.length_append, List.length_append, hS0, frameF_len]; omega
  obtain ⟨g, rfl, hcell⟩ := row_cell hu (endsF_get Ls Ls.length k hkl)
  rw [hS1] at hcell
  have hcell0 : 0 < k → w2.cell? ⟨g, k - 1, none⟩ = some (.int .i64 (S0 : Int)) := fun hk0 => by
    obtain ⟨g2, he, hc⟩ := row_cell hu (endsF_get Ls Ls.length (k - 1) (by omega))
    injection he with he
    injection he with he _ _
    subst he
    rw [show k - 1 + 1 = k by omega, hS0] at hc
    exact hc
  have HV2 := Lib.hid hv
  have HFA := Lib.hid hfa
  have HTF := Lib.hid (head_turned Ls[k] (framesF (Ls.drop (k + 1))) (by omega) (q / 8) (q % 8) (by omega) (by omega))
  have HSt := Lib.hid (fun X hX => scan_stop (Ls.take k) (fun L hL => hsm6 L (List.mem_of_mem_take hL)) X hX)
  obtain ⟨F, hF⟩ : ∃ F, framesF Ls = F := ⟨_, rfl⟩
  obtain ⟨FL, hFL⟩ : ∃ FL, F.length = FL := ⟨_, rfl⟩
  rw [hF] at HV2 HFA hSF hfb
  rw [hFL] at HV2 hSF hfb
  rw [hF, hFL]
  have HFL := Lib.hid hFL
  have HS0 := Lib.hid hS0
  have hk0 : k = 0 → S0 = 0 := fun h => by rw [← hS0, h]; rfl
  have hrl0 : 0 ≤ Ls[k].length := Nat.zero_le _
  obtain ⟨rl, hrl1⟩ : ∃ rl, Ls[k].length = rl := ⟨_, rfl⟩
  rw [hrl1] at hS01 hrl
  have hb2w := hj2.below
  clear hv hu hft hfa hS0 hS1 hsm hsm6 hj2 hF hFL HAll HSc hrl1 hrl0
  go_wp2_with fail
  refine (HP1.out _).mono ?_
  rintro e w3 ⟨rfl, hj3⟩
  have hb23 := hj3.below
  go_wp2_with fail
  refine (HP2.out _).mono ?_
  rintro e w4 ⟨rfl, hj4⟩
  have hb24 : Below w2.heap.size w2 w4 := hb23.trans (hj4.below.mono hb23.size)
  have hb4 := hb2.trans (hb24.mono hb2.size)
  have hcell4 := (World.cell?_of_block (hb24.block g (World.block_lt_of_cell? _ _ hcell))).trans hcell
  have hcell40 : 0 < k → w4.cell? ⟨g, k - 1, none⟩ = some (.int .i64 (S0 : Int)) := fun h => (World.cell?_of_block (hb24.block g (World.block_lt_of_cell? _ _ hcell))).trans (hcell0 h)
  have HV4 := Lib.hid (HV2.out.below hb24)
  clear hj3 hj4 hb23 hb24 hcell hcell0 HP1 HP2 HV2
  have c1 : (k : Int) < (Ls.length : Int) := by omega
  go_upto_if 41 with fail
  go_cut [11] from 40 to 46 (fun t wx => t = .int .i64 (S0 : Int) ∧ wx = w4)
  case first =>
    by_cases hkz : k = 0
    · have hz := Lib.hid (hk0 hkz)
      subst hkz
      clear hcell4 hcell40 hk0
      go_wp2
      go_meet
      case rel => exact ⟨by rw [hz.out]; first | rfl | simp, rfl⟩
    · have c2 : (0 : Int) < (k : Int) := by omega
      have c3 : IntKind.i64.wrap ((k : Int) - 1) = ((k - 1 : Nat) : Int) := by simp [IntKind.wrap, IntKind.signed, IntKind.bits]; omega
      have c4 : ((k - 1 : Nat) : Int) < (Ls.length : Int) := by omega
      have hc := hcell40 (by omega)
      clear hcell4 hcell40 hk0
      go_wp2
      go_meet
      case rel => exact ⟨rfl, rfl⟩
  case rest =>
    obtain ⟨rfl, rfl⟩ := hcut
    have c5 : ¬ (FL : Int) < (S1 : Int) := by omega
    have c6 : IntKind.i64.wrap ((S1 : Int) - (S0 : Int)) = ((S1 - S0 : Nat) : Int) := by simp [IntKind.wrap, IntKind.signed, IntKind.bits]; omega
    have c7 : ¬ ((S1 - S0 : Nat) : Int) < 12 := by omega
    obtain ⟨gb, rfl, hgb, hFl, hFc, hat⟩ := bowns_at HV4.out (by omega)
    obtain ⟨I, hI⟩ : ∃ I, S0 + q / 8 = I := ⟨_, rfl⟩
    obtain ⟨hcI, hfI, hset⟩ := hat I (by omega)
    have c8 : (I : Int) < (FL : Int) := by omega
    have c9 : (q : Int).tdiv 8 = ((q / 8 : Nat) : Int) := by rw [Int.tdiv_eq_ediv_of_nonneg (by omega)]; simp
    have c10 : (q : Int).tmod 8 = ((q % 8 : Nat) : Int) := by rw [Int.tmod_eq_emod_of_nonneg (by omega)]; simp
    have c11 : IntKind.i64.wrap ((S0 : Int) + ((q / 8 : Nat) : Int)) = (I : Int) := by simp [IntKind.wrap, IntKind.signed, IntKind.bits]; omega
    clear hcell40 hat hk0
    go_upto_region 13 with fail
    have hFI : byteAt F I = byteAt (frameF Ls[k] ++ framesF (Ls.drop (k + 1))) (q / 8) := by
      rw [HFA.out, ← hI, ← HS0.out]
      exact byteAt_app _ _ _
    obtain ⟨X, hX⟩ : ∃ X, frameF Ls[k] ++ framesF (Ls.drop (k + 1)) = X := ⟨_, rfl⟩
    rw [hX] at hFI HFA HTF
    have hXl : X.length = FL - S0 := by
      have := congrArg List.length HFA.out
      rw [HFL.out, List.length_append, HS0.out] at this
      omega
    have hbl := byte_lt F I
    obtain ⟨z, hz⟩ : ∃ z, byteAt F I ^^^ 2 ^ (q % 8) = z := ⟨_, rfl⟩
    have hzl : z < 256 := by rw [← hz]; exact xor_pow_lt _ _ hbl (by omega)
    have ht8 : q % 8 < 8 := by omega
    have hxz : bits .xor .u8 (byteAt F I : Int) (2 ^ (q % 8) % 256) = (((UInt8.ofNat z).toNat : Nat) : Int) := by
      rw [← hz]; exact turn_val _ _ hbl ht8
    have hset2 := hset (UInt8.ofNat z)
    have hFs : F.set I (UInt8.ofNat z) = framesF (Ls.take k) ++ X.set (q / 8) (UInt8.ofNat z) := by
      rw [HFA.out, ← hI, ← HS0.out, List.set_append_right _ _ (Nat.le_add_right _ _), Nat.add_sub_cancel_left]
    rw [hFI] at hz
    rw [hz] at HTF
    have hscan := HSt.out (X.set (q / 8) (UInt8.ofNat z)) (split_bad (.inl HTF.out))
    rw [← hFs] at hscan
    have hstt : stateF (X.set (q / 8) (UInt8.ofNat z)) = 2 := state_bad (torn_not (by rw [List.length_set, hXl]; omega) (.inl HTF.out))
    have hXsl : (X.set (q / 8) (UInt8.ofNat z)).length = FL - S0 := by rw [List.length_set, hXl]
    obtain ⟨F', hF'⟩ : ∃ F', F.set I (UInt8.ofNat z) = F' := ⟨_, rfl⟩
    have hFl' : F'.length = FL := by rw [← hF', List.length_set, HFL.out]
    rw [hF'] at hset2 hscan
    have hbs : Below w.heap.size w ((wc.setCell ⟨gb, I, none⟩ (.int .u8 (((UInt8.ofNat z).toNat : Nat) : Int))).drew) := (hb4.setCell (p := ⟨gb, I, none⟩) (show w.heap.size ≤ gb by have := hb1.size; omega) _).drew
    have hset3 : BOwns ((wc.setCell ⟨gb, I, none⟩ (.int .u8 (((UInt8.ofNat z).toNat : Nat) : Int))).drew) w1.heap.size (.slice (some ⟨gb, 0, none⟩) FL cb) F' := hset2
    have hxz2 := Lib.hid hxz
    obtain ⟨V, hV⟩ : ∃ V : Value, .int .u8 (((UInt8.ofNat z).toNat : Nat) : Int) = V := ⟨_, rfl⟩
    rw [hV] at hbs hset3
    have HV := Lib.hid (show Value.int .u8 (bits .xor .u8 (byteAt F I : Int) (2 ^ (q % 8) % 256)) = V by rw [hxz]; exact hV)
    clear hset hset2 hxz hxz2 hV hFs hF' hFI hz HTF hbl hzl ht8 HFA
    go_upto_region 13 with fail
    go_region
    rw [HV.out]
    generalize (wc.setCell ⟨gb, I, none⟩ V).drew = w5 at *
    have HB5 := Lib.hid (show BIn w5 (some ⟨gb, 0, none⟩) FL F' cb from ⟨⟨hFl', (breads_here hset3).2⟩, (fun h => by cases h), by omega, by omega⟩)
    have hSp := n_Scan w5 _ _ _ _ HB5.out
    unfold ScanRes at hSp
    rw [hscan, hstt, hXsl, hFl', show FL - (FL - S0) = S0 by omega] at hSp
    have HSp := Lib.hid hSp
    have HLS := Lib.hid (fun w' base v ps (h : LOwns w' base v ps) (hp : ps.map (·.2) = (scanF F').1) => lin_scan h hp (by omega))
    rw [hscan] at HLS
    obtain ⟨Y, hY⟩ : ∃ Y, Ls.take k = Y := ⟨_, rfl⟩
    rw [hY] at HSp HLS HLin
    obtain ⟨YL, hYL⟩ : ∃ YL, Y.length = YL := ⟨_, rfl⟩
    rw [show ((Y, X.set (q / 8) (UInt8.ofNat z)) : List (List UInt8) × List UInt8).1.length = YL from hYL] at HLS
    have HL5 := Lib.hid (HLin.out _ hbs)
    have i1 : (k : Int) ≤ (cap : Int) := by have := HA.out.room; omega
    have hcur : (k : Int) ≤ (Ls.length : Int) := by omega
    clear hSp hscan hstt hXsl hXl hset3 HB5 HV HLin hY hYL hFl hFl' HSt HS0 HFL hcI hfI hcell4 HV4
    go_wp2_with fail
    refine HSp.out.mono ?_
    rintro e w6 ⟨⟨v6, qs, rfl, hqs, hlo6⟩, hj6⟩
    have hb56 := hj6.below
    have hb6 := hbs.trans (hb56.mono hbs.size)
    obtain ⟨a6, c6', e6, hL6⟩ := HLS.out _ _ _ _ hlo6 hqs
    subst e6
    have HL6 := Lib.hid hL6
    have HL56 := Lib.hid (HL5.out.below hb56)
    clear hlo6 hL6 hqs hj6 hb56 HSp HLS HL5
    go_wp2_with (go_at_call 22; refine (HSame.out _ _ _ _ _ _ _ _ _ (HL6.out.below (by (repeat' (first | (with_reducible exact Below.refl _ _) | (with_reducible assumption) | (with_reducible refine Below.alloc ?_ ?_ _) | (with_reducible refine Below.drew ?_) | (with_reducible refine below_drewN ?_ _) | (with_reducible refine below_plus ?_ ?_ _ _) | (with_reducible refine Below.setCell ?_ ?_ _) | (with_reducible refine Below.setRow ?_ ?_ _) | go_size)))) (HL56.out.below (by (repeat' (first | (with_reducible exact Below.refl _ _) | (with_reducible assumption) | (with_reducible refine Below.alloc ?_ ?_ _) | (with_reducible refine Below.drew ?_) | (with_reducible refine below_drewN ?_ _) | (with_reducible refine below_plus ?_ ?_ _ _) | (with_reducible refine Below.setCell ?_ ?_ _) | (with_reducible refine Below.setRow ?_ ?_ _) | go_size))))).mono ?_; rw [decide_eq_true (rfl : Y = Y)]; rintro e w8 ⟨rfl, J8, d8, rfl⟩)
    go_ret
    exact ⟨rfl, junk_of_below (hb6.trans ((show Below w6.heap.size w6 _ by (repeat' (first | (with_reducible exact Below.refl _ _) | (with_reducible assumption) | (with_reducible refine Below.alloc ?_ ?_ _) | (with_reducible refine Below.drew ?_) | (with_reducible refine below_drewN ?_ _) | (with_reducible refine below_plus ?_ ?_ _ _) | (with_reducible refine Below.setCell ?_ ?_ _) | (with_reducible refine Below.setRow ?_ ?_ _) | go_size))).mono hb6.size))⟩
end Go.Proofs.Ytfapldajodobhaa

/- Law FrameTurned. -/
import Derived.Test.YtfapldajodobhaaFrH
import Derived.BigRegion
namespace Go.Proofs.Ytfapldajodobhaa
set_option linter.unusedVariables false
set_option linter.unusedSimpArgs false
open Go.RowKit

theorem wf_u32 {n : Int} (h : (Lit.int .u32 n).wf = true) : 0 ≤ n ∧ n ≤ 4294967295 := by
  have e1 : IntKind.u32.min = 0 := by decide
  have e2 : IntKind.u32.max = 4294967295 := by decide
  simp [Lit.wf] at h
  omega
theorem mul_xor (k a b : Nat) : 2 ^ k * (a ^^^ b) = 2 ^ k * a ^^^ 2 ^ k * b := by
  apply Nat.eq_of_testBit_eq
  intro i
  rw [Nat.testBit_two_pow_mul, Nat.testBit_xor, Nat.testBit_xor, Nat.testBit_two_pow_mul, Nat.testBit_two_pow_mul]
  by_cases hi : k ≤ i <;> simp [hi]
/-- One bit more of the mask. -/
theorem turn_more (fr i mk : Nat) : 2 ^ fr * (mk % 2 ^ (i + 1)) = 2 ^ fr * (mk % 2 ^ i) ^^^ (if mk / 2 ^ i % 2 = 1 then 2 ^ (fr + i) else 0) := by
  rw [Nat.mod_pow_succ, add_xor i _ _ (Nat.mod_lt _ (Nat.two_pow_pos i)), mul_xor]
  congr 1
  rcases Nat.mod_two_eq_zero_or_one (mk / 2 ^ i) with h | h <;> rw [h]
  · simp
  · simp [Nat.pow_add]

def TurnAt (w4 : World) (base gb FL cb : Nat) (P B D0 : List UInt8) (fr mk : Nat) (i : Value) (wr : World) : Prop :=
  ∃ (n : Nat) (D : List UInt8), i = .int .i64 (n : Int) ∧ n ≤ 32 ∧ D.length = D0.length ∧ leNum D = leNum D0 ^^^ 2 ^ fr * (mk % 2 ^ n) ∧ BOwns wr base (.slice (some ⟨gb, 0, none⟩) FL cb) (P ++ (D ++ B)) ∧ Below base w4 wr
theorem turn_step {w4 wr : World} {base gb FL cb : Nat} {P B D0 D : List UInt8} {fr mk n : Nat} (hn : n < 32) (hD : D.length = D0.length) (hN : leNum D = leNum D0 ^^^ 2 ^ fr * (mk % 2 ^ n)) (hFL : (P ++ (D ++ B)).length = FL) (hpos : 0 < FL)
    (hv : BOwns wr base (.slice (some ⟨gb, 0, none⟩) FL cb) (P ++ (D ++ B))) (hb : Below base w4 wr) (hj : (fr + n) / 8 < D0.length) (hbit : mk / 2 ^ n % 2 = 1) (I : Nat) (hI : P.length + (fr + n) / 8 = I) :
    wr.cell? ⟨gb, I, none⟩ = some (.int .u8 (byteAt D ((fr + n) / 8))) ∧ wr.frozen? ⟨gb, I, none⟩ = false ∧
      TurnAt w4 base gb FL cb P B D0 fr mk (.int .i64 ((n + 1 : Nat) : Int)) ((wr.setCell ⟨gb, I, none⟩ (.int .u8 (bits .xor .u8 (byteAt D ((fr + n) / 8) : Int) (2 ^ ((fr + n) % 8) % 256)))).drew) := by
  obtain ⟨g, hg, hgb, hFl, hFc, hat⟩ := bowns_at hv hpos
  injection hg with hg
  injection hg with hg _ _
  subst hg
  have hIl : I < FL := by rw [← hFL, List.length_append, List.length_append, ← hI]; omega
  obtain ⟨h1, h2, h3⟩ := hat I hIl
  have hby : byteAt (P ++ (D ++ B)) I = byteAt D ((fr + n) / 8) := by
    rw [← hI, byteAt_app]
    unfold byteAt
    rw [List.getD_eq_getElem?_getD, List.getD_eq_getElem?_getD, List.getElem?_append_left (by omega)]
  rw [hby] at h1
  refine ⟨h1, h2, n + 1, D.set ((fr + n) / 8) (UInt8.ofNat (byteAt D ((fr + n) / 8) ^^^ 2 ^ ((fr + n) % 8))), rfl, by omega, by rw [List.length_set, hD], ?_, ?_, (hb.setCell (p := ⟨gb, I, none⟩) hgb _).drew⟩
  · rw [leNum_turn D _ _ (by omega) (by omega), hN, turn_more, if_pos hbit, Nat.xor_assoc]
    congr 3
    omega
  · rw [turn_val _ _ (byte_lt _ _) (by omega)]
    have h4 := h3 (UInt8.ofNat (byteAt D ((fr + n) / 8) ^^^ 2 ^ ((fr + n) % 8)))
    rw [← hI, List.set_append_right _ _ (Nat.le_add_right _ _), Nat.add_sub_cancel_left, List.set_append_left _ _ (by omega), hI] at h4
    exact h4

set_option maxRecDepth 100000 in
set_option maxHeartbeats 4000000 in
theorem l_frameTurned (w : World) (a : Option Addr) (len cap : Nat) (Ls : List (List UInt8)) (which from_ mask : Int) (hwh : I64 which) (hfr : I64 from_) (hmk : 0 ≤ mask ∧ mask ≤ 4294967295) (h : LArg w a len cap Ls) :
    Calls Try.prog 7 #[.slice a len cap, .int .i64 which, .int .i64 from_, .int .u32 mask] w fun e w' => e = .returned (.bool true) ∧ Junk w w' := by
  have HAw := Lib.hid l_awake
  have hL := h.len_eq
  subst hL
  by_cases h20 : 20 < Ls.length
  · have e1 : (20 : Int) < (Ls.length : Int) := by omega
    clear h hwh hfr hmk
    go_enter Try.func7, Try.ntmps7
    go_wp2_with (go_at_call 19; refine (HAw.out _).mono ?_; rintro e w10 ⟨rfl, J10, d10, rfl⟩)
    go_ret
    exact ⟨rfl, junk_of_below (by (repeat' (first | (with_reducible exact Below.refl _ _) | (with_reducible assumption) | (with_reducible refine Below.alloc ?_ ?_ _) | (with_reducible refine Below.drew ?_) | (with_reducible refine below_drewN ?_ _) | (with_reducible refine below_plus ?_ ?_ _ _) | (with_reducible refine Below.setCell ?_ ?_ _) | (with_reducible refine Below.setRow ?_ ?_ _) | go_size)))⟩
  have e1 : ¬ (20 : Int) < (Ls.length : Int) := by omega
  by_cases h0 : Ls.length = 0
  · have e2 : (Ls.length : Int) = 0 := by omega
    clear h hwh hfr hmk
    go_enter Try.func7, Try.ntmps7
    go_wp2_with (go_at_call 19; refine (HAw.out _).mono ?_; rintro e w10 ⟨rfl, J10, d10, rfl⟩)
    go_ret
    exact ⟨rfl, junk_of_below (by (repeat' (first | (with_reducible exact Below.refl _ _) | (with_reducible assumption) | (with_reducible refine Below.alloc ?_ ?_ _) | (with_reducible refine Below.drew ?_) | (with_reducible refine below_drewN ?_ _) | (with_reducible refine below_plus ?_ ?_ _ _) | (with_reducible refine Below.setCell ?_ ?_ _) | (with_reducible refine Below.setRow ?_ ?_ _) | go_size)))⟩
  have e2 : ((Ls.length : Int) == 0) = false := by rw [beq_eq_false_iff_ne]; omega
  obtain ⟨mk, rfl⟩ : ∃ mk : Nat, mask = (mk : Int) := ⟨mask.toNat, by omega⟩
  have hmk2 : mk < 4294967296 := by omega
  by_cases hm0 : mk = 0
  · subst hm0
    clear h hwh hfr hmk
    go_enter Try.func7, Try.ntmps7
    go_wp2_with (go_at_call 19; refine (HAw.out _).mono ?_; rintro e w10 ⟨rfl, J10, d10, rfl⟩)
    go_ret
    exact ⟨rfl, junk_of_below (by (repeat' (first | (with_reducible exact Below.refl _ _) | (with_reducible assumption) | (with_reducible refine Below.alloc ?_ ?_ _) | (with_reducible refine Below.drew ?_) | (with_reducible refine below_drewN ?_ _) | (with_reducible refine below_plus ?_ ?_ _ _) | (with_reducible refine Below.setCell ?_ ?_ _) | (with_reducible refine Below.setRow ?_ ?_ _) | go_size)))⟩
  have e3 : ((mk : Int) == 0) = false := by rw [beq_eq_false_iff_ne]; omega
  have HA := Lib.hid h
  have HAll := Lib.hid (fun w' (h : LArg w' a Ls.length cap Ls) => l_all w' a Ls.length cap Ls h (by omega))
  have HSame := Lib.hid (fun w' a b n m ca cb Ls Ms h1 h2 => k_SameLists w' a b n m ca cb Ls Ms h1 h2)
  have HSc := Lib.hid (fun w' a len cap L h => n_Scan w' a len cap L h)
  have hp1 := fun w' => k_Pick w' which (Ls.length : Int) hwh ⟨by omega, by omega⟩
  have hm0' := Int.emod_nonneg which (show (Ls.length : Int) ≠ 0 by omega)
  have hm1 := Int.emod_lt_of_pos which (show (0 : Int) < (Ls.length : Int) by omega)
  rw [if_neg (by omega)] at hp1
  obtain ⟨k, hk⟩ : ∃ k : Nat, which % (Ls.length : Int) = (k : Int) := ⟨(which % (Ls.length : Int)).toNat, by omega⟩
  rw [hk] at hp1 hm0' hm1
  have hkl : k < Ls.length := by omega
  have HP1 := Lib.hid hp1
  clear h hp1 hm0' hm1 hk hwh hmk
  go_enter Try.func7, Try.ntmps7
  go_wp2_with fail
  refine (HAw.out _).mono ?_
  rintro e w1 ⟨rfl, hj1⟩
  have hb1 := hj1.below
  clear hj1 HAw
  go_wp2_with fail
  refine (HAll.out _ (HA.out.below hb1)).mono ?_
  rintro e w2 ⟨⟨hbig, rfl⟩ | ⟨hsm, v, u, rfl, hv, hu⟩, hj2⟩
  · have hb2 := hj2.below
    go_wp2
    go_ret
    exact ⟨rfl, junk_of_below (hb1.trans (hb2.mono hb1.size))⟩
  have hb2 := hb1.trans (hj2.below.mono hb1.size)
  have hfb := frames_bound Ls 1000 hsm
  have hfb2 : Ls.length * (1000 + 12) ≤ 20 * 1012 := Nat.mul_le_mul (by omega) (by omega)
  have hsm6 : ∀ L ∈ Ls, L.length ≤ 65536 := fun L hL => by have := hsm L hL; omega
  obtain ⟨ab, cb, rfl, _⟩ := bin_of_owns hv (by omega)
  obtain ⟨au, cu, rfl, hcu⟩ := row_form hu
  have HLin := Lib.hid (fun w' (hb : Below w.heap.size w w') => ((HA.out.below hb).lin (by omega) (fun L hL => by have := hsm L hL; omega)).take (Nat.le_of_lt hkl))
  have hft := frames_take Ls k hkl
  have hfa := frames_at Ls k hkl
  have hrl : Ls[k].length ≤ 1000 := hsm _ (by simp)
  obtain ⟨S0, hS0⟩ : ∃ S0, (framesF (Ls.take k)).length = S0 := ⟨_, rfl⟩
  obtain ⟨S1, hS1⟩ : ∃ S1, (framesF (Ls.take (k + 1))).length = S1 := ⟨_, rfl⟩
  have hS01 : S1 = S0 + (Ls[k].length + 12) := by rw [← hS1, hft, List.length_append, hS0, frameF_len]
  have hSF : S1 ≤ (framesF Ls).length := by rw [hfa, List.length_append, List.length_append, hS0, frameF_len]; omega
  obtain ⟨g, rfl, hcell⟩ := row_cell hu (endsF_get Ls Ls.length k hkl)
  rw [hS1] at hcell
  have hcell0 : 0 < k → w2.cell? ⟨g, k - 1, none⟩ = some (.int .i64 (S0 : Int)) := fun hk0 => by
    obtain ⟨g2, he, hc⟩ := row_cell hu (endsF_get Ls Ls.length (k - 1) (by omega))
    injection he with he
    injection he with he _ _
    subst he
    rw [show k - 1 + 1 = k by omega, hS0] at hc
    exact hc
  have HV2 := Lib.hid hv
  have HFA := Lib.hid hfa
  have htf := fun (D : List UInt8) (fr : Nat) => rec_turned Ls[k] (framesF (Ls.drop (k + 1))) D (by omega) fr mk
  have HTF := Lib.hid (fun D fr hl hf hN => htf D fr hl (by omega) hmk2 hf hN)
  clear htf
  have HSt := Lib.hid (fun X hX => scan_stop (Ls.take k) (fun L hL => hsm6 L (List.mem_of_mem_take hL)) X hX)
  obtain ⟨F, hF⟩ : ∃ F, framesF Ls = F := ⟨_, rfl⟩
  obtain ⟨FL, hFL⟩ : ∃ FL, F.length = FL := ⟨_, rfl⟩
  rw [hF] at HV2 HFA hSF hfb
  rw [hFL] at HV2 hSF hfb
  rw [hF, hFL]
  have HFL := Lib.hid hFL
  have HS0 := Lib.hid hS0
  have hk0 : k = 0 → S0 = 0 := fun h => by rw [← hS0, h]; rfl
  have hrl0 : 0 ≤ Ls[k].length := Nat.zero_le _
  obtain ⟨rl, hrl1⟩ : ∃ rl, Ls[k].length = rl := ⟨_, rfl⟩
  rw [hrl1] at hS01 hrl
  have HRL := Lib.hid hrl1
  have hb2w := hj2.below
  clear hv hu hft hfa hS0 hS1 hsm hsm6 hj2 hF hFL HAll HSc hrl1 hrl0
  go_wp2_with fail
  refine (HP1.out _).mono ?_
  rintro e w3 ⟨rfl, hj3⟩
  have hb23 := hj3.below
  have hb24 := hb23
  have hb4 := hb2.trans (hb24.mono hb2.size)
  have hcell4 := (World.cell?_of_block (hb24.block g (World.block_lt_of_cell? _ _ hcell))).trans hcell
  have hcell40 : 0 < k → w3.cell? ⟨g, k - 1, none⟩ = some (.int .i64 (S0 : Int)) := fun h => (World.cell?_of_block (hb24.block g (World.block_lt_of_cell? _ _ hcell))).trans (hcell0 h)
  have HV4 := Lib.hid (HV2.out.below hb24)
  clear hj3 hb23 hb24 hcell hcell0 HP1 HV2
  have c1 : (k : Int) < (Ls.length : Int) := by omega
  go_upto_if 48 with fail
  go_cut [13] from 47 to 53 (fun t wx => t = .int .i64 (S0 : Int) ∧ wx = w3)
  case first =>
    by_cases hkz : k = 0
    · have hz := Lib.hid (hk0 hkz)
      subst hkz
      clear hcell4 hcell40 hk0
      go_wp2
      go_meet
      case rel => exact ⟨by rw [hz.out]; first | rfl | simp, rfl⟩
    · have c2 : (0 : Int) < (k : Int) := by omega
      have c3 : IntKind.i64.wrap ((k : Int) - 1) = ((k - 1 : Nat) : Int) := by simp [IntKind.wrap, IntKind.signed, IntKind.bits]; omega
      have c4 : ((k - 1 : Nat) : Int) < (Ls.length : Int) := by omega
      have hc := hcell40 (by omega)
      clear hcell4 hcell40 hk0
      go_wp2
      go_meet
      case rel => exact ⟨rfl, rfl⟩
  case rest =>
    obtain ⟨rfl, rfl⟩ := hcut
    have c5 : ¬ (FL : Int) < (S1 : Int) := by omega
    have c6 : IntKind.i64.wrap ((S1 : Int) - (S0 : Int)) = ((S1 - S0 : Nat) : Int) := by simp [IntKind.wrap, IntKind.signed, IntKind.bits]; omega
    have c7 : ¬ ((S1 - S0 : Nat) : Int) < 12 := by omega
    obtain ⟨gb, rfl, hgb, hFl, hFc, _⟩ := bowns_at HV4.out (by omega)
    obtain ⟨A1, hA1⟩ : ∃ A, S0 + 8 = A := ⟨_, rfl⟩
    obtain ⟨A2, hA2⟩ : ∃ A, 8 * A1 = A := ⟨_, rfl⟩
    obtain ⟨A3, hA3⟩ : ∃ A, 8 * S1 = A := ⟨_, rfl⟩
    obtain ⟨A4, hA4⟩ : ∃ A, 8 * (rl + 4) = A := ⟨_, rfl⟩
    obtain ⟨A5, hA5⟩ : ∃ A, 8 * rl + 1 = A := ⟨_, rfl⟩
    have c8 : IntKind.i64.wrap ((S0 : Int) + 8) = (A1 : Int) := by simp [IntKind.wrap, IntKind.signed, IntKind.bits]; omega
    have c9 : IntKind.i64.wrap (8 * (A1 : Int)) = (A2 : Int) := by simp [IntKind.wrap, IntKind.signed, IntKind.bits]; omega
    have c10 : IntKind.i64.wrap (8 * (S1 : Int)) = (A3 : Int) := by simp [IntKind.wrap, IntKind.signed, IntKind.bits]; omega
    have c11 : IntKind.i64.wrap ((A3 : Int) - (A2 : Int)) = (A4 : Int) := by simp [IntKind.wrap, IntKind.signed, IntKind.bits]; omega
    have c12 : IntKind.i64.wrap ((A4 : Int) - 31) = (A5 : Int) := by simp [IntKind.wrap, IntKind.signed, IntKind.bits]; omega
    have hp2 := k_Pick wc from_ (A5 : Int) hfr ⟨by omega, by omega⟩
    rw [if_neg (by omega)] at hp2
    obtain ⟨q, hq⟩ : ∃ q : Nat, from_ % (A5 : Int) = (q : Int) := ⟨(from_ % (A5 : Int)).toNat, by have := Int.emod_nonneg from_ (show (A5 : Int) ≠ 0 by omega); omega⟩
    have hqA : (q : Int) < (A5 : Int) := by rw [← hq]; exact Int.emod_lt_of_pos from_ (by omega)
    rw [hq] at hp2
    have HP2 := Lib.hid hp2
    obtain ⟨A6, hA6⟩ : ∃ A, A2 + q = A := ⟨_, rfl⟩
    have c13 : IntKind.i64.wrap ((A2 : Int) + (q : Int)) = (A6 : Int) := by simp [IntKind.wrap, IntKind.signed, IntKind.bits]; omega
    have hFe : F = (framesF (Ls.take k) ++ (bytes4 rl ++ bytes4 (4294967295 - rl))) ++ ((Ls[k] ++ bytes4 (sumF Ls[k])) ++ framesF (Ls.drop (k + 1))) := by
      rw [HFA.out]
      unfold frameF
      rw [HRL.out]
      simp
    have hPl : (framesF (Ls.take k) ++ (bytes4 rl ++ bytes4 (4294967295 - rl))).length = A1 := by simp [HS0.out]; omega
    have hDl : (Ls[k] ++ bytes4 (sumF Ls[k])).length = rl + 4 := by simp [HRL.out]
    have hDq := Lib.hid (show 2 ^ q * (mk % 2 ^ 0) = 0 by rw [Nat.pow_zero, Nat.mod_one, Nat.mul_zero])
    obtain ⟨P, hP⟩ : ∃ P, framesF (Ls.take k) ++ (bytes4 rl ++ bytes4 (4294967295 - rl)) = P := ⟨_, rfl⟩
    obtain ⟨D0, hD0⟩ : ∃ D, Ls[k] ++ bytes4 (sumF Ls[k]) = D := ⟨_, rfl⟩
    obtain ⟨B, hB⟩ : ∃ B, framesF (Ls.drop (k + 1)) = B := ⟨_, rfl⟩
    rw [hP, hD0, hB] at hFe
    rw [hP] at hPl
    rw [hD0] at hDl
    rw [hB] at HTF
    have HP := Lib.hid hP
    have HD0 := Lib.hid hD0
    have hDP : 0 < FL := by omega
    have hFlen : (P ++ (D0 ++ B)).length = FL := by rw [← hFe]; exact HFL.out
    have HFe := Lib.hid hFe
    have HAR := Lib.hid (show 8 * A1 = A2 ∧ A2 + q = A6 ∧ q ≤ 8 * rl ∧ A1 + rl + 4 ≤ FL ∧ P.length = A1 ∧ D0.length = rl + 4 ∧ rl ≤ 1000 ∧ FL ≤ 20 * 1012 ∧ S0 + 8 = A1 from ⟨hA2, hA6, by omega, by omega, hPl, hDl, hrl, by omega, hA1⟩)
    have HFlen := Lib.hid hFlen
    clear hcell40 hk0 hp2 hq hfr hFe hP hD0 hB HFA hA1 hA2 hA3 hA4 hA5 hA6 hS01 hPl hDl hFlen hqA hrl hfb hfb2
    go_wp2_with fail
    refine (HP2.out).mono ?_
    rintro e w4 ⟨rfl, hj4⟩
    have hbc := hj4.below
    have hV5 : BOwns w4 w1.heap.size (.slice (some ⟨gb, 0, none⟩) FL cb) F := HV4.out.below hbc
    have hb5 := hb4.trans (hbc.mono hb4.size)
    clear hj4 HP2 hcell4
    rw [HFe.out] at hV5
    have HV5 := Lib.hid hV5
    clear hV5
    go_wp2_with fail
    go_loopw [16] (fun i wr => TurnAt w4 w1.heap.size gb FL cb P B D0 q mk i wr) (fun i _ => 32 - (intOf i).toNat)
    case atStart => exact ⟨0, D0, rfl, by omega, rfl, by rw [hDq.out, Nat.xor_zero], HV5.out, Below.refl _ _⟩
    case round =>
      obtain ⟨n, D, rfl, hn, hDD, hN, hv, hb⟩ := hrel
      by_cases hlt : n < 32
      · obtain ⟨a1, a2, a3, a4, a5, a6, a7, a8, a9⟩ := HAR.out
        have hFn : (P ++ (D ++ B)).length = FL := by rw [← HFlen.out]; simp [hDD]
        obtain ⟨y, hy⟩ : ∃ y, mk / 2 ^ n = y := ⟨_, rfl⟩
        have hyB : y < 4294967296 := by rw [← hy]; exact Nat.lt_of_le_of_lt (Nat.div_le_self _ _) hmk2
        have e4 : (mk : Int) / 2 ^ n = (y : Int) := by rw [← hy]; simp
        have e5 : (mk : Int) / ((2 ^ n : Nat) : Int) = (y : Int) := by rw [← hy]; simp
        have e6 : (y : Int).tmod 2 = ((y % 2 : Nat) : Int) := by rw [Int.tmod_eq_emod_of_nonneg (by omega)]; simp
        by_cases hbit : y % 2 = 1
        · have e7 : ((y : Int) % 2 == 1) = true := by rw [beq_iff_eq]; omega
          obtain ⟨I, hI⟩ : ∃ I, P.length + (q + n) / 8 = I := ⟨_, rfl⟩
          have hst := turn_step (D0 := D0) hlt hDD hN hFn hDP hv hb (by omega) (by rw [hy]; exact hbit) I hI
          obtain ⟨hcI, hfI, hTA⟩ := hst
          obtain ⟨G, hG⟩ : ∃ G, A6 + n = G := ⟨_, rfl⟩
          have hIF : I < FL := by omega
          have e8 : (I : Int) < (FL : Int) := by omega
          have e9 : IntKind.i64.wrap ((A6 : Int) + (n : Int)) = (G : Int) := by simp [IntKind.wrap, IntKind.signed, IntKind.bits]; omega
          have e10 : (G : Int).tdiv 8 = (I : Int) := by rw [Int.tdiv_eq_ediv_of_nonneg (by omega)]; omega
          obtain ⟨t, ht⟩ : ∃ t, (q + n) % 8 = t := ⟨_, rfl⟩
          have e11 : (G : Int).tmod 8 = (t : Int) := by rw [Int.tmod_eq_emod_of_nonneg (by omega)]; omega
          obtain ⟨bD, hbD⟩ : ∃ x, byteAt D ((q + n) / 8) = x := ⟨_, rfl⟩
          have e12 : IntKind.i64.wrap (I : Int) = (I : Int) := by simp [IntKind.wrap, IntKind.signed, IntKind.bits]; omega
          have e13 : IntKind.i64.wrap (t : Int) = (t : Int) := by simp [IntKind.wrap, IntKind.signed, IntKind.bits]; omega
          rw [hbD] at hcI hTA
          rw [ht] at hTA
          have htl : t < 8 := by omega
          have HTA := Lib.hid hTA
          clear hTA hN hv hb hy hDD hFn hbD hI hG ht a1 a2 a3 a4 a5 a6 a7 a8 a9
          go_upto_region 20 with fail
          go_region
          go_wp2_with fail
          go_roundw
          case rel =>
            have h := HTA.out
            exact h
          case measure => simp [intOf]; omega
        · have e7 : ((y : Int) % 2 == 1) = false := by rw [beq_eq_false_iff_ne]; omega
          have hN2 : leNum D = leNum D0 ^^^ 2 ^ q * (mk % 2 ^ (n + 1)) := by rw [turn_more, hy, if_neg hbit, Nat.xor_zero]; exact hN
          have HTA := Lib.hid (show TurnAt w4 w1.heap.size gb FL cb P B D0 q mk (.int .i64 ((n + 1 : Nat) : Int)) wr from ⟨n + 1, D, rfl, by omega, hDD, hN2, hv, hb⟩)
          clear hN hN2 hv hb hy hDD hFn a1 a2 a3 a4 a5 a6 a7 a8 a9
          go_wp2_with fail
          go_roundw
          case rel =>
            have h := HTA.out
            exact h
          case measure => simp [intOf]; omega
      · obtain rfl : n = 32 := by omega
        obtain ⟨a1, a2, a3, a4, a5, a6, a7, a8, a9⟩ := HAR.out
        have hFn : (P ++ (D ++ B)).length = FL := by rw [← HFlen.out]; simp [hDD]
        rw [show mk % 2 ^ 32 = mk from Nat.mod_eq_of_lt (by omega)] at hN
        obtain ⟨hn1, hn2⟩ := HTF.out D q (by rw [hDD, a6, HRL.out]) (by omega) (by rw [HD0.out]; exact hN)
        rw [HRL.out] at hn1 hn2
        obtain ⟨X, hX⟩ : ∃ X, bytes4 rl ++ (bytes4 (4294967295 - rl) ++ (D ++ B)) = X := ⟨_, rfl⟩
        have hXl : X.length = FL - S0 := by
          rw [← hX, ← hFn]
          simp [a5]
          omega
        have hF2 : P ++ (D ++ B) = framesF (Ls.take k) ++ X := by rw [← HP.out, ← hX]; simp
        rw [hX] at hn1 hn2
        have hscan := HSt.out X hn1
        rw [← hF2] at hscan
        obtain ⟨F', hF'⟩ : ∃ F', P ++ (D ++ B) = F' := ⟨_, rfl⟩
        have hbs := hb5.trans (hb.mono hb1.size)
        rw [hF'] at hv hscan hFn
        have HB5 := Lib.hid (show BIn wr (some ⟨gb, 0, none⟩) FL F' cb from ⟨⟨hFn, (breads_here hv).2⟩, (fun h => by cases h), by omega, by omega⟩)
        have hSp := n_Scan wr _ _ _ _ HB5.out
        unfold ScanRes at hSp
        rw [hscan, hn2, hXl, hFn, show FL - (FL - S0) = S0 by omega] at hSp
        have HSp := Lib.hid hSp
        have HLS := Lib.hid (fun w' base v ps (h : LOwns w' base v ps) (hp : ps.map (·.2) = (scanF F').1) => lin_scan h hp (by omega))
        rw [hscan] at HLS
        have HL5 := Lib.hid (HLin.out _ hbs)
        obtain ⟨Y, hY⟩ : ∃ Y, Ls.take k = Y := ⟨_, rfl⟩
        rw [hY] at HSp HLS HL5
        obtain ⟨YL, hYL⟩ : ∃ YL, Y.length = YL := ⟨_, rfl⟩
        rw [show ((Y, X) : List (List UInt8) × List UInt8).1.length = YL from hYL] at HLS
        have i1 : (k : Int) ≤ (cap : Int) := by have := HA.out.room; omega
        have hcur : (k : Int) ≤ (Ls.length : Int) := by omega
        clear hSp hscan hn1 hn2 hXl hX HB5 hY hYL hFn hF2 hF' hN hDD hv hb HSt HS0 a1 a2 a3 a4 a5 a6 a7 a8 a9 hlt hn HP HD0 HRL HFe HAR HFlen HTF HV5
        go_wp2_with fail
        refine HSp.out.mono ?_
        rintro e w6 ⟨⟨v6, qs, rfl, hqs, hlo6⟩, hj6⟩
        have hb56 := hj6.below
        have hb6 := hbs.trans (hb56.mono hbs.size)
        obtain ⟨a6, c6', e6, hL6⟩ := HLS.out _ _ _ _ hlo6 hqs
        subst e6
        have HL6 := Lib.hid hL6
        have HL56 := Lib.hid (HL5.out.below hb56)
        clear hlo6 hL6 hqs hj6 hb56 HSp HLS HL5
        go_wp2_with (go_at_call 22; refine (HSame.out _ _ _ _ _ _ _ _ _ (HL6.out.below (by (repeat' (first | (with_reducible exact Below.refl _ _) | (with_reducible assumption) | (with_reducible refine Below.alloc ?_ ?_ _) | (with_reducible refine Below.drew ?_) | (with_reducible refine below_drewN ?_ _) | (with_reducible refine below_plus ?_ ?_ _ _) | (with_reducible refine Below.setCell ?_ ?_ _) | (with_reducible refine Below.setRow ?_ ?_ _) | go_size)))) (HL56.out.below (by (repeat' (first | (with_reducible exact Below.refl _ _) | (with_reducible assumption) | (with_reducible refine Below.alloc ?_ ?_ _) | (with_reducible refine Below.drew ?_) | (with_reducible refine below_drewN ?_ _) | (with_reducible refine below_plus ?_ ?_ _ _) | (with_reducible refine Below.setCell ?_ ?_ _) | (with_reducible refine Below.setRow ?_ ?_ _) | go_size))))).mono ?_; rw [decide_eq_true (rfl : Y = Y)]; rintro e w8 ⟨rfl, J8, d8, rfl⟩)
        go_ret
        exact ⟨rfl, junk_of_below (hb6.trans ((show Below w6.heap.size w6 _ by (repeat' (first | (with_reducible exact Below.refl _ _) | (with_reducible assumption) | (with_reducible refine Below.alloc ?_ ?_ _) | (with_reducible refine Below.drew ?_) | (with_reducible refine below_drewN ?_ _) | (with_reducible refine below_plus ?_ ?_ _ _) | (with_reducible refine Below.setCell ?_ ?_ _) | (with_reducible refine Below.setRow ?_ ?_ _) | go_size))).mono hb6.size))⟩
end Go.Proofs.Ytfapldajodobhaa

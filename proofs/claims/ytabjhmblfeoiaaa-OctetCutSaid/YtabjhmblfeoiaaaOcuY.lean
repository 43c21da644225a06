/- The law OctetCut: bytes that are cut short are none. -/
import Derived.Test.YtabjhmblfeoiaaaOcuW
import Derived.Deep.CutRange
namespace Go.Proofs.Ytabjhmblfeoiaaa
set_option linter.unusedVariables false
set_option linter.unusedSimpArgs false
open Go.RowKit

theorem get_short0 {n : Int} (h : I64 n) {j : Nat} (hj : j < (encN n).length) : ∃ r : Int × Int × Int × Int, getP ((encN n).take j) 0 = r ∧ r.2.2.1 = 4 := ⟨_, rfl, get_short h hj⟩

set_option maxRecDepth 100000 in
set_option maxHeartbeats 4000000 in
theorem l_octetCut (n : Int) (hn : I64 n) (s : List UInt8) (a : Option Addr) (len cap : Nat) (zs : List Int) (at' : Int) (ha : I64 at') (w : World) (hR : Reads w a len zs) :
    Calls Try.prog 9 #[.int .i64 n, .string ⟨s.toArray⟩, .slice a len cap, .int .i64 at'] w fun e w' => e = .returned (.bool true) ∧ Junk w w' := by
  have HA := Lib.hid (fun w => l_awake w)
  by_cases hs : 300 < s.length
  · have hs' : (300 : Int) < (s.length : Int) := by omega
    clear hs hn ha hR
    go_enter Try.func9, Try.ntmps9
    go_wp2_with fail
    refine (HA.out _).mono ?_; rintro e w' ⟨rfl, J, dr, rfl⟩
    go_wp2
    go_ret
    exact ⟨rfl, junk_of_below (by (repeat' (first | (with_reducible exact Below.refl _ _) | (with_reducible assumption) | (with_reducible refine Below.alloc ?_ ?_ _) | (with_reducible refine Below.drew ?_) | (with_reducible refine below_drewN ?_ _) | (with_reducible refine below_plus ?_ ?_ _ _) | (with_reducible refine Below.setCell ?_ ?_ _) | (with_reducible refine Below.setRow ?_ ?_ _) | go_size)))⟩
  by_cases hl : 100 < len
  · have hs' : ¬ (300 : Int) < (s.length : Int) := by omega
    have hl' : (100 : Int) < (len : Int) := by omega
    clear hs hn ha hR hl
    go_enter Try.func9, Try.ntmps9
    go_wp2_with fail
    refine (HA.out _).mono ?_; rintro e w' ⟨rfl, J, dr, rfl⟩
    go_wp2
    go_ret
    exact ⟨rfl, junk_of_below (by (repeat' (first | (with_reducible exact Below.refl _ _) | (with_reducible assumption) | (with_reducible refine Below.alloc ?_ ?_ _) | (with_reducible refine Below.drew ?_) | (with_reducible refine below_drewN ?_ _) | (with_reducible refine below_plus ?_ ?_ _ _) | (with_reducible refine Below.setCell ?_ ?_ _) | (with_reducible refine Below.setRow ?_ ?_ _) | go_size)))⟩
  have hs' : ¬ (300 : Int) < (s.length : Int) := by omega
  have hl' : ¬ (100 : Int) < (len : Int) := by omega
  have HPick := Lib.hid (fun W x n hx hn => k_Pick W x n hx hn)
  have HP := Lib.hid (n_Put n hn)
  have HPT := Lib.hid (n_PutText s (by omega))
  have HPL := Lib.hid (fun W (h : Reads W a len zs) => n_PutList W a len cap zs h (by omega))
  have hzl := hR.1
  have hx := reads_i64 hR
  have hA0 := encN_pos n
  have hA1 := encN_le hn
  have hB0 : 1 ≤ (encT s).length := by unfold encT; have := encN_pos (s.length : Int); simp; omega
  have hB1 : (encT s).length ≤ 310 := by unfold encT; have := encN_le (show I64 (s.length : Int) from ⟨by omega, by omega⟩); simp; omega
  have hC0 : 1 ≤ (encL zs).length := by unfold encL; have := encN_pos (zs.length : Int); simp; omega
  have hC1 : (encL zs).length ≤ 1099511627776 := by have := encL_len hx (by omega); omega
  have HG1 := Lib.hid (fun j (hj : j < (encN n).length) => get_short hn hj)
  have HG2 := Lib.hid (fun j (hj : j < (encT s).length) => text_short (most := 1000) (s := s) (by omega) (by omega) hj)
  have HG3 := Lib.hid (fun j (hj : j < (encL zs).length) => list_short (most := 1000) hx (by omega) (by omega) hj)
  have HR := Lib.hid hR
  have HAT := Lib.hid ha
  generalize encN n = A at *
  generalize encT s = B at *
  generalize encL zs = C at *
  obtain ⟨pA, hpA⟩ : ∃ p : Nat, at' % (A.length : Int) = p := ⟨(at' % (A.length : Int)).toNat, by have := Int.emod_nonneg at' (show (A.length : Int) ≠ 0 by omega); omega⟩
  obtain ⟨pB, hpB⟩ : ∃ p : Nat, at' % (B.length : Int) = p := ⟨(at' % (B.length : Int)).toNat, by have := Int.emod_nonneg at' (show (B.length : Int) ≠ 0 by omega); omega⟩
  obtain ⟨pC, hpC⟩ : ∃ p : Nat, at' % (C.length : Int) = p := ⟨(at' % (C.length : Int)).toNat, by have := Int.emod_nonneg at' (show (C.length : Int) ≠ 0 by omega); omega⟩
  have hA2 : pA < A.length := by have := Int.emod_lt_of_pos at' (show 0 < (A.length : Int) by omega); omega
  have hB2 : pB < B.length := by have := Int.emod_lt_of_pos at' (show 0 < (B.length : Int) by omega); omega
  have hC2 : pC < C.length := by have := Int.emod_lt_of_pos at' (show 0 < (C.length : Int) by omega); omega
  have HKA := Lib.hid (show (if (A.length : Int) < 1 then 0 else at' % (A.length : Int)) = (pA : Int) by rw [if_neg (by omega), hpA])
  have HKB := Lib.hid (show (if (B.length : Int) < 1 then 0 else at' % (B.length : Int)) = (pB : Int) by rw [if_neg (by omega), hpB])
  have HKC := Lib.hid (show (if (C.length : Int) < 1 then 0 else at' % (C.length : Int)) = (pC : Int) by rw [if_neg (by omega), hpC])
  have HF1 := HG1.out pA hA2
  have HF2 := HG2.out pB hB2
  have HF3 := HG3.out pC hC2
  have HGet := Lib.hid (fun W a' cap' (h : BIn W a' pA (A.take pA) cap') => n_Get W a' pA cap' (A.take pA) h 0 ⟨by decide, by decide⟩ _ (Lib.hid rfl))
  have HTxt := Lib.hid (fun W a' cap' (h : BIn W a' pB (B.take pB) cap') => n_GetText W a' pB cap' (B.take pB) h 0 1000 ⟨by decide, by decide⟩ ⟨by decide, by decide⟩ _ (Lib.hid rfl))
  have HLst := Lib.hid (fun W a' cap' (h : BIn W a' pC (C.take pC) cap') => n_GetList W a' pC cap' (C.take pC) h 0 1000 ⟨by decide, by decide⟩ ⟨by decide, by decide⟩ _ (Lib.hid rfl))
  generalize getP (A.take pA) 0 = r1 at *
  generalize textP (B.take pB) 0 1000 = r2 at *
  generalize listP (C.take pC) 0 1000 = r3 at *
  obtain ⟨x1, q1, e1, f1⟩ := r1
  obtain ⟨x2, q2, e2, f2⟩ := r2
  obtain ⟨x3, q3, e3, f3⟩ := r3
  simp only at HF1 HF2 HF3
  subst HF1; subst HF2; subst HF3
  clear hn ha hR hx HG1 HG2 HG3 hpA hpB hpC hs hl hzl
  go_enter Try.func9, Try.ntmps9
  go_wp2_with fail
  refine (HA.out _).mono ?_; rintro e w1 ⟨rfl, j1⟩
  go_wp2_with fail
  refine (HP.out _).mono ?_; rintro e w2 ⟨v, rfl, hown, j2⟩
  obtain ⟨a1, cap1, rfl, hin1⟩ := bin_of_owns hown (by omega)
  clear hown
  go_wp2_with fail
  refine (HPT.out _).mono ?_; rintro e w3 ⟨v, rfl, hown, j3⟩
  obtain ⟨a2, cap2, rfl, hin2⟩ := bin_of_owns hown (by omega)
  clear hown
  have b1 := j1.below
  have b2 := b1.trans (j2.below.mono b1.size)
  have b3 := b2.trans (j3.below.mono b2.size)
  go_wp2_with fail
  refine (HPL.out _ (HR.out.below b3)).mono ?_; rintro e w4 ⟨v, rfl, hown, j4⟩
  obtain ⟨a3, cap3, rfl, hin3⟩ := bin_of_owns hown (by omega)
  clear hown
  have hc1 : pA ≤ cap1 := by have := hin1.room; omega
  have hc2 : pB ≤ cap2 := by have := hin2.room; omega
  have hc3 : pC ≤ cap3 := by have := hin3.room; omega
  have HJ := Lib.hid (b3.trans (j4.below.mono b3.size))
  have HB1 := Lib.hid ((hin1.below (j3.below.trans (j4.below.mono j3.below.size))).take pA (by omega))
  have HB2 := Lib.hid ((hin2.below j4.below).take pB (by omega))
  have HB3 := Lib.hid (hin3.take pC (by omega))
  clear hin1 hin2 hin3 j1 j2 j3 j4 b1 b2 b3
  go_upto_region 5 with fail
  go_cut [15] from 22 (fun p wx => FaultAt wx p 4 f1 ∧ Below w4.heap.size w4 wx)
  case first =>
    go_wp2_with fail
    refine (HPick.out _ _ _ HAT.out ⟨by omega, by omega⟩).mono ?_; rintro e w' ⟨rfl, J, dr, rfl⟩
    rw [HKA.out]
    go_wp2_with fail
    refine (HGet.out _ _ _ (HB1.out.below (by (repeat' (first | (with_reducible exact Below.refl _ _) | (with_reducible assumption) | (with_reducible refine Below.alloc ?_ ?_ _) | (with_reducible refine Below.drew ?_) | (with_reducible refine below_drewN ?_ _) | (with_reducible refine below_plus ?_ ?_ _ _) | (with_reducible refine Below.setCell ?_ ?_ _) | (with_reducible refine Below.setRow ?_ ?_ _) | go_size))))).mono ?_; rintro e w' ⟨rfl, J2, dr2, rfl⟩
    go_wp2_with fail
    go_meet
    case rel => exact ⟨fault_here _ _ _ _ (by simp), by (repeat' (first | (with_reducible exact Below.refl _ _) | (with_reducible assumption) | (with_reducible refine Below.alloc ?_ ?_ _) | (with_reducible refine Below.drew ?_) | (with_reducible refine below_drewN ?_ _) | (with_reducible refine below_plus ?_ ?_ _ _) | (with_reducible refine Below.setCell ?_ ?_ _) | (with_reducible refine Below.setRow ?_ ?_ _) | go_size))⟩
  have HF1 := Lib.hid hcut.1
  have HJ1 := Lib.hid hcut.2
  clear hcut
  go_upto_region 6 with fail
  go_cut [18] from 22 (fun p wx => FaultAt wx p 4 f2 ∧ Below wc.heap.size wc wx)
  case first =>
    go_wp2_with fail
    refine (HPick.out _ _ _ HAT.out ⟨by omega, by omega⟩).mono ?_; rintro e w' ⟨rfl, J, dr, rfl⟩
    rw [HKB.out]
    go_wp2_with fail
    refine (HTxt.out _ _ _ ((HB2.out.below HJ1.out).below (by (repeat' (first | (with_reducible exact Below.refl _ _) | (with_reducible assumption) | (with_reducible refine Below.alloc ?_ ?_ _) | (with_reducible refine Below.drew ?_) | (with_reducible refine below_drewN ?_ _) | (with_reducible refine below_plus ?_ ?_ _ _) | (with_reducible refine Below.setCell ?_ ?_ _) | (with_reducible refine Below.setRow ?_ ?_ _) | go_size))))).mono ?_; rintro e w' ⟨rfl, J2, dr2, rfl⟩
    go_wp2_with fail
    go_meet
    case rel => exact ⟨fault_here _ _ _ _ (by simp), by (repeat' (first | (with_reducible exact Below.refl _ _) | (with_reducible assumption) | (with_reducible refine Below.alloc ?_ ?_ _) | (with_reducible refine Below.drew ?_) | (with_reducible refine below_drewN ?_ _) | (with_reducible refine below_plus ?_ ?_ _ _) | (with_reducible refine Below.setCell ?_ ?_ _) | (with_reducible refine Below.setRow ?_ ?_ _) | go_size))⟩
  have HF2 := Lib.hid hcut.1
  have HF1' := Lib.hid (HF1.out.below hcut.2)
  have HJ2 := Lib.hid (HJ1.out.trans (hcut.2.mono HJ1.out.size))
  clear hcut
  go_upto_region 7 with fail
  go_cut [21] from 22 (fun p wx => FaultAt wx p 4 f3 ∧ Below wc.heap.size wc wx)
  case first =>
    go_wp2_with fail
    refine (HPick.out _ _ _ HAT.out ⟨by omega, by omega⟩).mono ?_; rintro e w' ⟨rfl, J, dr, rfl⟩
    rw [HKC.out]
    go_wp2_with fail
    refine (HLst.out _ _ _ ((HB3.out.below HJ2.out).below (by (repeat' (first | (with_reducible exact Below.refl _ _) | (with_reducible assumption) | (with_reducible refine Below.alloc ?_ ?_ _) | (with_reducible refine Below.drew ?_) | (with_reducible refine below_drewN ?_ _) | (with_reducible refine below_plus ?_ ?_ _ _) | (with_reducible refine Below.setCell ?_ ?_ _) | (with_reducible refine Below.setRow ?_ ?_ _) | go_size))))).mono ?_; rintro e w' ⟨v, rfl, hown, J2, dr2, rfl⟩
    clear hown
    go_wp2_with fail
    go_meet
    case rel => exact ⟨fault_here _ _ _ _ (by simp), by (repeat' (first | (with_reducible exact Below.refl _ _) | (with_reducible assumption) | (with_reducible refine Below.alloc ?_ ?_ _) | (with_reducible refine Below.drew ?_) | (with_reducible refine below_drewN ?_ _) | (with_reducible refine below_plus ?_ ?_ _ _) | (with_reducible refine Below.setCell ?_ ?_ _) | (with_reducible refine Below.setRow ?_ ?_ _) | go_size))⟩
  obtain ⟨g3, rfl, hg3, hr3⟩ := hcut.1
  obtain ⟨g2, rfl, hg2, hr2⟩ := HF2.out.below hcut.2
  obtain ⟨g1, rfl, hg1, hr1⟩ := HF1'.out.below hcut.2
  have HJ3 := Lib.hid (HJ.out.trans ((HJ2.out.trans (hcut.2.mono HJ2.out.size)).mono HJ.out.size))
  have c1 := ucell_of_row hr1 0
  have c2 := ucell_of_row hr2 0
  have c3 := ucell_of_row hr3 0
  have z1 := ufrozen_of_row hr1
  have z2 := ufrozen_of_row hr2
  have z3 := ufrozen_of_row hr3
  simp at c1 c2 c3
  clear hcut hr1 hr2 hr3
  go_wp2
  go_ret
  exact ⟨rfl, junk_of_below HJ3.out⟩
end Go.Proofs.Ytabjhmblfeoiaaa

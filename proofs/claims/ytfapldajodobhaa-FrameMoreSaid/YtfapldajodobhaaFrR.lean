/- Contracts of apportionref06's Sum, word, Put. -/
import Derived.Test.YtfapldajodobhaaFrC
namespace Go.Proofs.Ytfapldajodobhaa
set_option linter.unusedVariables false
set_option linter.unusedSimpArgs false
open Go.RowKit

theorem bit_step {s B k Y : Nat} (h : s ^^^ B / 2 ^ k = Y) : (s / 2 ^^^ (if s % 2 = B / 2 ^ k % 2 then 0 else poly)) ^^^ B / 2 ^ (k + 1) = step Y := by
  unfold step
  rw [← h, Nat.xor_div_two, xor_m2, Nat.div_div_eq_div_mul, ← Nat.pow_succ, xor_rc]
  congr 1
  rcases Nat.mod_two_eq_zero_or_one s with h1 | h1 <;> rcases Nat.mod_two_eq_zero_or_one (B / 2 ^ k) with h2 | h2 <;> rw [h1, h2] <;> rfl

def RSumAt (L : List UInt8) (w : World) (n i : Value) (wr : World) : Prop := ∃ k m : Nat, n = .int .u32 (m : Int) ∧ i = .int .i64 (k : Int) ∧ k ≤ L.length ∧ m = crcL 4294967295 (L.take k) ∧ wr = w
def RBitAt (X B : Nat) (w : World) (n i : Value) (wr : World) : Prop := ∃ k s : Nat, n = .int .u32 (s : Int) ∧ i = .int .i64 (k : Int) ∧ k ≤ 8 ∧ s < 4294967296 ∧ s ^^^ B / 2 ^ k = steps k X ∧ wr = w
set_option maxRecDepth 100000 in
set_option maxHeartbeats 1000000 in
theorem r_frSum (w : World) (a : Option Addr) (len cap : Nat) (L : List UInt8) (h : BReads w a len L) (hl : len ≤ 1099511627776) :
    Calls Try.prog 16 #[.slice a len cap] w fun e w' => e = .returned (.int .u32 ((sumF L : Nat) : Int)) ∧ Junk w w' := by
  obtain ⟨hlen, hR2⟩ := h
  subst hlen
  go_enter Try.func16, Try.ntmps16
  go_wp2_with fail
  go_loopw [3, 4] (fun n i wr => RSumAt L w n i wr) (fun _ i _ => L.length - (intOf i).toNat)
  case atStart => exact ⟨0, 4294967295, rfl, rfl, by omega, rfl, rfl⟩
  case round =>
    obtain ⟨k, m, rfl, rfl, k1, hm, rfl⟩ := hrel
    have hml : m < 4294967296 := by rw [hm]; exact crcL_lt (by decide) _
    by_cases hlt : k < L.length
    · rcases hR2 with h0 | ⟨b, off, rfl, hc⟩
      · omega
      have hcb := hc k hlt
      have hB := byte_lt L k
      have hst : crcL 4294967295 (L.take (k + 1)) = crcB m (byteAt L k) := by
        rw [hm]
        have e : L.take (k + 1) = L.take k ++ [L[k]] := List.take_succ_eq_append_getElem hlt
        rw [e, crcL_app]
        show crcB _ _ = _
        congr 1
        simp [byteAt, List.getD_eq_getElem?_getD, hlt]
      have HS := Lib.hid hst
      clear hm hst hc
      generalize byteAt L k = B at *
      go_wp2_with fail
      go_loopw [3, 5] (fun n i w' => RBitAt (m ^^^ B) B wr n i w') (fun _ i _ => 8 - (intOf i).toNat)
      case atStart => exact ⟨0, m, rfl, rfl, by omega, hml, by simp [steps], rfl⟩
      case round =>
        obtain ⟨j, s, rfl, rfl, j1, hs, hinv, rfl⟩ := hrel
        by_cases hj : j < 8
        · have hst2 := bit_step hinv
          rw [← steps_succ] at hst2
          obtain ⟨y, hy⟩ : ∃ y, B / 2 ^ j = y := ⟨_, rfl⟩
          have hyB : y < 256 := by rw [← hy]; exact Nat.lt_of_le_of_lt (Nat.div_le_self _ _) hB
          rw [hy] at hst2
          have HS2 := Lib.hid hst2
          have e1 : (B : Int) / 2 ^ j = (y : Int) := by rw [← hy]; simp
          have e2 : (B : Int) / ((2 ^ j : Nat) : Int) = (y : Int) := by rw [← hy]; simp
          have e3 : (s : Int).tmod 2 = ((s % 2 : Nat) : Int) := by rw [Int.tmod_eq_emod_of_nonneg (by omega)]; simp
          have e4 : (y : Int).tmod 2 = ((y % 2 : Nat) : Int) := by rw [Int.tmod_eq_emod_of_nonneg (by omega)]; simp
          have HX := Lib.hid (bits_xor32 (s / 2) poly (by omega) (by decide))
          clear hst2 hinv hy
          go_wp2_with fail
          all_goals first
            | (have hh : s % 2 = y % 2 := by
                have h' := ‹((s : Int) % 2 != (y : Int) % 2) = false›
                simp at h'
                omega
               refine ⟨⟨j + 1, s / 2, by simp, by simp, by omega, by omega, by rw [← HS2.out, if_pos hh, Nat.xor_zero], rfl⟩, by simp [intOf]; omega⟩)
            | (have hh : ¬ s % 2 = y % 2 := by
                have h' := ‹((s : Int) % 2 != (y : Int) % 2) = true›
                simp at h'
                omega
               have e5 : bits .xor .u32 ((s : Int) / 2) 3988292384 = ((s / 2 ^^^ poly : Nat) : Int) := by rw [← HX.out]; simp [poly]
               refine ⟨⟨j + 1, s / 2 ^^^ poly, by rw [e5], by simp, by omega, Nat.xor_lt_two_pow (n := 32) (by omega) (by decide), by rw [← HS2.out, if_neg hh], rfl⟩, by simp [intOf]; omega⟩)
        · obtain rfl : j = 8 := by omega
          have hs8 : s = crcB m B := by
            unfold crcB
            rw [← hinv, Nat.div_eq_of_lt (show B < 2 ^ 8 by omega), Nat.xor_zero]
          have HQ := Lib.hid hs8
          clear hinv hs8
          go_wp2_with fail
          go_roundw
          case rel => exact ⟨k + 1, s, rfl, by go_num, by omega, by rw [HS.out, HQ.out], by first | rfl | trivial⟩
          case measure => simp [intOf]; omega
    · obtain rfl : k = L.length := by omega
      rw [List.take_length] at hm
      have e2 : bits .xor .u32 IntKind.u32.max (m : Int) = ((4294967295 - m : Nat) : Int) := by rw [← not32 m hml, Nat.xor_comm]; exact bits_xor32 4294967295 m (by decide) hml
      have HM := Lib.hid hm
      clear hR2 hm
      go_wp2
      go_ret
      have e3 : Ending.returned (.int .u32 ((4294967295 - m : Nat) : Int)) = Ending.returned (.int .u32 ((sumF L : Nat) : Int)) := by unfold sumF; rw [← HM.out]
      exact ⟨e3, junk_of_below (by (repeat' (first | (with_reducible exact Below.refl _ _) | (with_reducible assumption) | (with_reducible refine Below.alloc ?_ ?_ _) | (with_reducible refine Below.drew ?_) | (with_reducible refine below_drewN ?_ _) | (with_reducible refine below_plus ?_ ?_ _ _) | (with_reducible refine Below.setCell ?_ ?_ _) | (with_reducible refine Below.setRow ?_ ?_ _) | go_size)))⟩

theorem r_frWord (n : Nat) (hn : n < 4294967296) (w : World) : Calls Try.prog 28 #[.int .u32 (n : Int)] w fun e w' =>
    e = .returned (.slice (some ⟨w.heap.size, 0, none⟩) 4 4) ∧ BReads w' (some ⟨w.heap.size, 0, none⟩) 4 (bytes4 n) ∧ Below w.heap.size w w' := by
  have e0 : IntKind.u8.wrap (n : Int) = (((UInt8.ofNat n).toNat : Nat) : Int) := by have := cut_byte n 1; simpa using this
  have e1 : IntKind.u8.wrap ((n : Int) / 256) = (((UInt8.ofNat (n / 256)).toNat : Nat) : Int) := by have := cut_byte n 256; rw [← this]; simp
  have e2 : IntKind.u8.wrap ((n : Int) / 65536) = (((UInt8.ofNat (n / 65536)).toNat : Nat) : Int) := by have := cut_byte n 65536; rw [← this]; simp
  have e3 : IntKind.u8.wrap ((n : Int) / 16777216) = (((UInt8.ofNat (n / 16777216)).toNat : Nat) : Int) := by have := cut_byte n 16777216; rw [← this]; simp
  have HF := Lib.hid (breads_four w n)
  generalize (UInt8.ofNat n).toNat = y0 at *
  generalize (UInt8.ofNat (n / 256)).toNat = y1 at *
  generalize (UInt8.ofNat (n / 65536)).toNat = y2 at *
  generalize (UInt8.ofNat (n / 16777216)).toNat = y3 at *
  go_enter Try.func28, Try.ntmps28
  go_wp2
  go_ret
  exact ⟨rfl, HF.out, (Below.refl _ _).alloc (Nat.le_refl _) _⟩

def RPutAns (w : World) (L : List UInt8) (e : Ending) (w' : World) : Prop := ∃ v, e = .returned (.tuple #[v, .int .i64 0]) ∧ BOwns w' w.heap.size v (frameF L) ∧ Junk w w'
theorem r_frLong (w : World) (a : Option Addr) (len cap : Nat) (L : List UInt8) (h : BIn w a len L cap) (hl : 65536 < len) :
    Calls Try.prog 13 #[.slice a len cap] w fun e w' => e = .returned (.tuple #[.slice none 0 0, .int .i64 3]) ∧ Junk w w' := by
  clear h
  have e1 : (65536 : Int) < (len : Int) := by omega
  go_enter Try.func13, Try.ntmps13
  go_wp2
  go_ret2
  exact ⟨rfl, junk_of_below (by (repeat' (first | (with_reducible exact Below.refl _ _) | (with_reducible assumption) | (with_reducible refine Below.alloc ?_ ?_ _) | (with_reducible refine Below.drew ?_) | (with_reducible refine below_drewN ?_ _) | (with_reducible refine below_plus ?_ ?_ _ _) | (with_reducible refine Below.setCell ?_ ?_ _) | (with_reducible refine Below.setRow ?_ ?_ _) | go_size)))⟩
set_option maxRecDepth 100000 in
set_option maxHeartbeats 2000000 in
theorem r_frPut (w : World) (a : Option Addr) (len cap : Nat) (L : List UInt8) (h : BIn w a len L cap) (hl : len ≤ 65536) :
    Calls Try.prog 13 #[.slice a len cap] w (RPutAns w L) := by
  have hL := h.reads.1
  have HB := Lib.hid h
  have HWd := Lib.hid (fun w' n h => r_frWord n h w')
  have HS := Lib.hid (fun w' (h : BReads w' a len L) => r_frSum w' a len cap L h (by omega))
  have e1 : ¬ (65536 : Int) < (len : Int) := by omega
  have e2 : IntKind.u32.wrap (len : Int) = (len : Int) := by simp [IntKind.wrap, IntKind.signed, IntKind.bits]; omega
  have e5 : bits .xor .u32 IntKind.u32.max (len : Int) = ((4294967295 - len : Nat) : Int) := by
    rw [← not32 len (by omega), Nat.xor_comm]; exact bits_xor32 4294967295 len (by decide) (by omega)
  have HO0 := Lib.hid (bowns_empty w)
  have hnn : ∀ {b n m : Nat}, (some ⟨b, 0, none⟩ : Option Addr) = none → n = 0 ∧ m = 0 := fun h => by cases h
  clear h
  go_enter Try.func13, Try.ntmps13
  go_wp2_with fail
  refine (HWd.out _ len (by omega)).mono ?_
  rintro e w1 ⟨rfl, hr1, hb1⟩
  have ho1 := HO0.out.below hb1
  replace hb1 : Below w.heap.size w w1 := ((Below.refl w.heap.size w).alloc (Nat.le_refl _) _).trans (hb1.mono (by simp))
  have HO1 := Lib.hid ho1
  rw [World.size_alloc] at hr1
  have HR1 := Lib.hid hr1
  clear ho1 hr1 HO0
  go_wp2_with (at_builtin; refine wpList_bapp rfl _ _ rfl w.heap.size _ [] rfl HO1.out _ 4 4 (bytes4 len) rfl hnn HR1.out (by simp) hb1.size ?_; intro v2 w2 ho2 hg2)
  have hb2 := hb1.grown hg2 hb1.size (fun k hk => HO1.out.block k hk)
  have HO2 := Lib.hid ho2
  clear ho2 hg2 HO1 HR1
  refine (HWd.out _ (4294967295 - len) (by omega)).mono ?_
  rintro e w3 ⟨rfl, hr3, hb3⟩
  have HO3 := Lib.hid (HO2.out.below hb3)
  have HR3 := Lib.hid hr3
  replace hb3 : Below w.heap.size w w3 := hb2.trans (hb3.mono hb2.size)
  clear hr3 hb1
  have hl4 : ([] ++ bytes4 len ++ bytes4 (4294967295 - len)).length = 8 := by simp
  obtain ⟨D, hD⟩ : ∃ D, [] ++ bytes4 len ++ bytes4 (4294967295 - len) = D := ⟨_, rfl⟩
  rw [hD] at hl4
  have HD := Lib.hid hD
  clear hD
  go_wp2_with (at_builtin; first
    | (refine wpList_bapp rfl _ _ rfl w.heap.size _ ([] ++ bytes4 len) rfl HO3.out _ 4 4 (bytes4 (4294967295 - len)) rfl hnn HR3.out (by simp) hb3.size ?_; intro v4 w4 ho4 hg4; rw [HD.out] at ho4; have hb4 := hb3.grown hg4 hb3.size (fun k hk => HO3.out.block k hk); have HO4 := Lib.hid ho4; clear ho4 hg4 HO3 HR3)
    | (refine wpList_bapp rfl _ _ rfl w.heap.size _ D rfl HO4.out a len cap L rfl HB.out.none (HB.out.reads.below hb4) (by omega) hb4.size ?_; intro v5 w5 ho5 hg5))
  have hb5 := hb4.grown hg5 hb4.size (fun k hk => HO4.out.block k hk)
  have HO5 := Lib.hid ho5
  clear ho5 hg5 HO4 hb3 hb2
  refine (HS.out _ (HB.out.reads.below hb5)).mono ?_
  rintro e w6 ⟨rfl, J6, d6, rfl⟩
  have hb6 : Below w.heap.size w (w5.plus J6 d6) := below_plus hb5 hb5.size J6 d6
  have HO6 := Lib.hid (HO5.out.below (Junk.below ⟨J6, d6, rfl⟩))
  generalize w5.plus J6 d6 = w6 at *
  go_wp2_with fail
  refine (HWd.out _ (sumF L) (sumF_lt L)).mono ?_
  rintro e w7 ⟨rfl, hr7, hb7⟩
  have HO7 := Lib.hid (HO6.out.below hb7)
  have HR7 := Lib.hid hr7
  replace hb7 : Below w.heap.size w w7 := hb6.trans (hb7.mono hb6.size)
  clear hr7 hb4 hb5
  go_wp2_with (at_builtin; refine wpList_bapp rfl _ _ rfl w.heap.size _ (D ++ L) rfl HO7.out _ 4 4 (bytes4 (sumF L)) rfl hnn HR7.out (by simp; omega) hb7.size ?_; intro v8 w8 ho8 hg8)
  have hb8 := hb7.grown hg8 hb7.size (fun k hk => HO7.out.block k hk)
  go_ret2
  refine ⟨v8, rfl, ?_, junk_of_below hb8⟩
  have e6 : D ++ L ++ bytes4 (sumF L) = frameF L := by rw [← HD.out, ← hL]; simp [frameF]
  rw [← e6]
  exact ho8
end Go.Proofs.Ytfapldajodobhaa

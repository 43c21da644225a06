/- Contract of apportionref05's Put. -/
import Derived.Test.YtabjhmblfeoiaaaBList
import Derived.Test.YtabjhmblfeoiaaaOctB
namespace Go.Proofs.Ytabjhmblfeoiaaa
set_option linter.unusedVariables false
set_option linter.unusedSimpArgs false
open Go.RowKit

/-- A call tells bytes in memory of its own. -/
def PutRes (w : World) (L : List UInt8) (e : Ending) (w' : World) : Prop := ∃ v, e = .returned v ∧ BOwns w' w.heap.size v L ∧ Junk w w'

/-- Put's loop: what is laid, and the rank that is left. -/
def PutAt (w : World) (X : Nat) (o x : Value) (wr : World) : Prop := ∃ (D : List UInt8) (r : Nat), x = .int .u64 (r : Int) ∧ BOwns wr w.heap.size o D ∧ D ++ encR r = encR X ∧ r ≤ X ∧ Junk w wr ∧ D.length ≤ 10

set_option maxRecDepth 100000 in
set_option maxHeartbeats 2000000 in
theorem r_Put (n : Int) (h : I64 n) (w : World) : Calls Try.prog 15 #[.int .i64 n] w (PutRes w (encN n)) := by
  obtain ⟨h0, h1⟩ := h
  unfold encN
  obtain ⟨X, hX⟩ : ∃ X, rank n = X := ⟨_, rfl⟩
  have hXl : X < 18446744073709551616 := by rw [← hX]; exact rank_lt h0 h1
  rw [hX]
  have hpos : 0 ≤ n → n * 2 = (X : Int) := by intro hn; rw [← hX]; unfold rank; rw [if_pos hn]; omega
  have hneg : ¬ 0 ≤ n → IntKind.u64.wrap n = n + 18446744073709551616 ∧ IntKind.u64.wrap ((n + 18446744073709551616) * 2) = ((18446744073709551615 - X : Nat) : Int) ∧ bits .xor .u64 IntKind.u64.max ((18446744073709551615 - X : Nat) : Int) = X := by
    intro hn
    have e : (X : Int) = -2 * n - 1 := by rw [← hX]; unfold rank; rw [if_neg hn]; omega
    refine ⟨?_, ?_, ?_⟩
    · simp [IntKind.wrap, IntKind.signed, IntKind.bits]; omega
    · rw [show (n + 18446744073709551616) * 2 = ((18446744073709551615 - X : Nat) : Int) + 18446744073709551616 by omega]
      simp [IntKind.wrap, IntKind.signed, IntKind.bits]; omega
    · rw [bits_not _ (by omega)]; omega
  have HL := Lib.hid (enc_len10 hXl)
  have HXL := Lib.hid hXl
  have HPOS := Lib.hid hpos
  clear hX hXl hpos
  by_cases hn : 0 ≤ n
  · have e1 := HPOS.out hn
    clear hneg
    go_enter Try.func15, Try.ntmps15
    go_wp2_with fail
    clear e1 HPOS
    go_loopw [3, 4] (fun x o wr => PutAt w X o x wr) (fun x _ _ => (intOf x).toNat)
    case atStart => exact ⟨[], X, rfl, bowns_nil _ _, rfl, Nat.le_refl _, Junk.refl w, by simp⟩
    case round =>
      obtain ⟨D, r, rfl, ho, hD, hr, hj, hDl⟩ := hrel
      have hr64 : r < 18446744073709551616 := by have := HXL.out; omega
      have HO := Lib.hid ho; have HD := Lib.hid hD; have HJ := Lib.hid hj
      have hbase : w.heap.size ≤ wr.heap.size := hj.below.size
      by_cases hlt : r < 128
      · have hz : (UInt8.ofNat r).toNat = r := byte_of (by omega)
        have HR := breads_one wr (UInt8.ofNat r)
        rw [hz] at HR
        have HR := Lib.hid HR
        have HE := Lib.hid (show D ++ [UInt8.ofNat r] = encR X by rw [← hD, enc_lt hlt])
        clear ho hD hj hz hr64
        go_wp2_with (at_builtin; refine wpList_bapp rfl (.tmp 23) (.tmp 26) rfl w.heap.size _ D rfl (HO.out.below ((Below.refl _ _).alloc (Nat.le_refl _) _)) (some ⟨wr.heap.size, 0, none⟩) 1 1 [UInt8.ofNat r] rfl (fun h => by cases h) HR.out (by simp; omega) (by simp; omega) ?_; intro v' w' hown hg)
        go_ret
        refine ⟨_, rfl, by rw [← HE.out]; exact hown, junk_of_below ?_⟩
        exact ((HJ.out.below.alloc hbase _).grown hg (by simp; omega) (fun k hk => HO.out.block k hk))
      · obtain ⟨z, hz⟩ : ∃ z, z = UInt8.ofNat (r % 128 + 128) := ⟨_, rfl⟩
        have hzn : z.toNat = r % 128 + 128 := by rw [hz]; exact byte_of (by omega)
        obtain ⟨c, hc⟩ : ∃ c, r % 128 = c := ⟨_, rfl⟩
        obtain ⟨q, hq⟩ : ∃ q, r / 128 = q := ⟨_, rfl⟩
        have e1 : (r : Int) % 128 = (c : Int) := by omega
        have e2 : (r : Int).tdiv 128 = (q : Int) := by rw [Int.tdiv_eq_ediv_of_nonneg (by omega)]; omega
        have e3 : (r : Int).tmod 128 = (c : Int) := by rw [Int.tmod_eq_emod_of_nonneg (by omega)]; omega
        have c1 : c < 128 := by omega
        have e4 : IntKind.u64.wrap (q : Int) = (q : Int) := wrap_nat q (by omega)
        have HR := breads_one wr z
        rw [hzn, hc] at HR
        have HR := Lib.hid HR
        have HE := Lib.hid (show (D ++ [z]) ++ encR q = encR X by rw [← hD, enc_ge hlt, hz, hq]; simp)
        have HQ := Lib.hid (show q < r ∧ q ≤ X by omega)
        have HDL := Lib.hid (show (D ++ [z]).length ≤ 10 by
          have h1 := congrArg List.length hD
          have h2 := HL.out
          have h3 := enc_pos (r / 128)
          rw [List.length_append, enc_ge hlt, List.length_cons] at h1
          rw [List.length_append]; simp; omega)
        clear ho hD hj hz hzn hc hq hr64
        go_wp2_with (at_builtin; refine wpList_bapp rfl (.tmp 14) (.tmp 19) rfl w.heap.size _ D rfl (HO.out.below ((Below.refl _ _).alloc (Nat.le_refl _) _)) (some ⟨wr.heap.size, 0, none⟩) 1 1 [z] rfl (fun h => by cases h) HR.out (by simp; omega) (by simp; omega) ?_; intro v' w' hown hg)
        go_roundw
        case rel => exact ⟨D ++ [z], q, rfl, hown, HE.out, HQ.out.2, junk_of_below ((HJ.out.below.alloc hbase _).grown hg (by simp; omega) (fun k hk => HO.out.block k hk)), HDL.out⟩
        case measure => have := HQ.out.1; simp [intOf]; omega
  · obtain ⟨e1, e2, e3⟩ := hneg hn
    generalize ((18446744073709551615 - X : Nat) : Int) = y at *
    clear HPOS
    go_enter Try.func15, Try.ntmps15
    go_wp2_with fail
    clear e1 e2 e3
    go_loopw [3, 4] (fun x o wr => PutAt w X o x wr) (fun x _ _ => (intOf x).toNat)
    case atStart => exact ⟨[], X, rfl, bowns_nil _ _, rfl, Nat.le_refl _, Junk.refl w, by simp⟩
    case round =>
      obtain ⟨D, r, rfl, ho, hD, hr, hj, hDl⟩ := hrel
      have hr64 : r < 18446744073709551616 := by have := HXL.out; omega
      have HO := Lib.hid ho; have HD := Lib.hid hD; have HJ := Lib.hid hj
      have hbase : w.heap.size ≤ wr.heap.size := hj.below.size
      by_cases hlt : r < 128
      · have hz : (UInt8.ofNat r).toNat = r := byte_of (by omega)
        have HR := breads_one wr (UInt8.ofNat r)
        rw [hz] at HR
        have HR := Lib.hid HR
        have HE := Lib.hid (show D ++ [UInt8.ofNat r] = encR X by rw [← hD, enc_lt hlt])
        clear ho hD hj hz hr64
        go_wp2_with (at_builtin; refine wpList_bapp rfl (.tmp 23) (.tmp 26) rfl w.heap.size _ D rfl (HO.out.below ((Below.refl _ _).alloc (Nat.le_refl _) _)) (some ⟨wr.heap.size, 0, none⟩) 1 1 [UInt8.ofNat r] rfl (fun h => by cases h) HR.out (by simp; omega) (by simp; omega) ?_; intro v' w' hown hg)
        go_ret
        refine ⟨_, rfl, by rw [← HE.out]; exact hown, junk_of_below ?_⟩
        exact ((HJ.out.below.alloc hbase _).grown hg (by simp; omega) (fun k hk => HO.out.block k hk))
      · obtain ⟨z, hz⟩ : ∃ z, z = UInt8.ofNat (r % 128 + 128) := ⟨_, rfl⟩
        have hzn : z.toNat = r % 128 + 128 := by rw [hz]; exact byte_of (by omega)
        obtain ⟨c, hc⟩ : ∃ c, r % 128 = c := ⟨_, rfl⟩
        obtain ⟨q, hq⟩ : ∃ q, r / 128 = q := ⟨_, rfl⟩
        have e1 : (r : Int) % 128 = (c : Int) := by omega
        have e2 : (r : Int).tdiv 128 = (q : Int) := by rw [Int.tdiv_eq_ediv_of_nonneg (by omega)]; omega
        have e3 : (r : Int).tmod 128 = (c : Int) := by rw [Int.tmod_eq_emod_of_nonneg (by omega)]; omega
        have c1 : c < 128 := by omega
        have e4 : IntKind.u64.wrap (q : Int) = (q : Int) := wrap_nat q (by omega)
        have HR := breads_one wr z
        rw [hzn, hc] at HR
        have HR := Lib.hid HR
        have HE := Lib.hid (show (D ++ [z]) ++ encR q = encR X by rw [← hD, enc_ge hlt, hz, hq]; simp)
        have HQ := Lib.hid (show q < r ∧ q ≤ X by omega)
        have HDL := Lib.hid (show (D ++ [z]).length ≤ 10 by
          have h1 := congrArg List.length hD
          have h2 := HL.out
          have h3 := enc_pos (r / 128)
          rw [List.length_append, enc_ge hlt, List.length_cons] at h1
          rw [List.length_append]; simp; omega)
        clear ho hD hj hz hzn hc hq hr64
        go_wp2_with (at_builtin; refine wpList_bapp rfl (.tmp 14) (.tmp 19) rfl w.heap.size _ D rfl (HO.out.below ((Below.refl _ _).alloc (Nat.le_refl _) _)) (some ⟨wr.heap.size, 0, none⟩) 1 1 [z] rfl (fun h => by cases h) HR.out (by simp; omega) (by simp; omega) ?_; intro v' w' hown hg)
        go_roundw
        case rel => exact ⟨D ++ [z], q, rfl, hown, HE.out, HQ.out.2, junk_of_below ((HJ.out.below.alloc hbase _).grown hg (by simp; omega) (fun k hk => HO.out.block k hk)), HDL.out⟩
        case measure => have := HQ.out.1; simp [intOf]; omega
end Go.Proofs.Ytabjhmblfeoiaaa

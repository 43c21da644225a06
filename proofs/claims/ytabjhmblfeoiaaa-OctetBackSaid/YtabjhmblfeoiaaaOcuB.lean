/- Contracts of octet's appendNumber, Put, PutText, PutList. -/
import Derived.Test.YtabjhmblfeoiaaaOcuA
import Derived.Test.YtabjhmblfeoiaaaOctH
namespace Go.Proofs.Ytabjhmblfeoiaaa
set_option linter.unusedVariables false
set_option linter.unusedSimpArgs false
open Go.RowKit

/-- A call hands on a row of bytes of its caller's own, with more behind. -/
def AppRes (w : World) (base : Nat) (D : List UInt8) (e : Ending) (w' : World) : Prop := ∃ v, e = .returned v ∧ BOwns w' base v D ∧ Below base w w'

/-- appendNumber's loop. -/
def AppAt (w : World) (base N : Nat) (E : List UInt8) (X : Nat) (o x : Value) (wr : World) : Prop := ∃ (D : List UInt8) (r : Nat), x = .int .u64 (r : Int) ∧ BOwns wr base o D ∧ D ++ encR r = E ∧ r ≤ X ∧ Below base w wr ∧ base ≤ wr.heap.size

theorem bits_or8 (c : Nat) (h : c < 256) : bits .or .u8 (c : Int) 128 = ((c % 128 + 128 : Nat) : Int) := by
  show IntKind.u8.wrap (((BitVec.ofInt 8 (c : Int)) ||| (BitVec.ofInt 8 128)).toNat : Int) = _
  rw [BitVec.toNat_or, show (BitVec.ofInt 8 (c : Int)).toNat = c by simp [BitVec.toNat_ofInt]; omega, show (BitVec.ofInt 8 128).toNat = 128 by decide]
  obtain ⟨d, hd⟩ : ∃ d, c % 128 = d := ⟨_, rfl⟩
  have e := Nat.shiftLeft_add_eq_or_of_lt (show d < 2 ^ 7 by omega) 1
  have e1 : 1 <<< 7 = 128 := by decide
  rw [e1] at e
  have e2 : c ||| 128 = d + 128 := by
    rw [Nat.or_comm]
    by_cases hc : c < 128
    · rw [show c = d by omega, ← e]; omega
    · rw [show c = 128 + d by omega, e, ← Nat.or_assoc, Nat.or_self, ← e]; omega
  rw [e2, hd]
  simp [IntKind.wrap, IntKind.signed, IntKind.bits]
  omega

set_option maxRecDepth 100000 in
set_option maxHeartbeats 2000000 in
theorem n_appendNumber (n : Int) (h : I64 n) (w : World) (base : Nat) (hb : base ≤ w.heap.size) (v : Value) (L : List UInt8) (hown : BOwns w base v L) (hl : L.length ≤ 1099511627776) :
    Calls Try.prog 44 #[v, .int .i64 n] w (AppRes w base (L ++ encN n)) := by
  obtain ⟨X, hX⟩ : ∃ X, rank n = X := ⟨_, rfl⟩
  have HRank : Hid (∀ w, Calls Try.prog 61 #[.int .i64 n] w fun e w' => e = .returned (.int .u64 (X : Int)) ∧ Junk w w') := Lib.hid (fun w => by rw [← hX]; exact n_rankOf n h w)
  obtain ⟨h0, h1⟩ := h
  unfold encN
  have hXl : X < 18446744073709551616 := by rw [← hX]; exact rank_lt h0 h1
  rw [hX]
  have HLX := Lib.hid (show (L ++ encR X).length ≤ L.length + 10 by have := enc_len10 hXl; simp; omega)
  have HL := Lib.hid hl
  have HO0 := Lib.hid hown
  obtain ⟨E, hE⟩ : ∃ E, L ++ encR X = E := ⟨_, rfl⟩
  have HE0 := Lib.hid hE
  rw [hE] at HLX ⊢
  have HXL := Lib.hid hXl
  have HBW := Lib.hid hb
  clear hX hXl hl hE hown h0 h1 hb
  go_enter Try.func44, Try.ntmps44
  go_wp2_with fail
  refine (HRank.out _).mono ?_; rintro e w1 ⟨rfl, J, dr, rfl⟩
  go_wp2_with fail
  go_loopw [0, 5] (fun o x wr => AppAt w base 0 E X o x wr) (fun _ x _ => (intOf x).toNat)
  case atStart => exact ⟨L, X, rfl, HO0.out.below (below_plus (Below.refl _ _) (Nat.le_refl _) _ _), HE0.out, Nat.le_refl _, below_plus (Below.refl _ _) HBW.out _ _, by have := HBW.out; simp; omega⟩
  case round =>
    obtain ⟨D, r, rfl, ho, hD, hr, hj, hbase⟩ := hrel
    have hr64 : r < 18446744073709551616 := by have := HXL.out; omega
    have hDl : D.length ≤ 1099511627786 := by have h1 := congrArg List.length hD; have h2 := HLX.out; have h3 := HL.out; simp at h1; omega
    have HO := Lib.hid ho; have HD := Lib.hid hD; have HJ := Lib.hid hj; have HDl := Lib.hid hDl
    by_cases hlt : r < 128
    · have hz : (UInt8.ofNat r).toNat = r := byte_of (by omega)
      have HR := breads_one wr (UInt8.ofNat r)
      rw [hz] at HR
      have HR := Lib.hid HR
      have HE := Lib.hid (show D ++ [UInt8.ofNat r] = E by rw [← hD, enc_lt hlt])
      clear ho hD hj hz hr64 hDl
      go_wp2_with (at_builtin; refine wpList_bapp rfl (.tmp 18) (.tmp 21) rfl base _ D rfl (HO.out.below ((Below.refl _ _).alloc (Nat.le_refl _) _)) (some ⟨wr.heap.size, 0, none⟩) 1 1 [UInt8.ofNat r] rfl (fun h => by cases h) HR.out (by have := HDl.out; simp; omega) (by simp; omega) ?_; intro v' w' hown hg)
      go_ret
      refine ⟨_, rfl, by rw [← HE.out]; exact hown, ?_⟩
      exact ((HJ.out.alloc hbase _).grown hg (by simp; omega) (fun k hk => HO.out.block k hk))
    · obtain ⟨z, hz⟩ : ∃ z, z = UInt8.ofNat (r % 128 + 128) := ⟨_, rfl⟩
      have hzn : z.toNat = r % 128 + 128 := by rw [hz]; exact byte_of (by omega)
      obtain ⟨c, hc⟩ : ∃ c, r % 128 + 128 = c := ⟨_, rfl⟩
      obtain ⟨d, hd⟩ : ∃ d, r % 256 = d := ⟨_, rfl⟩
      obtain ⟨q, hq⟩ : ∃ q, r / 128 = q := ⟨_, rfl⟩
      have e1 : (r : Int) % 256 = (d : Int) := by omega
      have e2 : (r : Int) / 128 = (q : Int) := by omega
      have e3 : bits .or .u8 (d : Int) 128 = (c : Int) := by rw [bits_or8 d (by omega)]; congr 1; omega
      have HR := breads_one wr z
      rw [hzn, hc] at HR
      have HR := Lib.hid HR
      have HE := Lib.hid (show (D ++ [z]) ++ encR q = E by rw [← hD, enc_ge hlt, hz, hq]; simp)
      have HQ := Lib.hid (show q < r ∧ q ≤ X by omega)
      clear ho hD hj hz hzn hc hq hr64 hDl
      go_wp2_with (at_builtin; refine wpList_bapp rfl (.tmp 10) (.tmp 14) rfl base _ D rfl (HO.out.below ((Below.refl _ _).alloc (Nat.le_refl _) _)) (some ⟨wr.heap.size, 0, none⟩) 1 1 [z] rfl (fun h => by cases h) HR.out (by have := HDl.out; simp; omega) (by simp; omega) ?_; intro v' w' hown hg)
      go_roundw
      case rel =>
        have hbl := (HJ.out.alloc hbase _).grown hg (by simp; omega) (fun k hk => HO.out.block k hk)
        exact ⟨D ++ [z], q, rfl, hown, HE.out, HQ.out.2, hbl, Nat.le_trans HBW.out hbl.size⟩
      case measure => have := HQ.out.1; simp [intOf]; omega

theorem n_Put (n : Int) (h : I64 n) (w : World) : Calls Try.prog 12 #[.int .i64 n] w (PutRes w (encN n)) := by
  have HA := Lib.hid (n_appendNumber n h w w.heap.size (Nat.le_refl _) (.slice none 0 0) [] (bowns_nil _ _) (by simp))
  rw [List.nil_append] at HA
  generalize encN n = E at *
  clear h
  go_enter Try.func12, Try.ntmps12
  go_wp2_with fail
  refine HA.out.mono ?_; rintro e w1 ⟨v, rfl, hown, hb⟩
  have HO := Lib.hid hown; have HB := Lib.hid hb
  clear hown hb
  go_wp2_with fail
  go_ret
  exact ⟨_, rfl, HO.out, junk_of_below HB.out⟩

set_option maxHeartbeats 2000000 in
theorem n_PutText (s : List UInt8) (hs : s.length ≤ 1099511627776) (w : World) : Calls Try.prog 13 #[.string ⟨s.toArray⟩] w (PutRes w (encT s)) := by
  have HP := Lib.hid (n_Put (s.length : Int) ⟨by omega, by omega⟩)
  have hE := encN_le (show I64 (s.length : Int) from ⟨by omega, by omega⟩)
  unfold encT
  generalize encN (s.length : Int) = E at *
  go_enter Try.func13, Try.ntmps13
  go_wp2_with fail
  refine (HP.out _).mono ?_; rintro e w1 ⟨v, rfl, hown, hj⟩
  have HO := Lib.hid hown; have HJ := Lib.hid hj
  have hbase := hj.below.size
  have hE10 := Lib.hid hE
  clear hown hj hE
  go_wp2_with (at_builtin; refine wpList_sapp rfl _ _ rfl w.heap.size _ E rfl HO.out s rfl (by have := hE10.out; omega) hbase ?_; intro v' w' hown hg)
  go_ret
  exact ⟨_, rfl, hown, junk_of_below (HJ.out.below.grown hg hbase (fun k hk => HO.out.block k hk))⟩

/-- PutList's loop. -/
def PListAt (w : World) (zs : List Int) (o i : Value) (wr : World) : Prop := ∃ (k : Nat) (D : List UInt8), i = .int .i64 (k : Int) ∧ k ≤ zs.length ∧ BOwns wr w.heap.size o D ∧ D = encN (zs.length : Int) ++ (zs.take k).flatMap encN ∧ D.length ≤ 10 + 10 * k ∧ Below w.heap.size w wr ∧ w.heap.size ≤ wr.heap.size

set_option maxHeartbeats 4000000 in
theorem n_PutList (w : World) (a : Option Addr) (len cap : Nat) (zs : List Int) (hR : Reads w a len zs) (hl : len ≤ 1073741824) :
    Calls Try.prog 14 #[.slice a len cap] w (PutRes w (encL zs)) := by
  obtain ⟨hzl, hb, hc⟩ := hR
  subst hzl
  have HP := Lib.hid (n_Put (zs.length : Int) ⟨by omega, by omega⟩)
  have HPE := Lib.hid (fun i (hi : i < zs.length) => n_appendNumber (zs.getD i 0) (hb i hi))
  have HB := Lib.hid hb
  have HC := Lib.hid hc
  have hE := Lib.hid (encN_le (show I64 (zs.length : Int) from ⟨by omega, by omega⟩))
  unfold encL
  clear hb hc
  go_enter Try.func14, Try.ntmps14
  go_wp2_with fail
  refine (HP.out _).mono ?_; rintro e w1 ⟨v, rfl, hown, hj⟩
  have HO := Lib.hid hown; have HJ := Lib.hid hj
  clear hown hj
  go_wp2_with fail
  go_loopw [3, 5, 11] (fun o _ i wr => PListAt w zs o i wr) (fun _ _ i _ => zs.length - (intOf i).toNat)
  case atStart => exact ⟨0, _, rfl, Nat.zero_le _, HO.out, by simp, by have := hE.out; omega, HJ.out.below, HJ.out.below.size⟩
  case round =>
    obtain ⟨k, D, rfl, hk, hown, hD, hDl, hj, hbase⟩ := hrel
    have HO := Lib.hid hown; have HJ := Lib.hid hj; have HD := Lib.hid hD; have HDL := Lib.hid hDl
    clear hown hj hD hDl
    by_cases hlt : k < zs.length
    · obtain ⟨b, off, rfl, hcell⟩ : ∃ b off, a = some ⟨b, off, none⟩ ∧ ∀ i, i < zs.length → w.cell? ⟨b, off + i, none⟩ = some (.int .i64 (zs.getD i 0)) := by
        rcases HC.out with h | h
        · omega
        · exact h
      have hcl := hcell k hlt
      have hbs := World.block_lt_of_cell? _ _ hcl
      have hcl2 : wr.cell? ⟨b, off + k, none⟩ = some (.int .i64 (zs.getD k 0)) := by rw [← hcl]; exact World.cell?_of_block (HJ.out.block b hbs)
      have HPk := Lib.hid (HPE.out k hlt)
      have hz := HB.out k hlt
      have hZ := encN_le hz
      have HS := Lib.hid (show D ++ encN (zs.getD k 0) = encN (zs.length : Int) ++ (zs.take (k + 1)).flatMap encN by
        rw [HD.out, List.take_succ_eq_append_getElem hlt, List.flatMap_append, List.append_assoc, show zs.getD k 0 = zs[k] by simp [List.getD_eq_getElem?_getD, hlt]]
        rw [List.flatMap_cons, List.flatMap_nil, List.append_nil])
      generalize zs.getD k 0 = z at *
      generalize hY : encN z = Y at *
      obtain ⟨z0, z1⟩ := hz
      have HZ := Lib.hid hZ
      have HBS := Lib.hid hbase
      clear hcl hbs hcell hY hZ z0 z1 hbase
      go_wp2_with fail
      refine (HPk.out _ w.heap.size HBS.out _ D HO.out (by have := HDL.out; omega)).mono ?_; rintro e w2 ⟨v2, rfl, hown2, hb2⟩
      have HO2 := Lib.hid hown2
      have HJ2 := Lib.hid (HJ.out.trans hb2)
      clear hown2 hb2 hcl2
      go_wp2_with fail
      go_roundw
      case rel => exact ⟨k + 1, D ++ Y, by go_num, by omega, HO2.out, HS.out, by have := HDL.out; have := HZ.out; simp; omega, HJ2.out, HJ2.out.size⟩
      case measure => simp [intOf]; omega
    · obtain rfl : k = zs.length := by omega
      have HE := Lib.hid (show D = encN (zs.length : Int) ++ zs.flatMap encN by rw [HD.out, List.take_length])
      clear hbase
      go_wp2_with fail
      go_ret
      exact ⟨_, rfl, by rw [← HE.out]; exact HO.out, junk_of_below HJ.out⟩
end Go.Proofs.Ytabjhmblfeoiaaa

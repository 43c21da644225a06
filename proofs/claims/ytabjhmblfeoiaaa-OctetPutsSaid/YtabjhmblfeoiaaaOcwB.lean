/- Rows of bytes all of whose cells are bytes: append of a text; octet's Put, PutText, PutList tell such rows. -/
import Derived.Test.YtabjhmblfeoiaaaOcwA
namespace Go.Proofs.Ytabjhmblfeoiaaa
set_option linter.unusedVariables false
set_option linter.unusedSimpArgs false
open Go.RowKit

theorem strCells_byte (s : ByteArray) : ∀ u ∈ Lib.strCells s, IsByte u := by
  intro u hu
  simp only [Lib.strCells, List.mem_map] at hu
  obtain ⟨b, _, rfl⟩ := hu
  exact ⟨b.toNat, UInt8.toNat_lt _, rfl⟩

theorem full_append_text {w : World} (base : Nat) (v : Value) (xs : List UInt8) (hown : BOwns w base v xs) (hall : AllBytes w v) (s : ByteArray) (hm : xs.length + s.size ≤ 17592186044416) (ty : TypeId)
    (v' : Value) (w' : World) (hrun : (Builtin.append_ #[24, 9] ty #[v, .string s]).run Try.prog w = .ok v' w') : AllBytes w' v' := by
  obtain ⟨i0, hi0, hz0, hz1, hz2⟩ := info_u8
  obtain ⟨hl, hown⟩ := hown
  rcases hown with ⟨rfl, h0⟩ | ⟨g, cap, cur, rfl, hbg, hg, hnc, hcm, hcs, htake⟩
  · by_cases hz : s.size = 0
    · have hn : Lib.strCells s = [] := List.eq_nil_of_length_eq_zero (by rw [Lib.strCells_length]; exact hz)
      have hf := Lib.run_firstCells_string (P := Try.prog) w 1 s
      rw [hz, hn] at hf
      have : (Builtin.append_ #[24, 9] ty #[.slice none 0 0, .string s]).run Try.prog w = .ok (.slice none 0 0) w := by
        simp [Builtin.append_, run_underlying Try.underlying24, run_underlying Try.underlying9, sizeOf, typeInfo, hi0, hz1, Builtin.lenOf, hz, hf]
      rw [this] at hrun
      injection hrun with e1 e2
      subst e1; subst e2
      exact allbytes_nil _
    · have := run_append_nil_string (P := Try.prog) w 24 9 ty 5 i0 (.int .u8 0) Try.underlying24 Try.underlying9 hi0 hz0 s (by omega) (by omega) (by rw [hz2]; omega)
      rw [this] at hrun
      injection hrun with e1 e2
      subst e1; subst e2
      refine allbytes_new w.drew _ _ _ ?_
      intro u hu
      rw [Array.toList_append] at hu
      rcases List.mem_append.1 hu with h | h
      · simp at h
        obtain ⟨b, _, rfl⟩ := h
        exact ⟨b.toNat, UInt8.toNat_lt _, rfl⟩
      · exact zeros_byte _ u h
  · obtain ⟨cur2, hg2, hu2⟩ := hall g _ cap rfl
    obtain rfl : cur = cur2 := by rw [hg] at hg2; injection hg2 with h; injection h
    by_cases hroom : xs.length + s.size ≤ cap
    · have := Lib.run_append_room_string (P := Try.prog) w 24 9 ty 5 i0 Try.underlying24 Try.underlying9 hi0 hz1 g xs.length cap cur hg s hroom (by rw [hcs]; omega)
      rw [this] at hrun
      injection hrun with e1 e2
      subst e1; subst e2
      intro g' n' cap' hv
      injection hv with h1 _ _
      injection h1 with h1
      injection h1 with h1 _ _
      subst h1
      refine ⟨_, setRow_heap w g cur _ 5 _ hg, ?_⟩
      intro u hu
      simp only [List.mem_append] at hu
      rcases hu with (h | h) | h
      · exact hu2 u (List.mem_of_mem_take h)
      · exact strCells_byte s u h
      · exact hu2 u (List.mem_of_mem_drop h)
    · have hold : ∀ j u, (bcells xs)[j]? = some u → w.cell? ((⟨g, 0, none⟩ : Addr).add j) = some u :=
        World.ownsRow.cells (w := w) (base := base) (e := 5) (size := 1) (v := .slice (some ⟨g, 0, none⟩) xs.length cap) ⟨hl, .inr ⟨g, cap, cur, rfl, hbg, hg, hnc, hcm, hcs, htake⟩⟩ (g := g) rfl
      have := Lib.run_append_grow_string (P := Try.prog) w 24 9 ty 5 i0 (.int .u8 0) Try.underlying24 Try.underlying9 hi0 hz0 ⟨g, 0, none⟩ xs.length cap (bcells xs) (by rw [bcells_len, hz1, Nat.mul_one]) hold s (by omega) (by omega) (by rw [hz2]; exact growslice_fits (by omega) (by omega))
      rw [this] at hrun
      injection hrun with e1 e2
      subst e1; subst e2
      refine allbytes_new w.drew _ _ _ ?_
      intro u hu
      rw [Array.toList_append, Array.toList_append] at hu
      rcases List.mem_append.1 hu with h | h
      · rcases List.mem_append.1 h with h | h
        · exact bcells_byte xs u (by simpa using h)
        · exact strCells_byte s u (by simpa using h)
      · exact zeros_byte _ u h

theorem wpList_fsapp {ops : Array Oper} {rest : List Oper} {o : Oper} {a : Act} {w : World} {Q : Exit → Act → World → Prop} (hgd : o.guard = none) (sl x : Operand)
    (ho : o.op = .call { callee := .builtin .append, args := #[sl, x], argTypes := #[24, 9] }) (base : Nat) (v : Value) (xs : List UInt8) (hs : a.eval sl = v) (hown : BOwns w base v xs) (hall : AllBytes w v)
    (ys : List UInt8) (hx : a.eval x = .string ⟨ys.toArray⟩) (hm : xs.length + ys.length ≤ 17592186044416) (hb : base ≤ w.heap.size)
    (h : ∀ v' w', BOwns w' base v' (xs ++ ys) → AllBytes w' v' → w.grownBy w' v.ownBlock → wpList Try.prog ops Q rest (a.put o.dst v') w') : wpList Try.prog ops Q (o :: rest) a w := by
  obtain ⟨i0, hi0, hz0, hz1, hz2⟩ := info_u8
  have hsz : (⟨ys.toArray⟩ : ByteArray).size = ys.length := by simp [ByteArray.size]
  refine wpList_plain hgd fun K hK => ?_
  obtain ⟨v', w', hrun, h2, h3, h4⟩ := Lib.run_append_own_string (P := Try.prog) w base 24 9 o.type 5 i0 Try.underlying24 Try.underlying9 hi0 hz0 hz1 hz2 v xs.length (bcells xs) hown ⟨ys.toArray⟩ (by rw [hsz]; simp only [maxLen]; omega) (by rw [hsz]; omega) hb
  have hfull := full_append_text base v xs hown hall ⟨ys.toArray⟩ (by rw [hsz]; exact hm) o.type v' w' hrun
  unfold Oper.wp execOp
  simp only [ho, resolve, invoke, builtin, Sem.run_bind, Sem.run_pure, Result.andThen_ok, List.map_toArray, List.map_cons, List.map_nil, hs, hx, hrun]
  refine hK _ _ (h v' w' ?_ hfull h3)
  rw [hsz, strCells_b, bcells_app] at h2
  unfold BOwns
  rw [List.length_append]
  exact h2

/-- A call tells bytes in memory of its own, all of its cells bytes. -/
def FRes (w : World) (L : List UInt8) (e : Ending) (w' : World) : Prop := ∃ v, e = .returned v ∧ BOwns w' w.heap.size v L ∧ AllBytes w' v ∧ Junk w w'
def FAppRes (w : World) (base : Nat) (D : List UInt8) (e : Ending) (w' : World) : Prop := ∃ v, e = .returned v ∧ BOwns w' base v D ∧ AllBytes w' v ∧ Below base w w'
def FAppAt (w : World) (base : Nat) (E : List UInt8) (X : Nat) (o x : Value) (wr : World) : Prop := ∃ (D : List UInt8) (r : Nat), x = .int .u64 (r : Int) ∧ BOwns wr base o D ∧ AllBytes wr o ∧ D ++ encR r = E ∧ r ≤ X ∧ Below base w wr ∧ base ≤ wr.heap.size

set_option maxRecDepth 100000 in
set_option maxHeartbeats 2000000 in
theorem f_appendNumber (n : Int) (h : I64 n) (w : World) (base : Nat) (hb : base ≤ w.heap.size) (v : Value) (L : List UInt8) (hown : BOwns w base v L) (hall : AllBytes w v) (hl : L.length ≤ 1099511627776) :
    Calls Try.prog 44 #[v, .int .i64 n] w (FAppRes w base (L ++ encN n)) := by
  obtain ⟨X, hX⟩ : ∃ X, rank n = X := ⟨_, rfl⟩
  have HRank : Hid (∀ w, Calls Try.prog 61 #[.int .i64 n] w fun e w' => e = .returned (.int .u64 (X : Int)) ∧ Junk w w') := Lib.hid (fun w => by rw [← hX]; exact n_rankOf n h w)
  obtain ⟨h0, h1⟩ := h
  unfold encN
  have hXl : X < 18446744073709551616 := by rw [← hX]; exact rank_lt h0 h1
  rw [hX]
  have HLX := Lib.hid (show (L ++ encR X).length ≤ L.length + 10 by have := enc_len10 hXl; simp; omega)
  have HL := Lib.hid hl
  have HO0 := Lib.hid hown
  have HF0 := Lib.hid hall
  obtain ⟨E, hE⟩ : ∃ E, L ++ encR X = E := ⟨_, rfl⟩
  have HE0 := Lib.hid hE
  rw [hE] at HLX ⊢
  have HXL := Lib.hid hXl
  have HBW := Lib.hid hb
  clear hX hXl hl hE hown hall h0 h1 hb
  go_enter Try.func44, Try.ntmps44
  go_wp2_with fail
  refine (HRank.out _).mono ?_; rintro e w1 ⟨rfl, J, dr, rfl⟩
  go_wp2_with fail
  go_loopw [0, 5] (fun o x wr => FAppAt w base E X o x wr) (fun _ x _ => (intOf x).toNat)
  case atStart => exact ⟨L, X, rfl, HO0.out.below (below_plus (Below.refl _ _) (Nat.le_refl _) _ _), HF0.out.below (below_plus (Below.refl _ _) (Nat.le_refl _) _ _), HE0.out, Nat.le_refl _, below_plus (Below.refl _ _) HBW.out _ _, by have := HBW.out; simp; omega⟩
  case round =>
    obtain ⟨D, r, rfl, ho, hf, hD, hr, hj, hbase⟩ := hrel
    have HF := Lib.hid hf
    clear hf
    have hr64 : r < 18446744073709551616 := by have := HXL.out; omega
    have hDl : D.length ≤ 1099511627786 := by have h1 := congrArg List.length hD; have h2 := HLX.out; have h3 := HL.out; simp at h1; omega
    have HO := Lib.hid ho; have HD := Lib.hid hD; have HJ := Lib.hid hj; have HDl := Lib.hid hDl
    by_cases hlt : r < 128
    · have hz : (UInt8.ofNat r).toNat = r := byte_of (by omega)
      have HR := breads_one wr (UInt8.ofNat r)
      rw [hz] at HR
      have HR := Lib.hid HR
      have HE := Lib.hid (show D ++ [UInt8.ofNat r] = E by rw [← hD, enc_lt hlt])
      clear ho hD hj hz hr64 hDl
      go_wp2_with (at_builtin; refine wpList_fapp rfl (.tmp 18) (.tmp 21) rfl base _ D rfl (HO.out.below ((Below.refl _ _).alloc (Nat.le_refl _) _)) (HF.out.below ((Below.refl _ _).alloc (Nat.le_refl _) _)) ⟨wr.heap.size, 0, none⟩ 1 1 [UInt8.ofNat r] rfl HR.out (by have := HDl.out; simp; omega) (by simp; omega) ?_; intro v' w' hown hfl hg)
      go_ret
      refine ⟨_, rfl, by rw [← HE.out]; exact hown, hfl, ?_⟩
      exact ((HJ.out.alloc hbase _).grown hg (by simp; omega) (fun k hk => HO.out.block k hk))
    · obtain ⟨z, hz⟩ : ∃ z, z = UInt8.ofNat (r % 128 + 128) := ⟨_, rfl⟩
      have hzn : z.toNat = r % 128 + 128 := by rw [hz]; exact byte_of (by omega)
      obtain ⟨c, hc⟩ : ∃ c, r % 128 + 128 = c := ⟨_, rfl⟩
      obtain ⟨d, hd⟩ : ∃ d, r % 256 = d := ⟨_, rfl⟩
      obtain ⟨q, hq⟩ : ∃ q, r / 128 = q := ⟨_, rfl⟩
      have e1 : (r : Int) % 256 = (d : Int) := by omega
      have e2 : (r : Int) / 128 = (q : Int) := by omega
      have e3 : bits .or .u8 (d : Int) 128 = (c : Int) := by rw [bits_or8 d (by omega)]; congr 1; omega
      have HR := breads_one wr z
      rw [hzn, hc] at HR
      have HR := Lib.hid HR
      have HE := Lib.hid (show (D ++ [z]) ++ encR q = E by rw [← hD, enc_ge hlt, hz, hq]; simp)
      have HQ := Lib.hid (show q < r ∧ q ≤ X by omega)
      clear ho hD hj hz hzn hc hq hr64 hDl
      go_wp2_with (at_builtin; refine wpList_fapp rfl (.tmp 10) (.tmp 14) rfl base _ D rfl (HO.out.below ((Below.refl _ _).alloc (Nat.le_refl _) _)) (HF.out.below ((Below.refl _ _).alloc (Nat.le_refl _) _)) ⟨wr.heap.size, 0, none⟩ 1 1 [z] rfl HR.out (by have := HDl.out; simp; omega) (by simp; omega) ?_; intro v' w' hown hfl hg)
      go_roundw
      case rel =>
        have hbl := (HJ.out.alloc hbase _).grown hg (by simp; omega) (fun k hk => HO.out.block k hk)
        exact ⟨D ++ [z], q, rfl, hown, hfl, HE.out, HQ.out.2, hbl, Nat.le_trans HBW.out hbl.size⟩
      case measure => have := HQ.out.1; simp [intOf]; omega

theorem f_Put (n : Int) (h : I64 n) (w : World) : Calls Try.prog 12 #[.int .i64 n] w (FRes w (encN n)) := by
  have HA := Lib.hid (f_appendNumber n h w w.heap.size (Nat.le_refl _) (.slice none 0 0) [] (bowns_nil _ _) (allbytes_nil _) (by simp))
  rw [List.nil_append] at HA
  generalize encN n = E at *
  clear h
  go_enter Try.func12, Try.ntmps12
  go_wp2_with fail
  refine HA.out.mono ?_; rintro e w1 ⟨v, rfl, hown, hf, hb⟩
  have HO := Lib.hid hown; have HB := Lib.hid hb; have HF := Lib.hid hf
  clear hown hb hf
  go_wp2_with fail
  go_ret
  exact ⟨_, rfl, HO.out, HF.out, junk_of_below HB.out⟩

set_option maxHeartbeats 2000000 in
theorem f_PutText (s : List UInt8) (hs : s.length ≤ 1099511627776) (w : World) : Calls Try.prog 13 #[.string ⟨s.toArray⟩] w (FRes w (encT s)) := by
  have HP := Lib.hid (f_Put (s.length : Int) ⟨by omega, by omega⟩)
  have hE := encN_le (show I64 (s.length : Int) from ⟨by omega, by omega⟩)
  unfold encT
  generalize encN (s.length : Int) = E at *
  go_enter Try.func13, Try.ntmps13
  go_wp2_with fail
  refine (HP.out _).mono ?_; rintro e w1 ⟨v, rfl, hown, hf, hj⟩
  have HO := Lib.hid hown; have HJ := Lib.hid hj; have HF := Lib.hid hf
  clear hf
  have hbase := hj.below.size
  have hE10 := Lib.hid hE
  clear hown hj hE
  go_wp2_with (at_builtin; refine wpList_fsapp rfl _ _ rfl w.heap.size _ E rfl HO.out HF.out s rfl (by have := hE10.out; omega) hbase ?_; intro v' w' hown hfl hg)
  go_ret
  exact ⟨_, rfl, hown, hfl, junk_of_below (HJ.out.below.grown hg hbase (fun k hk => HO.out.block k hk))⟩

/-- PutList's loop. -/
def FPListAt (w : World) (zs : List Int) (o i : Value) (wr : World) : Prop := ∃ (k : Nat) (D : List UInt8), i = .int .i64 (k : Int) ∧ k ≤ zs.length ∧ BOwns wr w.heap.size o D ∧ AllBytes wr o ∧ D = encN (zs.length : Int) ++ (zs.take k).flatMap encN ∧ D.length ≤ 10 + 10 * k ∧ Below w.heap.size w wr ∧ w.heap.size ≤ wr.heap.size

set_option maxHeartbeats 4000000 in
theorem f_PutList (w : World) (a : Option Addr) (len cap : Nat) (zs : List Int) (hR : Reads w a len zs) (hl : len ≤ 1073741824) :
    Calls Try.prog 14 #[.slice a len cap] w (FRes w (encL zs)) := by
  obtain ⟨hzl, hb, hc⟩ := hR
  subst hzl
  have HP := Lib.hid (f_Put (zs.length : Int) ⟨by omega, by omega⟩)
  have HPE := Lib.hid (fun i (hi : i < zs.length) => f_appendNumber (zs.getD i 0) (hb i hi))
  have HB := Lib.hid hb
  have HC := Lib.hid hc
  have hE := Lib.hid (encN_le (show I64 (zs.length : Int) from ⟨by omega, by omega⟩))
  unfold encL
  clear hb hc
  go_enter Try.func14, Try.ntmps14
  go_wp2_with fail
  refine (HP.out _).mono ?_; rintro e w1 ⟨v, rfl, hown, hf, hj⟩
  have HO := Lib.hid hown; have HJ := Lib.hid hj; have HF := Lib.hid hf
  clear hf
  clear hown hj
  go_wp2_with fail
  go_loopw [3, 5, 11] (fun o _ i wr => FPListAt w zs o i wr) (fun _ _ i _ => zs.length - (intOf i).toNat)
  case atStart => exact ⟨0, _, rfl, Nat.zero_le _, HO.out, HF.out, by simp, by have := hE.out; omega, HJ.out.below, HJ.out.below.size⟩
  case round =>
    obtain ⟨k, D, rfl, hk, hown, hf, hD, hDl, hj, hbase⟩ := hrel
    have HFr := Lib.hid hf
    clear hf
    have HO := Lib.hid hown; have HJ := Lib.hid hj; have HD := Lib.hid hD; have HDL := Lib.hid hDl
    clear hown hj hD hDl
    by_cases hlt : k < zs.length
    · obtain ⟨b, off, rfl, hcell⟩ : ∃ b off, a = some ⟨b, off, none⟩ ∧ ∀ i, i < zs.length → w.cell? ⟨b, off + i, none⟩ = some (.int .i64 (zs.getD i 0)) := by
        rcases HC.out with h | h
        · omega
        · exact h
      have hcl := hcell k hlt
      have hbs := World.block_lt_of_cell? _ _ hcl
      have hcl2 : wr.cell? ⟨b, off + k, none⟩ = some (.int .i64 (zs.getD k 0)) := by rw [← hcl]; exact World.cell?_of_block (HJ.out.block b hbs)
      have HPk := Lib.hid (HPE.out k hlt)
      have hz := HB.out k hlt
      have hZ := encN_le hz
      have HS := Lib.hid (show D ++ encN (zs.getD k 0) = encN (zs.length : Int) ++ (zs.take (k + 1)).flatMap encN by
        rw [HD.out, List.take_succ_eq_append_getElem hlt, List.flatMap_append, List.append_assoc, show zs.getD k 0 = zs[k] by simp [List.getD_eq_getElem?_getD, hlt]]
        rw [List.flatMap_cons, List.flatMap_nil, List.append_nil])
      generalize zs.getD k 0 = z at *
      generalize hY : encN z = Y at *
      obtain ⟨z0, z1⟩ := hz
      have HZ := Lib.hid hZ
      have HBS := Lib.hid hbase
      clear hcl hbs hcell hY hZ z0 z1 hbase
      go_wp2_with fail
      refine (HPk.out _ w.heap.size HBS.out _ D HO.out HFr.out (by have := HDL.out; omega)).mono ?_; rintro e w2 ⟨v2, rfl, hown2, hf2, hb2⟩
      have HO2 := Lib.hid hown2
      have HF2 := Lib.hid hf2
      clear hf2
      have HJ2 := Lib.hid (HJ.out.trans hb2)
      clear hown2 hb2 hcl2
      go_wp2_with fail
      go_roundw
      case rel => exact ⟨k + 1, D ++ Y, by go_num, by omega, HO2.out, HF2.out, HS.out, by have := HDL.out; have := HZ.out; simp; omega, HJ2.out, HJ2.out.size⟩
      case measure => simp [intOf]; omega
    · obtain rfl : k = zs.length := by omega
      have HE := Lib.hid (show D = encN (zs.length : Int) ++ zs.flatMap encN by rw [HD.out, List.take_length])
      clear hbase
      go_wp2_with fail
      go_ret
      exact ⟨_, rfl, by rw [← HE.out]; exact HO.out, HFr.out, junk_of_below HJ.out⟩
end Go.Proofs.Ytabjhmblfeoiaaa

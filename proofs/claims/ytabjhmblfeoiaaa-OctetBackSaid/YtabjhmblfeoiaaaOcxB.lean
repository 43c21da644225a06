/- octet's PutText, PutList told as functions of the world. -/
import Derived.Test.YtabjhmblfeoiaaaOcxA
namespace Go.Proofs.Ytabjhmblfeoiaaa
set_option linter.unusedVariables false
set_option linter.unusedSimpArgs false
open Go.RowKit

set_option maxHeartbeats 2000000 in
theorem d_PutText (s : List UInt8) (hs : s.length ≤ 1099511627776) (w : World) : Calls Try.prog 13 #[.string ⟨s.toArray⟩] w (DRes (putT s w) w.heap.size w (encT s)) := by
  have HP := Lib.hid (d_Put (s.length : Int) ⟨by omega, by omega⟩ w)
  have hE := encN_le (show I64 (s.length : Int) from ⟨by omega, by omega⟩)
  unfold encT putT
  generalize encN (s.length : Int) = E at *
  generalize appNum (s.length : Int) (.slice none 0 0) w = T at *
  obtain ⟨v1, w1⟩ := T
  go_enter Try.func13, Try.ntmps13
  go_wp2_with fail
  refine HP.out.mono ?_; rintro e w2 ⟨rfl, rfl, hown, hj⟩
  have HO := Lib.hid hown; have HJ := Lib.hid hj
  have hbase : w.heap.size ≤ w2.heap.size := hj.size
  have hE10 := Lib.hid hE
  simp only at hown ⊢
  clear hown hj hE HP
  go_wp2_with (at_builtin; refine wpList_dsapp rfl _ _ rfl rfl w.heap.size _ E rfl HO.out s rfl (by have := hE10.out; omega) hbase ?_; intro v' w' hrun hown hg)
  go_ret
  have hT : txtStep s v1 w2 = (v', w') := by
    unfold txtStep
    have h2 : (Builtin.append_ #[24, 9] 24 #[v1, .string ⟨s.toArray⟩]).run Try.prog w2 = .ok v' w' := hrun
    rw [h2]; rfl
  rw [hT]
  exact ⟨rfl, rfl, hown, HJ.out.grown hg hbase (fun k hk => HO.out.block k hk)⟩

/-- PutList's loop. -/
def DListAt (T : Value × World) (w : World) (zs : List Int) (o i : Value) (wr : World) : Prop := ∃ (k : Nat) (D : List UInt8), i = .int .i64 (k : Int) ∧ k ≤ zs.length ∧ BOwns wr w.heap.size o D ∧ listGo (zs.drop k) o wr = T ∧ D = encN (zs.length : Int) ++ (zs.take k).flatMap encN ∧ D.length ≤ 10 + 10 * k ∧ Below w.heap.size w wr ∧ w.heap.size ≤ wr.heap.size

set_option maxHeartbeats 4000000 in
theorem d_PutList (w : World) (a : Option Addr) (len cap : Nat) (zs : List Int) (hR : Reads w a len zs) (hl : len ≤ 1073741824) :
    Calls Try.prog 14 #[.slice a len cap] w (DRes (putL zs w) w.heap.size w (encL zs)) := by
  obtain ⟨hzl, hb, hc⟩ := hR
  subst hzl
  have HP := Lib.hid (d_Put (zs.length : Int) ⟨by omega, by omega⟩ w)
  have HPE := Lib.hid (fun i (hi : i < zs.length) => d_appendNumber (zs.getD i 0) (hb i hi))
  have HB := Lib.hid hb
  have HC := Lib.hid hc
  have hE := Lib.hid (encN_le (show I64 (zs.length : Int) from ⟨by omega, by omega⟩))
  unfold encL putL
  generalize appNum (zs.length : Int) (.slice none 0 0) w = T0 at *
  obtain ⟨v1, w1⟩ := T0
  obtain ⟨T, hT⟩ : ∃ T, listGo zs v1 w1 = T := ⟨_, rfl⟩
  simp only
  rw [hT]
  have HT := Lib.hid hT
  clear hb hc hT
  go_enter Try.func14, Try.ntmps14
  go_wp2_with fail
  refine HP.out.mono ?_; rintro e w2 ⟨rfl, rfl, hown, hj⟩
  have HO := Lib.hid hown; have HJ := Lib.hid hj
  simp only at hown ⊢
  clear hown hj HP
  go_wp2_with fail
  go_loopw [3, 5, 11] (fun o _ i wr => DListAt T w zs o i wr) (fun _ _ i _ => zs.length - (intOf i).toNat)
  case atStart => exact ⟨0, _, rfl, Nat.zero_le _, HO.out, HT.out, by simp, by have := hE.out; omega, HJ.out, HJ.out.size⟩
  case round =>
    obtain ⟨k, D, rfl, hk, hown, hgo, hD, hDl, hj, hbase⟩ := hrel
    have HO := Lib.hid hown; have HJ := Lib.hid hj; have HD := Lib.hid hD; have HDL := Lib.hid hDl; have HGO := Lib.hid hgo
    clear hown hj hD hDl hgo
    by_cases hlt : k < zs.length
    · obtain ⟨b, off, rfl, hcell⟩ : ∃ b off, a = some ⟨b, off, none⟩ ∧ ∀ i, i < zs.length → w.cell? ⟨b, off + i, none⟩ = some (.int .i64 (zs.getD i 0)) := by
        rcases HC.out with h | h
        · omega
        · exact h
      have hcl := hcell k hlt
      have hbs := World.block_lt_of_cell? _ _ hcl
      have hcl2 : wr.cell? ⟨b, off + k, none⟩ = some (.int .i64 (zs.getD k 0)) := by rw [← hcl]; exact World.cell?_of_block (HJ.out.block b hbs)
      have HPk := Lib.hid (HPE.out k hlt)
      have hz := HB.out k hlt
      have hZ := encN_le hz
      have HS := Lib.hid (show D ++ encN (zs.getD k 0) = encN (zs.length : Int) ++ (zs.take (k + 1)).flatMap encN by
        rw [HD.out, List.take_succ_eq_append_getElem hlt, List.flatMap_append, List.append_assoc, show zs.getD k 0 = zs[k] by simp [List.getD_eq_getElem?_getD, hlt]]
        rw [List.flatMap_cons, List.flatMap_nil, List.append_nil])
      have HGN := Lib.hid (show listGo (zs.drop (k + 1)) (appNum (zs.getD k 0) u3 wr).1 (appNum (zs.getD k 0) u3 wr).2 = T by
        have h := HGO.out
        rw [List.drop_eq_getElem_cons hlt] at h
        rw [show zs.getD k 0 = zs[k] by simp [List.getD_eq_getElem?_getD, hlt]]
        exact h)
      generalize zs.getD k 0 = z at *
      generalize hY : encN z = Y at *
      obtain ⟨z0, z1⟩ := hz
      have HZ := Lib.hid hZ
      have HBS := Lib.hid hbase
      clear hcl hbs hcell hY hZ z0 z1 hbase
      go_wp2_with fail
      refine (HPk.out _ w.heap.size HBS.out _ D HO.out (by have := HDL.out; omega)).mono ?_; rintro e w2 ⟨rfl, rfl, hown2, hb2⟩
      have HO2 := Lib.hid hown2
      have HJ2 := Lib.hid (HJ.out.trans hb2)
      clear hown2 hb2 hcl2
      go_wp2_with fail
      go_roundw
      case rel => exact ⟨k + 1, D ++ Y, by go_num, by omega, HO2.out, HGN.out, HS.out, by have := HDL.out; have := HZ.out; simp; omega, HJ2.out, HJ2.out.size⟩
      case measure => simp [intOf]; omega
    · obtain rfl : k = zs.length := by omega
      have HE := Lib.hid (show D = encN (zs.length : Int) ++ zs.flatMap encN by rw [HD.out, List.take_length])
      have hgo := HGO.out
      rw [List.drop_length] at hgo
      subst hgo
      clear hbase
      go_wp2_with fail
      go_ret
      exact ⟨rfl, rfl, by rw [← HE.out]; exact HO.out, HJ.out⟩
end Go.Proofs.Ytabjhmblfeoiaaa

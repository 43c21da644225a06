/- Contracts of apportionref05's PutText and PutList. -/
import Derived.Test.YtabjhmblfeoiaaaOctA
import Derived.Test.YtabjhmblfeoiaaaLists
namespace Go.Proofs.Ytabjhmblfeoiaaa
set_option linter.unusedVariables false
set_option linter.unusedSimpArgs false
open Go.RowKit

theorem strCells_b (L : List UInt8) : Lib.strCells (⟨L.toArray⟩ : ByteArray) = bcells L := by
  unfold Lib.strCells bcells
  simp

/-- 'append(row, s...)', the row the call's own, s a text. -/
theorem wpList_sapp {ops : Array Oper} {rest : List Oper} {o : Oper} {a : Act} {w : World} {Q : Exit → Act → World → Prop} (hgd : o.guard = none) (s x : Operand)
    (ho : o.op = .call { callee := .builtin .append, args := #[s, x], argTypes := #[24, 9] }) (base : Nat) (v : Value) (xs : List UInt8) (hs : a.eval s = v) (hown : BOwns w base v xs)
    (ys : List UInt8) (hx : a.eval x = .string ⟨ys.toArray⟩) (hm : xs.length + ys.length ≤ 17592186044416) (hb : base ≤ w.heap.size)
    (h : ∀ v' w', BOwns w' base v' (xs ++ ys) → w.grownBy w' v.ownBlock → wpList Try.prog ops Q rest (a.put o.dst v') w') : wpList Try.prog ops Q (o :: rest) a w := by
  obtain ⟨i0, hi0, hz0, hz1, hz2⟩ := info_u8
  have hsz : (⟨ys.toArray⟩ : ByteArray).size = ys.length := by simp [ByteArray.size]
  refine Lib.wpList_append_own_string w hgd s x _ _ ho base 5 i0 Try.underlying24 Try.underlying9 hi0 hz0 hz1 hz2 _ xs.length (bcells xs) hs hown _ hx
    (by rw [hsz]; simp only [maxLen]; omega) (by rw [hsz]; omega) hb ?_
  intro v' w' hown' hg _
  rw [hsz, strCells_b, bcells_app] at hown'
  refine h _ _ ?_ hg
  unfold BOwns
  rw [List.length_append]
  exact hown'

set_option maxHeartbeats 2000000 in
theorem r_PutText (s : List UInt8) (hs : s.length ≤ 1099511627776) (w : World) : Calls Try.prog 16 #[.string ⟨s.toArray⟩] w (PutRes w (encT s)) := by
  have HP := Lib.hid (r_Put (s.length : Int) ⟨by omega, by omega⟩)
  have hE := encN_le (show I64 (s.length : Int) from ⟨by omega, by omega⟩)
  unfold encT
  generalize encN (s.length : Int) = E at *
  go_enter Try.func16, Try.ntmps16
  go_wp2_with fail
  refine (HP.out _).mono ?_; rintro e w1 ⟨v, rfl, hown, hj⟩
  have HO := Lib.hid hown; have HJ := Lib.hid hj
  have hbase := hj.below.size
  have hE10 := Lib.hid hE
  clear hown hj hE
  go_wp2_with (at_builtin; refine wpList_sapp rfl _ _ rfl w.heap.size _ E rfl HO.out s rfl (by have := hE10.out; omega) hbase ?_; intro v' w' hown hg)
  go_ret
  exact ⟨_, rfl, hown, junk_of_below (HJ.out.below.grown hg hbase (fun k hk => HO.out.block k hk))⟩

/-- PutList's loop. -/
def ListAt (w : World) (zs : List Int) (o i : Value) (wr : World) : Prop := ∃ (k : Nat) (D : List UInt8), i = .int .i64 (k : Int) ∧ k ≤ zs.length ∧ BOwns wr w.heap.size o D ∧ D = encN (zs.length : Int) ++ (zs.take k).flatMap encN ∧ D.length ≤ 10 + 10 * k ∧ Junk w wr

set_option maxHeartbeats 4000000 in
theorem r_PutList (w : World) (a : Option Addr) (len cap : Nat) (zs : List Int) (hR : Reads w a len zs) (hl : len ≤ 1073741824) :
    Calls Try.prog 17 #[.slice a len cap] w (PutRes w (encL zs)) := by
  obtain ⟨hzl, hb, hc⟩ := hR
  subst hzl
  have HP := Lib.hid (r_Put (zs.length : Int) ⟨by omega, by omega⟩)
  have HPE := Lib.hid (fun i (hi : i < zs.length) => r_Put (zs.getD i 0) (hb i hi))
  have HB := Lib.hid hb
  have HC := Lib.hid hc
  have hE := Lib.hid (encN_le (show I64 (zs.length : Int) from ⟨by omega, by omega⟩))
  unfold encL
  clear hb hc
  go_enter Try.func17, Try.ntmps17
  go_wp2_with fail
  refine (HP.out _).mono ?_; rintro e w1 ⟨v, rfl, hown, hj⟩
  have HO := Lib.hid hown; have HJ := Lib.hid hj
  clear hown hj
  go_wp2_with fail
  go_loopw [3, 4, 5] (fun o i _ wr => ListAt w zs o i wr) (fun _ i _ _ => zs.length - (intOf i).toNat)
  case atStart => exact ⟨0, _, rfl, Nat.zero_le _, HO.out, by simp, by have := hE.out; omega, HJ.out⟩
  case round =>
    obtain ⟨k, D, rfl, hk, hown, hD, hDl, hj⟩ := hrel
    have hbase := hj.below.size
    have HO := Lib.hid hown; have HJ := Lib.hid hj; have HD := Lib.hid hD
    clear hown hj hD
    by_cases hlt : k < zs.length
    · obtain ⟨b, off, rfl, hcell⟩ : ∃ b off, a = some ⟨b, off, none⟩ ∧ ∀ i, i < zs.length → w.cell? ⟨b, off + i, none⟩ = some (.int .i64 (zs.getD i 0)) := by
        rcases HC.out with h | h
        · omega
        · exact h
      have hcl := hcell k hlt
      have hbs := World.block_lt_of_cell? _ _ hcl
      have hcl2 : wr.cell? ⟨b, off + k, none⟩ = some (.int .i64 (zs.getD k 0)) := by rw [← hcl]; exact World.cell?_of_block (HJ.out.below.block b hbs)
      have HPk := Lib.hid (HPE.out k hlt)
      have hz := HB.out k hlt
      have hZ := encN_le hz
      have HS := Lib.hid (show D ++ encN (zs.getD k 0) = encN (zs.length : Int) ++ (zs.take (k + 1)).flatMap encN by
        rw [HD.out, List.take_succ_eq_append_getElem hlt, List.flatMap_append, List.append_assoc, show zs.getD k 0 = zs[k] by simp [List.getD_eq_getElem?_getD, hlt]]
        rw [List.flatMap_cons, List.flatMap_nil, List.append_nil])
      generalize zs.getD k 0 = z at *
      generalize hY : encN z = Y at *
      obtain ⟨z0, z1⟩ := hz
      have HZ := Lib.hid hZ
      clear hcl hbs hcell hY hZ z0 z1
      go_wp2_with fail
      refine (HPk.out _).mono ?_; rintro e w2 ⟨v2, rfl, hown2, hj2⟩
      obtain ⟨a2, cap2, rfl, hr2, hn2⟩ := breads_of_owns hown2
      have HR2 := Lib.hid hr2; have HN2 := Lib.hid hn2; have HJ2 := Lib.hid hj2
      have hbase2 := hj2.below.size
      have HO2 := Lib.hid (HO.out.below hj2.below)
      have HDL := Lib.hid hDl
      clear hown2 hr2 hn2 hj2 hcl2 hDl
      go_wp2_with (at_builtin; refine wpList_bapp rfl _ _ rfl w.heap.size _ D rfl HO2.out a2 Y.length cap2 Y rfl HN2.out HR2.out (by have := HDL.out; have := HZ.out; omega) (by omega) ?_; intro v' w' hown' hg)
      go_roundw
      case rel => exact ⟨k + 1, D ++ Y, by go_num, by omega, hown', HS.out, by have := HDL.out; have := HZ.out; simp; omega, junk_of_below ((HJ.out.below.trans (HJ2.out.below.mono hbase)).grown hg (by omega) (fun k hk => HO2.out.block k hk))⟩
      case measure => simp [intOf]; omega
    · obtain rfl : k = zs.length := by omega
      have HE := Lib.hid (show D = encN (zs.length : Int) ++ zs.flatMap encN by rw [HD.out, List.take_length])
      go_wp2_with fail
      go_ret
      exact ⟨_, rfl, by rw [← HE.out]; exact HO.out, HJ.out⟩
end Go.Proofs.Ytabjhmblfeoiaaa

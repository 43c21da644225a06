/- Frames with bits turned: mathematics; a byte of a row of the call's own is written. -/
import Derived.Test.YtfapldajodobhaaFrZ
namespace Go.Proofs.Ytfapldajodobhaa
set_option linter.unusedVariables false
set_option linter.unusedSimpArgs false
open Go.RowKit

theorem frames_at (Ls : List (List UInt8)) (k : Nat) (hk : k < Ls.length) : framesF Ls = framesF (Ls.take k) ++ (frameF Ls[k] ++ framesF (Ls.drop (k + 1))) := by
  have hd : Ls.drop k = Ls[k] :: Ls.drop (k + 1) := List.drop_eq_getElem_cons hk
  have e3 : framesF (Ls.drop k) = frameF Ls[k] ++ framesF (Ls.drop (k + 1)) := by rw [hd]; rfl
  rw [← e3]
  exact frames_split Ls k
theorem scan_stop (Ls : List (List UInt8)) (h : ∀ L ∈ Ls, L.length ≤ 65536) (X : List UInt8) (hn : splitF X = none) : scanF (framesF Ls ++ X) = (Ls, X) := by
  rw [scan_frames Ls X h, scan_none hn]; simp

theorem xor_pow_ne (b t : Nat) : b ^^^ 2 ^ t ≠ b := by
  intro h
  have h1 : b ^^^ (b ^^^ 2 ^ t) = b ^^^ b := by rw [h]
  rw [← Nat.xor_assoc, Nat.xor_self, Nat.zero_xor] at h1
  have := Nat.two_pow_pos t
  omega
theorem xor_pow_lt (b t : Nat) (hb : b < 256) (ht : t < 8) : b ^^^ 2 ^ t < 256 := Nat.xor_lt_two_pow (n := 8) hb (Nat.pow_lt_pow_right (by omega) ht)
theorem byteAt_set (X : List UInt8) (j i : Nat) (z : Nat) (hz : z < 256) (hj : j < X.length) : byteAt (X.set j (UInt8.ofNat z)) i = if i = j then z else byteAt X i := by
  unfold byteAt
  by_cases h : i = j
  · subst h
    rw [if_pos rfl]
    simp [List.getD_eq_getElem?_getD, hj, UInt8.toNat_ofNat']
    omega
  · rw [if_neg h]
    simp [List.getD_eq_getElem?_getD, List.getElem?_set_ne (Ne.symm h)]
theorem byteAt_drop (X : List UInt8) (m i : Nat) : byteAt (X.drop m) i = byteAt X (m + i) := by
  unfold byteAt; simp [List.getD_eq_getElem?_getD]

theorem byteAt_app (A X : List UInt8) (j : Nat) : byteAt (A ++ X) (A.length + j) = byteAt X j := by
  unfold byteAt
  rw [List.getD_eq_getElem?_getD, List.getD_eq_getElem?_getD, List.getElem?_append_right (by omega), Nat.add_sub_cancel_left]
theorem pow_mod256 (t : Nat) (h : 2 ^ t < 256) : (2 : Int) ^ t % 256 = ((2 ^ t : Nat) : Int) := by
  have e : (2 : Int) ^ t = ((2 ^ t : Nat) : Int) := by simp
  rw [e]
  generalize 2 ^ t = P at *
  omega
/-- What one turned bit makes of a byte. -/
theorem turn_val (b t : Nat) (hb : b < 256) (ht : t < 8) : bits .xor .u8 (b : Int) (2 ^ t % 256) = (((UInt8.ofNat (b ^^^ 2 ^ t)).toNat : Nat) : Int) := by
  have hp : 2 ^ t < 256 := Nat.pow_lt_pow_right (by omega) ht
  rw [pow_mod256 t hp, bits_xor8 b (2 ^ t) hb hp, UInt8.toNat_ofNat', Nat.mod_eq_of_lt (xor_pow_lt b t hb ht)]
/-- A bit of the length, or of its turned bits. -/
theorem head_turned (r B : List UInt8) (hr : r.length ≤ 65536) (j t : Nat) (hj : j < 8) (ht : t < 8) :
    formF ((frameF r ++ B).set j (UInt8.ofNat (byteAt (frameF r ++ B) j ^^^ 2 ^ t))) = false := by
  obtain ⟨h1, h2, _⟩ := frame_head r B hr
  have hl : j < (frameF r ++ B).length := by rw [List.length_append, frameF_len]; omega
  have hne := xor_pow_ne (byteAt (frameF r ++ B) j) t
  have hlt := xor_pow_lt (byteAt (frameF r ++ B) j) t (byte_lt _ _) ht
  generalize frameF r ++ B = X at *
  generalize hz : byteAt X j ^^^ 2 ^ t = z at *
  have hs : num4 X + num4 (X.drop 4) = 4294967295 := by rw [h1, h2]; omega
  unfold formF
  rw [Bool.and_eq_false_iff]
  left
  rw [beq_eq_false_iff_ne]
  intro he
  unfold num4 at hs he
  simp only [byteAt_drop, byteAt_set X j _ z hlt hl] at hs he
  have : j = 0 ∨ j = 1 ∨ j = 2 ∨ j = 3 ∨ j = 4 ∨ j = 5 ∨ j = 6 ∨ j = 7 := by omega
  rcases this with rfl | rfl | rfl | rfl | rfl | rfl | rfl | rfl <;> simp at hs he <;> omega

/-- Bits of the record and its checksum together, within 32. -/
theorem rec_turned (r B D : List UInt8) (hr : r.length ≤ 65536) (from_ mask : Nat) (hl : D.length = r.length + 4) (hm : 0 < mask) (hm2 : mask < 4294967296) (hf : from_ ≤ 8 * D.length)
    (hN : leNum D = leNum (r ++ bytes4 (sumF r)) ^^^ 2 ^ from_ * mask) :
    splitF (bytes4 r.length ++ (bytes4 (4294967295 - r.length) ++ (D ++ B))) = none ∧ stateF (bytes4 r.length ++ (bytes4 (4294967295 - r.length) ++ (D ++ B))) = 2 := by
  have h1 : num4 (bytes4 r.length ++ (bytes4 (4294967295 - r.length) ++ (D ++ B))) = r.length := num4_bytes4 _ (by omega) _
  have h2 : (bytes4 r.length ++ (bytes4 (4294967295 - r.length) ++ (D ++ B))).drop 8 = D ++ B := by rw [← List.append_assoc, List.drop_left' (by rfl)]
  have hg : goodF (bytes4 r.length ++ (bytes4 (4294967295 - r.length) ++ (D ++ B))) = false := by
    unfold goodF
    rw [h1, ← List.drop_drop, h2, List.take_append_of_le_length (by omega), List.drop_append_of_le_length (by omega), beq_eq_false_iff_ne]
    intro he
    rw [num4_app [] _ _ (by simp; omega)] at he
    have hc4 : (D.drop r.length).length = 4 := by simp; omega
    rw [num4_leNum _ hc4] at he
    -- the number behind the record and its checksum
    have key : ∀ (R c : List UInt8), c.length = 4 → sumF R = leNum c → crcL 4294967295 (R ++ c) = steps 32 4294967295 := by
      intro R c hc hs
      have hlt := crcL_lt (n := 4294967295) (by decide) R
      rw [crcL_app, crcL_eq _ c, hc, ← hs]
      unfold sumF
      rw [← not32 _ hlt, ← Nat.xor_assoc, Nat.xor_self, Nat.zero_xor]
    have k1 := key (D.take r.length) (D.drop r.length) hc4 he
    rw [List.take_append_drop] at k1
    have k2 := key r (bytes4 (sumF r)) rfl (by
      have := num4_bytes4 (sumF r) (sumF_lt r) []
      rw [List.append_nil, num4_leNum _ rfl] at this
      exact this.symm)
    rw [← k2, crcL_eq, crcL_eq] at k1
    rw [show (r ++ bytes4 (sumF r)).length = D.length by simp; omega] at k1
    exact burst hm hm2 hf hN k1
  have htn : tornF (bytes4 r.length ++ (bytes4 (4294967295 - r.length) ++ (D ++ B))) = false := torn_not (by simp; omega) (.inr (by rw [h1]; simp; omega))
  exact ⟨split_bad (.inr hg), state_bad htn⟩

/-- A byte of a row of the call's own. -/
theorem bowns_at {w : World} {base n cap : Nat} {a : Option Addr} {F : List UInt8} (h : BOwns w base (.slice a n cap) F) (hn : 0 < n) : ∃ g, a = some ⟨g, 0, none⟩ ∧ base ≤ g ∧ F.length = n ∧ n ≤ cap ∧ ∀ i, i < n →
    w.cell? ⟨g, i, none⟩ = some (.int .u8 (byteAt F i)) ∧ w.frozen? ⟨g, i, none⟩ = false ∧ ∀ z : UInt8, BOwns (w.setCell ⟨g, i, none⟩ (.int .u8 (z.toNat : Int))) base (.slice (some ⟨g, 0, none⟩) n cap) (F.set i z) := by
  obtain ⟨h1, h⟩ := h
  rcases h with ⟨hv, h0⟩ | ⟨g, cap', cur, hv, hg, hc, hnc, h5, h6, ht⟩
  · injection hv with _ e2 _
    omega
  · injection hv with e1 e2 e3
    subst e1; subst e3
    refine ⟨g, rfl, hg, e2.symm, by omega, fun i hi => ?_⟩
    rw [Nat.mul_one] at ht
    have hrow : w.rowAt g = some cur := by unfold World.rowAt; rw [hc]; rfl
    have hF : i < F.length := by omega
    have hci : cur[i]? = some (.int .u8 (byteAt F i)) := by
      have h2 : (cur.toList.take F.length)[i]? = some (.int .u8 (byteAt F i)) := by rw [ht]; exact bcells_get F i hF
      rw [List.getElem?_take_of_lt hF] at h2
      simpa using h2
    refine ⟨by rw [ucell_of_row hrow]; exact hci, ufrozen_of_row hrow i, fun z => ?_⟩
    rw [usetCell_of_row hrow]
    refine ⟨by simp, .inr ⟨g, cap, cur.setIfInBounds i (.int .u8 (z.toNat : Int)), by rw [List.length_set, e2], hg, ?_, by rw [List.length_set]; omega, h5, by simpa using h6, ?_⟩⟩
    · exact setRow_heap w g cur _ 5 _ hc
    · rw [List.length_set, Nat.mul_one, Array.toList_setIfInBounds, List.take_set, ht]
      simp [bcells, List.map_set]
end Go.Proofs.Ytfapldajodobhaa

/- Contracts of frame's appendNumber, Put, numberOf, recordEnd, isTorn, stateOf; bytes.Clone. -/
import Derived.Test.YtfapldajodobhaaFrA
import Derived.Test.YtfapldajodobhaaOcwB
import Derived.Test.YtfapldajodobhaaOctK
namespace Go.Proofs.Ytfapldajodobhaa
set_option linter.unusedVariables false
set_option linter.unusedSimpArgs false
open Go.RowKit

theorem or32 (k a b y : Nat) (ha : a < 2 ^ k) (hy : 2 ^ k * b = y) (hb : y + a < 4294967296) : bits .or .u32 (a : Int) (y : Int) = ((a + y : Nat) : Int) := by
  show IntKind.u32.wrap ((((BitVec.ofInt 32 (a : Int)) ||| (BitVec.ofInt 32 (y : Int))).toNat : Nat) : Int) = _
  have h : ((BitVec.ofInt 32 (a : Int)) ||| (BitVec.ofInt 32 (y : Int))).toNat = a + y := by
    rw [BitVec.toNat_or, BitVec.toNat_ofInt, BitVec.toNat_ofInt]
    rw [show ((a : Int) % (2 ^ 32 : Nat)).toNat = a by omega, show ((y : Int) % (2 ^ 32 : Nat)).toNat = y by omega]
    rw [← hy, Nat.or_comm, ← Nat.two_pow_add_eq_or_of_lt ha, Nat.add_comm]
  rw [h]
  clear h hy
  simp [IntKind.wrap, IntKind.signed, IntKind.bits]
  omega

theorem or_four (x0 x1 x2 x3 : Nat) (b0 : x0 < 256) (b1 : x1 < 256) (b2 : x2 < 256) (b3 : x3 < 256) :
    bits .or .u32 (bits .or .u32 (bits .or .u32 (x0 : Int) ((x1 : Int) * 256)) ((x2 : Int) * 65536)) ((x3 : Int) * 16777216) = ((x0 + 256 * x1 + 65536 * x2 + 16777216 * x3 : Nat) : Int) := by
  have e1 := or32 8 x0 x1 (256 * x1) (by omega) (by omega) (by omega)
  have e2 := or32 16 (x0 + 256 * x1) x2 (65536 * x2) (by omega) (by omega) (by omega)
  have e3 := or32 24 (x0 + 256 * x1 + 65536 * x2) x3 (16777216 * x3) (by omega) (by omega) (by omega)
  rw [show (x1 : Int) * 256 = ((256 * x1 : Nat) : Int) by omega, e1, show (x2 : Int) * 65536 = ((65536 * x2 : Nat) : Int) by omega, e2, show (x3 : Int) * 16777216 = ((16777216 * x3 : Nat) : Int) by omega, e3]
set_option maxRecDepth 100000 in
theorem n_frNumber (w : World) (a : Option Addr) (len cap : Nat) (L : List UInt8) (h : BReads w a len L) (h4 : 4 ≤ len) :
    Calls Try.prog 40 #[.slice a len cap] w fun e w' => e = .returned (.int .u32 ((num4 L : Nat) : Int)) ∧ ∃ n, w' = w.drewN n := by
  obtain ⟨hL, hR⟩ := h
  rcases hR with h0 | ⟨b, off, rfl, hc⟩
  · omega
  have c0 := hc 0 (by omega); have c1 := hc 1 (by omega); have c2 := hc 2 (by omega); have c3 := hc 3 (by omega)
  have b0 := byte_lt L 0; have b1 := byte_lt L 1; have b2 := byte_lt L 2; have b3 := byte_lt L 3
  unfold num4
  generalize byteAt L 0 = x0 at *
  generalize byteAt L 1 = x1 at *
  generalize byteAt L 2 = x2 at *
  generalize byteAt L 3 = x3 at *
  have HE := Lib.hid (or_four x0 x1 x2 x3 b0 b1 b2 b3)
  rw [Nat.add_zero] at c0
  have i0 : 0 < len := by omega
  have i1 : (1 : Int) < (len : Int) := by omega
  have i2 : (2 : Int) < (len : Int) := by omega
  have i3 : (3 : Int) < (len : Int) := by omega
  clear hc hL
  go_enter Try.func40, Try.ntmps40
  go_wp2_with fail
  go_quiet (fail)
  go_wp2
  go_ret
  exact ⟨ret1 HE.out, _, rfl⟩
set_option maxRecDepth 100000 in
theorem r_frNumber (w : World) (a : Option Addr) (len cap : Nat) (L : List UInt8) (h : BReads w a len L) (h4 : 4 ≤ len) :
    Calls Try.prog 34 #[.slice a len cap] w fun e w' => e = .returned (.int .u32 ((num4 L : Nat) : Int)) ∧ ∃ n, w' = w.drewN n := by
  obtain ⟨hL, hR⟩ := h
  rcases hR with h0 | ⟨b, off, rfl, hc⟩
  · omega
  have c0 := hc 0 (by omega); have c1 := hc 1 (by omega); have c2 := hc 2 (by omega); have c3 := hc 3 (by omega)
  have b0 := byte_lt L 0; have b1 := byte_lt L 1; have b2 := byte_lt L 2; have b3 := byte_lt L 3
  unfold num4
  generalize byteAt L 0 = x0 at *
  generalize byteAt L 1 = x1 at *
  generalize byteAt L 2 = x2 at *
  generalize byteAt L 3 = x3 at *
  have HE := Lib.hid (or_four x0 x1 x2 x3 b0 b1 b2 b3)
  rw [Nat.add_zero] at c0
  have i0 : 0 < len := by omega
  have i1 : (1 : Int) < (len : Int) := by omega
  have i2 : (2 : Int) < (len : Int) := by omega
  have i3 : (3 : Int) < (len : Int) := by omega
  clear hc hL
  go_enter Try.func34, Try.ntmps34
  go_wp2_with fail
  go_quiet (fail)
  go_wp2
  go_ret
  exact ⟨ret1 HE.out, _, rfl⟩

/-- What becomes of a number's bytes, as the program cuts them. -/
theorem cut_byte (n k : Nat) : IntKind.u8.wrap ((n / k : Nat) : Int) = (((UInt8.ofNat (n / k)).toNat : Nat) : Int) := by
  rw [UInt8.toNat_ofNat']; simp [IntKind.wrap, IntKind.signed, IntKind.bits]

theorem breads_four (w : World) (n : Nat) : BReads (w.alloc (.cells #[.int .u8 ((UInt8.ofNat n).toNat : Int), .int .u8 ((UInt8.ofNat (n / 256)).toNat : Int), .int .u8 ((UInt8.ofNat (n / 65536)).toNat : Int), .int .u8 ((UInt8.ofNat (n / 16777216)).toNat : Int)] 5)) (some ⟨w.heap.size, 0, none⟩) 4 (bytes4 n) := by
  refine ⟨rfl, .inr ⟨w.heap.size, 0, rfl, fun i hi => ?_⟩⟩
  rw [Nat.zero_add, ucell_of_row (rowAt_alloc_at w _ _ w.heap.size rfl)]
  have : i = 0 ∨ i = 1 ∨ i = 2 ∨ i = 3 := by omega
  rcases this with rfl | rfl | rfl | rfl <;> rfl

/-- 'append(row, xs...)', all cells of the row bytes, xs whatever bytes came in. -/
theorem wpList_fappo {ops : Array Oper} {rest : List Oper} {o : Oper} {a : Act} {w : World} {Q : Exit → Act → World → Prop} (hgd : o.guard = none) (s x : Operand)
    (ho : o.op = .call { callee := .builtin .append, args := #[s, x], argTypes := #[22, 22] }) (base : Nat) (v : Value) (xs : List UInt8) (hs : a.eval s = v) (hown : BOwns w base v xs) (hall : AllBytes w v)
    (A : Option Addr) (len cap : Nat) (ys : List UInt8) (hx : a.eval x = .slice A len cap) (hn : A = none → len = 0 ∧ cap = 0) (hr : BReads w A len ys) (hm : xs.length + len ≤ 17592186044416) (hb : base ≤ w.heap.size)
    (h : ∀ v' w', BOwns w' base v' (xs ++ ys) → AllBytes w' v' → w.grownBy w' v.ownBlock → wpList Try.prog ops Q rest (a.put o.dst v') w') : wpList Try.prog ops Q (o :: rest) a w := by
  rcases A with _ | ad
  · obtain ⟨i0, hi0, hz0, hz1, hz2⟩ := info_u8
    obtain ⟨rfl, rfl⟩ := hn rfl
    obtain rfl : ys = [] := List.eq_nil_of_length_eq_zero hr.1
    refine wpList_append_own_none hgd s x _ ho base 5 i0 1 Try.underlying22 hi0 _ xs.length (bcells xs) hs hown hx ?_
    exact h _ _ (by rw [List.append_nil]; exact hown) hall (World.grownBy.refl w _)
  · exact wpList_fapp hgd s x ho base v xs hs hown hall ad len cap ys hx hr hm hb h

def FrRes (w : World) (base : Nat) (D : List UInt8) (e : Ending) (w' : World) : Prop := ∃ v, e = .returned v ∧ BOwns w' base v D ∧ AllBytes w' v ∧ Below base w w'
set_option maxRecDepth 100000 in
theorem n_frAppend (w : World) (base : Nat) (hb : base ≤ w.heap.size) (v : Value) (L : List UInt8) (hown : BOwns w base v L) (hall : AllBytes w v) (hl : L.length ≤ 1099511627776) (n : Nat) (hn : n < 4294967296) :
    Calls Try.prog 27 #[v, .int .u32 (n : Int)] w (FrRes w base (L ++ bytes4 n)) := by
  have HO := Lib.hid hown
  have HA := Lib.hid hall
  have e0 : IntKind.u8.wrap (n : Int) = (((UInt8.ofNat n).toNat : Nat) : Int) := by have := cut_byte n 1; simpa using this
  have e1 : IntKind.u8.wrap ((n : Int) / 256) = (((UInt8.ofNat (n / 256)).toNat : Nat) : Int) := by have := cut_byte n 256; rw [← this]; simp
  have e2 : IntKind.u8.wrap ((n : Int) / 65536) = (((UInt8.ofNat (n / 65536)).toNat : Nat) : Int) := by have := cut_byte n 65536; rw [← this]; simp
  have e3 : IntKind.u8.wrap ((n : Int) / 16777216) = (((UInt8.ofNat (n / 16777216)).toNat : Nat) : Int) := by have := cut_byte n 16777216; rw [← this]; simp
  have HF := Lib.hid (breads_four w n)
  generalize (UInt8.ofNat n).toNat = y0 at *
  generalize (UInt8.ofNat (n / 256)).toNat = y1 at *
  generalize (UInt8.ofNat (n / 65536)).toNat = y2 at *
  generalize (UInt8.ofNat (n / 16777216)).toNat = y3 at *
  clear hown hall
  go_enter Try.func27, Try.ntmps27
  go_wp2_with (at_builtin; refine wpList_fapp rfl _ _ rfl base _ L rfl (HO.out.below (by (repeat' (first | (with_reducible exact Below.refl _ _) | (with_reducible assumption) | (with_reducible refine Below.alloc ?_ ?_ _) | (with_reducible refine Below.drew ?_) | (with_reducible refine below_drewN ?_ _) | (with_reducible refine below_plus ?_ ?_ _ _) | (with_reducible refine Below.setCell ?_ ?_ _) | (with_reducible refine Below.setRow ?_ ?_ _) | go_size)))) (HA.out.below (by (repeat' (first | (with_reducible exact Below.refl _ _) | (with_reducible assumption) | (with_reducible refine Below.alloc ?_ ?_ _) | (with_reducible refine Below.drew ?_) | (with_reducible refine below_drewN ?_ _) | (with_reducible refine below_plus ?_ ?_ _ _) | (with_reducible refine Below.setCell ?_ ?_ _) | (with_reducible refine Below.setRow ?_ ?_ _) | go_size)))) _ 4 4 (bytes4 n) rfl HF.out (by omega) (by simp; omega) ?_; intro v' w' hown hall hg)
  go_ret
  exact ⟨_, rfl, hown, hall, ((Below.refl base w).alloc hb _).grown hg (by simp; omega) (fun k hk => HO.out.block k hk)⟩
theorem make_room (n : Nat) (hn : n ≤ 1099511627776) (w : World) : (Instr.makeSlice 22 (.int .i64 0) (.int .i64 n)).run Try.prog w = .ok (.slice (some ⟨w.heap.size, 0, none⟩) 0 n) (w.alloc (.cells (urow (fun _ => 0) n) 5)) := by
  obtain ⟨i, hi, hz, hs, hb⟩ := info_u8
  have h := run_make (P := Try.prog) w 22 5 i (.int .u8 0) Try.underlying22 hi hz .i64 .i64 0 n (by omega) (by omega) (by rw [hb]; omega) (by omega)
  rw [h]
  have e : madeCells (Value.int .u8 0).cells ((n : Int).toNat * i.size) = urow (fun _ => 0) n := by
    rw [hs, Nat.mul_one, Int.toNat_natCast]
    apply Array.ext_getElem?
    intro k
    by_cases hk : k < n
    · rw [urow_get _ _ _ hk]
      simp [madeCells, hk, Value.cells, Nat.mod_one]
    · rw [Array.getElem?_eq_none (by rw [size_madeCells]; omega), Array.getElem?_eq_none (by simpa using Nat.le_of_not_lt hk)]
  rw [e, Int.toNat_natCast]
  rfl
theorem bowns_room (w : World) (n : Nat) (hn : n ≤ 1099511627776) : BOwns (w.alloc (.cells (urow (fun _ => 0) n) 5)) w.heap.size (.slice (some ⟨w.heap.size, 0, none⟩) 0 n) [] :=
  ⟨rfl, .inr ⟨w.heap.size, n, urow (fun _ => 0) n, rfl, Nat.le_refl _, by show (w.heap.push _)[w.heap.size]? = _; simp, Nat.zero_le _, by unfold maxLen; omega, by simp, by simp; rfl⟩⟩
theorem allbytes_room (w : World) (n : Nat) : AllBytes (w.alloc (.cells (urow (fun _ => 0) n) 5)) (.slice (some ⟨w.heap.size, 0, none⟩) 0 n) := by
  refine allbytes_new w _ _ _ ?_
  intro u hu
  simp [urow] at hu
  exact ⟨0, by omega, hu.2.symm⟩

/-- What Put tells of a record that may be. -/
def PutAns (w : World) (L : List UInt8) (e : Ending) (w' : World) : Prop := ∃ v, e = .returned (.tuple #[v, .int .i64 0]) ∧ BOwns w' w.heap.size v (frameF L) ∧ AllBytes w' v ∧ Junk w w'
theorem n_frLong (w : World) (a : Option Addr) (len cap : Nat) (L : List UInt8) (h : BIn w a len L cap) (hl : 65536 < len) :
    Calls Try.prog 12 #[.slice a len cap] w fun e w' => e = .returned (.tuple #[.slice none 0 0, .int .i64 3]) ∧ Junk w w' := by
  clear h
  have e1 : (65536 : Int) < (len : Int) := by omega
  go_enter Try.func12, Try.ntmps12
  go_wp2
  go_ret2
  exact ⟨rfl, junk_of_below (by (repeat' (first | (with_reducible exact Below.refl _ _) | (with_reducible assumption) | (with_reducible refine Below.alloc ?_ ?_ _) | (with_reducible refine Below.drew ?_) | (with_reducible refine below_drewN ?_ _) | (with_reducible refine below_plus ?_ ?_ _ _) | (with_reducible refine Below.setCell ?_ ?_ _) | (with_reducible refine Below.setRow ?_ ?_ _) | go_size)))⟩
set_option maxRecDepth 100000 in
theorem n_frPut (w : World) (a : Option Addr) (len cap : Nat) (L : List UInt8) (h : BIn w a len L cap) (hl : len ≤ 65536) :
    Calls Try.prog 12 #[.slice a len cap] w (PutAns w L) := by
  have hL := h.reads.1
  have HB := Lib.hid h
  have HA := Lib.hid (fun w' base hb v M (h1 : BOwns w' base v M) h2 h3 n h4 => n_frAppend w' base hb v M h1 h2 h3 n h4)
  have HS := Lib.hid (fun w' (h : BReads w' a len L) => n_Sum w' a len cap L h (by omega))
  have e1 : ¬ (65536 : Int) < (len : Int) := by omega
  have e2 : IntKind.u32.wrap (len : Int) = (len : Int) := by simp [IntKind.wrap, IntKind.signed, IntKind.bits]; omega
  have e3 : IntKind.i64.wrap (8 + (len : Int)) = 8 + (len : Int) := by simp [IntKind.wrap, IntKind.signed, IntKind.bits]; omega
  have e4 : IntKind.i64.wrap (8 + (len : Int) + 4) = ((len + 12 : Nat) : Int) := by simp [IntKind.wrap, IntKind.signed, IntKind.bits]; omega
  have e5 : bits .xor .u32 IntKind.u32.max (len : Int) = ((4294967295 - len : Nat) : Int) := by
    rw [← not32 len (by omega), Nat.xor_comm]; exact bits_xor32 4294967295 len (by decide) (by omega)
  have hmk := make_room (len + 12) (by omega)
  have HO0 := Lib.hid (bowns_room w (len + 12) (by omega))
  have HF0 := Lib.hid (allbytes_room w (len + 12))
  rw [show ((len + 12 : Nat) : Int) = (len : Int) + 12 by omega] at hmk
  generalize urow (fun _ => 0) (len + 12) = U at *
  clear h
  go_enter Try.func12, Try.ntmps12
  go_wp2_with fail
  refine (HA.out _ w.heap.size (by simp) _ [] HO0.out HF0.out (by simp) len (by omega)).mono ?_
  rintro e w1 ⟨v1, rfl, ho1, ha1, hb1⟩
  replace hb1 := ((Below.refl w.heap.size w).alloc (Nat.le_refl _) _).trans hb1
  go_wp2_with fail
  refine (HA.out _ w.heap.size hb1.size _ _ ho1 ha1 (by simp) (4294967295 - len) (by omega)).mono ?_
  rintro e w2 ⟨v2, rfl, ho2, ha2, hb2⟩
  have HO2 := Lib.hid ho2
  have HF2 := Lib.hid ha2
  have hl2 : ([] ++ bytes4 len ++ bytes4 (4294967295 - len)).length = 8 := by simp
  clear ho2 ha2
  generalize hD : [] ++ bytes4 len ++ bytes4 (4294967295 - len) = D at *
  go_wp2_with (at_builtin; refine wpList_fappo rfl _ _ rfl w.heap.size _ D rfl HO2.out HF2.out a len cap L rfl HB.out.none (HB.out.reads.below (hb1.trans hb2)) (by omega) (hb1.trans hb2).size ?_; intro v3 w3 ho3 ha3 hg3)
  have hbb := (hb1.trans hb2).grown hg3 (hb1.trans hb2).size (fun k hk => HO2.out.block k hk)
  refine (HS.out _ (HB.out.reads.below hbb)).mono ?_
  rintro e w4 ⟨rfl, J4, d4, rfl⟩
  go_wp2_with fail
  have hb4 : Below w.heap.size w (w3.plus J4 d4) := below_plus hbb hbb.size J4 d4
  refine (HA.out _ w.heap.size hb4.size _ (D ++ L) (ho3.below (Junk.below ⟨J4, d4, rfl⟩)) (ha3.below (Junk.below ⟨J4, d4, rfl⟩)) (by simp; omega) (sumF L) (sumF_lt L)).mono ?_
  rintro e w5 ⟨v5, rfl, ho5, ha5, hb5⟩
  clear hbb ho3 ha3 ho1 ha1
  go_wp2
  go_ret2
  refine ⟨v5, rfl, ?_, ha5, junk_of_below (hb4.trans hb5)⟩
  have e6 : D ++ L ++ bytes4 (sumF L) = frameF L := by rw [← hD, ← hL]; simp [frameF]
  rw [← e6]
  exact ho5
end Go.Proofs.Ytfapldajodobhaa

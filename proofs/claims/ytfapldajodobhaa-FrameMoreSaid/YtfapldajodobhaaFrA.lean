/- Contracts of frame's shiftByte, newTable, (table).sum, Sum. -/
import Derived.Test.YtfapldajodobhaaFrS
import Derived.Test.YtfapldajodobhaaURow
import Derived.Laws.ResultCell
namespace Go.Proofs.Ytfapldajodobhaa
set_option linter.unusedVariables false
set_option linter.unusedSimpArgs false
open Go.RowKit

theorem bits_xor32 (a b : Nat) (ha : a < 4294967296) (hb : b < 4294967296) : bits .xor .u32 (a : Int) (b : Int) = ((a ^^^ b : Nat) : Int) := by
  show IntKind.u32.wrap ((((BitVec.ofInt 32 (a : Int)) ^^^ (BitVec.ofInt 32 (b : Int))).toNat : Nat) : Int) = _
  have h : ((BitVec.ofInt 32 (a : Int)) ^^^ (BitVec.ofInt 32 (b : Int))).toNat = a ^^^ b := by
    simp [BitVec.toNat_xor, BitVec.toNat_ofInt]
    rw [Nat.mod_eq_of_lt ha, Nat.mod_eq_of_lt hb]
  have hl : a ^^^ b < 4294967296 := Nat.xor_lt_two_pow (n := 32) ha hb
  rw [h]
  simp [IntKind.wrap, IntKind.signed, IntKind.bits]
  omega
theorem bits_xor8 (a b : Nat) (ha : a < 256) (hb : b < 256) : bits .xor .u8 (a : Int) (b : Int) = ((a ^^^ b : Nat) : Int) := by
  show IntKind.u8.wrap ((((BitVec.ofInt 8 (a : Int)) ^^^ (BitVec.ofInt 8 (b : Int))).toNat : Nat) : Int) = _
  have h : ((BitVec.ofInt 8 (a : Int)) ^^^ (BitVec.ofInt 8 (b : Int))).toNat = a ^^^ b := by
    simp [BitVec.toNat_xor, BitVec.toNat_ofInt]
    rw [Nat.mod_eq_of_lt ha, Nat.mod_eq_of_lt hb]
  have hl : a ^^^ b < 256 := Nat.xor_lt_two_pow (n := 8) ha hb
  rw [h]
  simp [IntKind.wrap, IntKind.signed, IntKind.bits]
  omega
theorem not32 (a : Nat) (h : a < 4294967296) : a ^^^ 4294967295 = 4294967295 - a := by
  have e : (BitVec.ofNat 32 a ^^^ BitVec.allOnes 32).toNat = a ^^^ 4294967295 := by
    rw [BitVec.toNat_xor, BitVec.toNat_ofNat, Nat.mod_eq_of_lt h]; rfl
  rw [← e, BitVec.xor_allOnes, BitVec.toNat_not, BitVec.toNat_ofNat, Nat.mod_eq_of_lt h]
theorem bits_and1 (a : Nat) (h : a < 4294967296) : bits .and .u32 (a : Int) 1 = ((a % 2 : Nat) : Int) := by
  show IntKind.u32.wrap ((((BitVec.ofInt 32 (a : Int)) &&& (BitVec.ofInt 32 1)).toNat : Nat) : Int) = _
  have h1 : ((BitVec.ofInt 32 (a : Int)) &&& (BitVec.ofInt 32 1)).toNat = a % 2 := by
    simp [BitVec.toNat_and, BitVec.toNat_ofInt]
  rw [h1]
  simp [IntKind.wrap, IntKind.signed, IntKind.bits]
  omega

set_option maxRecDepth 100000 in
theorem n_shiftByte (n : Nat) (h : n < 4294967296) (w : World) : Calls Try.prog 35 #[.int .u32 (n : Int)] w fun e w' => e = .returned (.int .u32 (steps 8 n : Nat)) ∧ Junk w w' := by
  have HN := Lib.hid h
  clear h
  go_enter Try.func35, Try.ntmps35
  go_wp2_with fail
  go_loopw [0, 4] (fun x i wr => ∃ k m : Nat, x = .int .u32 (m : Int) ∧ i = .int .i64 (k : Int) ∧ k ≤ 8 ∧ m = steps k n ∧ wr = w) (fun _ i _ => 8 - (intOf i).toNat)
  case atStart => exact ⟨0, n, rfl, rfl, by omega, rfl, rfl⟩
  case round =>
    obtain ⟨k, m, rfl, rfl, k1, hm, rfl⟩ := hrel
    have hml : m < 4294967296 := by rw [hm]; exact steps_lt HN.out
    by_cases hlt : k < 8
    · have e1 := bits_and1 m hml
      have hs := steps_succ k n
      rw [← hm] at hs
      unfold step at hs
      have HS := Lib.hid hs
      have HX := Lib.hid (bits_xor32 (m / 2) poly (by omega) (by decide))
      clear hs hm
      rcases Nat.mod_two_eq_zero_or_one m with h2 | h2
      · rw [h2] at e1
        go_wp2
        go_roundw
        case rel => exact ⟨k + 1, m / 2, by go_num, by go_num, by omega, by rw [HS.out, h2]; simp, trivial⟩
        case measure => simp [intOf]; omega
      · rw [h2] at e1
        have e2 : bits .xor .u32 ((m : Int) / 2) 3988292384 = ((m / 2 ^^^ poly : Nat) : Int) := by rw [← HX.out]; simp [poly]
        go_wp2
        go_roundw
        case rel => exact ⟨k + 1, m / 2 ^^^ poly, by go_num, by go_num, by omega, by rw [HS.out, h2]; simp, trivial⟩
        case measure => simp [intOf]; omega
    · obtain rfl : k = 8 := by omega
      subst hm
      go_wp2
      go_ret
      exact ⟨rfl, junk_of_below (by (repeat' (first | (with_reducible exact Below.refl _ _) | (with_reducible assumption) | (with_reducible refine Below.alloc ?_ ?_ _) | (with_reducible refine Below.drew ?_) | (with_reducible refine below_drewN ?_ _) | (with_reducible refine below_plus ?_ ?_ _ _) | (with_reducible refine Below.setCell ?_ ?_ _) | (with_reducible refine Below.setRow ?_ ?_ _) | go_size)))⟩
/-- The cells of a row of n numbers of 32 bits. -/
def trow (g : Nat → Nat) (n : Nat) : Array Value := ((List.range n).map (fun i => Value.int .u32 (g i : Int))).toArray
@[simp, go_sem] theorem size_trow (g : Nat → Nat) (n : Nat) : (trow g n).size = n := by simp [trow]
@[simp, go_sem] theorem trow_getElem (g : Nat → Nat) (n i : Nat) (h : i < (trow g n).size) : (trow g n)[i] = .int .u32 (g i : Int) := by simp [trow]
theorem trow_get (g : Nat → Nat) (n i : Nat) (h : i < n) : (trow g n)[i]? = some (.int .u32 (g i : Int)) := by simp [trow, h]
theorem trow_congr {g h : Nat → Nat} {n : Nat} (e : ∀ i, i < n → g i = h i) : trow g n = trow h n := by
  unfold trow; congr 1; apply List.map_congr_left; intro i hi; rw [e i (List.mem_range.1 hi)]
theorem trow_set (g : Nat → Nat) (n k v : Nat) : (trow g n).setIfInBounds k (.int .u32 (v : Int)) = trow (fun i => if i = k then v else g i) n := by
  apply Array.ext_getElem?
  intro i
  rw [Array.getElem?_setIfInBounds]
  by_cases hk : k = i
  · subst hk
    by_cases h : k < n
    · rw [if_pos rfl, if_pos (by simpa using h), trow_get _ _ _ h, if_pos rfl]
    · rw [if_pos rfl, if_neg (by simpa using h), Array.getElem?_eq_none (by simpa using Nat.le_of_not_lt h)]
  · rw [if_neg hk]
    by_cases h : i < n
    · rw [trow_get _ _ _ h, trow_get _ _ _ h, if_neg (Ne.symm hk)]
    · rw [Array.getElem?_eq_none (by simpa using Nat.le_of_not_lt h), Array.getElem?_eq_none (by simpa using Nat.le_of_not_lt h)]
theorem trow_one (g : Nat → Nat) (n : Nat) : (trow g n).all (·.oneCell') = true := by
  simp [trow, Value.oneCell']

/-- The table. -/
def tabF (k i : Nat) : Nat := if i < k then steps 8 i else 0
theorem zero49 (w : World) : (zeroValue 49).run Try.prog w = .ok (.agg (trow (tabF 0) 256)) w := by
  have h : (Try.prog.info? 49).map (·.zero) = some (some (.agg (trow (fun _ => 0) 256))) := by kernel_rfl
  rw [show trow (tabF 0) 256 = trow (fun _ => 0) 256 from trow_congr fun i _ => if_neg (by omega)]
  cases hi : Try.prog.info? 49 with
  | none => rw [hi] at h; cases h
  | some i =>
    rw [hi] at h
    simp at h
    simp [zeroValue, typeInfo, hi, h]
theorem tab_step (k : Nat) : (trow (tabF k) 256).setIfInBounds k (.int .u32 ((steps 8 k : Nat) : Int)) = trow (tabF (k + 1)) 256 := by
  rw [trow_set]
  refine trow_congr fun i _ => ?_
  unfold tabF
  by_cases h : i = k
  · subst h; rw [if_pos rfl, if_pos (by omega)]
  · rw [if_neg h]
    by_cases h2 : i < k
    · rw [if_pos h2, if_pos (by omega)]
    · rw [if_neg h2, if_neg (by omega)]
def tabV : Value := .agg (trow (tabF 256) 256)

/-- A table read out of its block; written into it; the end of a function that answers one. -/
theorem wpList_tab_load {ops : Array Oper} {rest : List Oper} {o : Oper} {a : Act} {w : World} {Q : Exit → Act → World → Prop} (hgd : o.guard = none) (x : Operand) (ho : o.op = .load 49 x)
    (g : Nat) (hx : a.eval x = .pointer (some ⟨g, 0, none⟩)) (C : Array Value) (hr : w.rowAt g = some C) (hc : C.size = 256)
    (h : wpList Try.prog ops Q rest (a.put o.dst (.agg C)) w) : wpList Try.prog ops Q (o :: rest) a w := by
  obtain ⟨t, hg⟩ := rowAt_some hr
  exact wpList_load_row hgd _ x ho g hx t C (0, 0) _ hg Try.underlying49 rfl (by rw [hc]; kernel_rfl) h
theorem wpList_tab_store {ops : Array Oper} {rest : List Oper} {o : Oper} {a : Act} {w : World} {Q : Exit → Act → World → Prop} (hgd : o.guard = none) (x y : Operand) (ho : o.op = .store 49 x y)
    (g : Nat) (hx : a.eval x = .pointer (some ⟨g, 0, none⟩)) (f : Nat → Nat) (hy : a.eval y = .agg (trow f 256)) (c : Array Value) (hr : w.rowAt g = some c) (hc : c.size = 256)
    (h : wpList Try.prog ops Q rest (a.put o.dst undef) (w.setRow g (trow f 256))) : wpList Try.prog ops Q (o :: rest) a w := by
  obtain ⟨t, hg⟩ := rowAt_some hr
  exact wpList_plain hgd fun _ hK => wp_store_row _ x y ho g (trow f 256) hx hy t c hg (by rw [size_trow]; kernel_rfl) (by rw [size_trow, hc]) (trow_one _ _) (hK _ _ h)
theorem bodyPost_tab {fn : Func} {R : Ending → World → Prop} {a : Act} {w : World} (p : Tmp) (h : fn.results = #[.cell p 49]) (g : Nat)
    (hp : a.tmps.getD p undef = .pointer (some ⟨g, 0, none⟩)) (C : Array Value) (hr : w.rowAt g = some C) (hc : C.size = 256) (hd : a.defers = [])
    (hR : R (.returned (.agg C)) w) : bodyPost Try.prog fn R .ret a w := by
  obtain ⟨t, hg⟩ := rowAt_some hr
  exact bodyPost_ret (results_cell_row h _ _ g t C (0, 0) _ hp hg Try.underlying49 rfl (by rw [hc]; kernel_rfl)) hd hR

theorem plus_self (w : World) : w.plus #[] w.drawn = w := by cases w; simp [World.plus]
def TabAt (w : World) (i s : Value) (wr : World) : Prop := ∃ (k : Nat) (d : Nat) (J : Array Obj), i = .int .i64 (k : Int) ∧ k ≤ 256 ∧ wr = ((w.alloc (.cells (trow (tabF 0) 256) 49)).alloc (.cells (trow (tabF k) 256) 49)).plus J d
set_option maxRecDepth 100000 in
theorem n_newTable (w : World) : Calls Try.prog 29 #[] w fun e w' => e = .returned tabV ∧ Junk w w' := by
  have HS := Lib.hid (fun w' k (h : k < 4294967296) => n_shiftByte k h w')
  have hz := zero49
  go_enter Try.func29, Try.ntmps29
  go_wp2_with fail
  go_loopw [3, 2] (fun i s wr => TabAt w i s wr) (fun i _ _ => 256 - (intOf i).toNat)
  case atStart => exact ⟨0, w.drawn, #[], rfl, by omega, (plus_self _).symm⟩
  case round =>
    obtain ⟨k, d, J, rfl, k1, rfl⟩ := hrel
    by_cases hlt : k < 256
    · have e1 : IntKind.u32.wrap (k : Int) = (k : Int) := by simp [IntKind.wrap, IntKind.signed, IntKind.bits]; omega
      have HT := Lib.hid (tab_step k)
      generalize hC0 : trow (tabF 0) 256 = C0 at *
      generalize hC : trow (tabF k) 256 = C at *
      have hsz : C.size = 256 := by rw [← hC]; simp
      have hck : C[k]? = some (.int .u32 ((tabF k k : Nat) : Int)) := by rw [← hC]; exact trow_get _ _ _ hlt
      clear hC
      go_wp2_with (refine (HS.out _ k (by omega)).mono ?_; rintro e w2 ⟨rfl, J2, d2, rfl⟩)
      go_roundw
      case rel => exact ⟨k + 1, _, _, by go_num, by omega, by rw [hC0, ← HT.out]⟩
      case measure => simp [intOf]; omega
    · obtain rfl : k = 256 := by omega
      generalize hC0 : trow (tabF 0) 256 = C0 at *
      have hC0s : C0.size = 256 := by rw [← hC0]; simp
      go_wp2_with (first
        | (refine wpList_tab_load rfl _ rfl _ rfl (trow (tabF 256) 256) (by simp [go_sem]) (size_trow _ _) ?_)
        | (refine wpList_tab_store rfl _ _ rfl _ rfl (tabF 256) rfl C0 (by simp [go_sem]) hC0s ?_))
      refine bodyPost_tab 0 rfl w.heap.size rfl (trow (tabF 256) 256) (by simp [go_sem]) (size_trow _ _) rfl ⟨rfl, junk_of_below (by (repeat' (first | (with_reducible exact Below.refl _ _) | (with_reducible assumption) | (with_reducible refine Below.alloc ?_ ?_ _) | (with_reducible refine Below.drew ?_) | (with_reducible refine below_drewN ?_ _) | (with_reducible refine below_plus ?_ ?_ _ _) | (with_reducible refine Below.setCell ?_ ?_ _) | (with_reducible refine Below.setRow ?_ ?_ _) | go_size)))⟩

def SumAt (L : List UInt8) (w : World) (n i : Value) (wr : World) : Prop := ∃ k m : Nat, n = .int .u32 (m : Int) ∧ i = .int .i64 (k : Int) ∧ k ≤ L.length ∧ m = crcL 4294967295 (L.take k) ∧ wr = w
set_option maxRecDepth 100000 in
theorem n_tableSum (w : World) (a : Option Addr) (len cap : Nat) (L : List UInt8) (h : BReads w a len L) (hl : len ≤ 1099511627776) :
    Calls Try.prog 30 #[tabV, .slice a len cap] w fun e w' => e = .returned (.int .u32 ((sumF L : Nat) : Int)) ∧ Junk w w' := by
  unfold tabV
  have hlen := h.1
  have HR := Lib.hid h
  clear h
  have hT : ∀ i, i < 256 → (trow (tabF 256) 256)[i]? = some (.int .u32 ((steps 8 i : Nat) : Int)) := fun i hi => by rw [trow_get _ _ _ hi]; unfold tabF; rw [if_pos hi]
  have hs : (trow (tabF 256) 256).size = 256 := size_trow _ _
  have HT := Lib.hid hT
  generalize trow (tabF 256) 256 = C at *
  clear hT
  go_enter Try.func30, Try.ntmps30
  go_wp2_with fail
  obtain ⟨w1, hw1⟩ : ∃ w1, w.alloc (.cells C 49) = w1 := ⟨_, rfl⟩
  have hR1 := HR.out.below (show Below w.heap.size w w1 by rw [← hw1]; exact (Below.refl _ _).alloc (Nat.le_refl _) _)
  have hrow : w1.rowAt w.heap.size = some C := by rw [← hw1]; simp [go_sem]
  have hJ : Junk w w1 := by rw [← hw1]; exact junk_of_below (by (repeat' (first | (with_reducible exact Below.refl _ _) | (with_reducible assumption) | (with_reducible refine Below.alloc ?_ ?_ _) | (with_reducible refine Below.drew ?_) | (with_reducible refine below_drewN ?_ _) | (with_reducible refine below_plus ?_ ?_ _ _) | (with_reducible refine Below.setCell ?_ ?_ _) | (with_reducible refine Below.setRow ?_ ?_ _) | go_size)))
  rw [hw1]
  clear hw1 HR
  obtain ⟨_, hR2⟩ := hR1
  subst hlen
  go_loopw [5, 10] (fun n i wr => SumAt L w1 n i wr) (fun _ i _ => L.length - (intOf i).toNat)
  case atStart => exact ⟨0, 4294967295, rfl, rfl, by omega, rfl, rfl⟩
  case round =>
    obtain ⟨k, m, rfl, rfl, k1, hm, rfl⟩ := hrel
    have hml : m < 4294967296 := by rw [hm]; exact crcL_lt (by decide) _
    by_cases hlt : k < L.length
    · rcases hR2 with h0 | ⟨b, off, rfl, hc⟩
      · omega
      have hcb := hc k hlt
      have hB := byte_lt L k
      have hst : crcL 4294967295 (L.take (k + 1)) = crcB m (byteAt L k) := by
        rw [hm]
        have e : L.take (k + 1) = L.take k ++ [L[k]] := List.take_succ_eq_append_getElem hlt
        rw [e, crcL_app]
        show crcB _ _ = _
        congr 1
        simp [byteAt, List.getD_eq_getElem?_getD, hlt]
      rw [crcB_table m (byteAt L k) hB] at hst
      clear hm
      generalize byteAt L k = B at *
      have e1 : IntKind.u8.wrap (m : Int) = ((m % 256 : Nat) : Int) := by simp [IntKind.wrap, IntKind.signed, IntKind.bits]
      have hx : m % 256 ^^^ B = (m ^^^ B) % 256 := by
        have : (m ^^^ B) % 2 ^ 8 = m % 2 ^ 8 ^^^ B % 2 ^ 8 := Nat.xor_mod_two_pow
        rw [show (2 : Nat) ^ 8 = 256 by rfl, Nat.mod_eq_of_lt hB] at this
        exact this.symm
      have e2 : bits .xor .u8 ((m : Int) % 256) (B : Int) = (((m ^^^ B) % 256 : Nat) : Int) := by
        have := bits_xor8 (m % 256) B (by omega) hB
        rw [hx] at this
        rw [← this]; simp
      have hi : (m ^^^ B) % 256 < 256 := by omega
      have hst' : crcL 4294967295 (L.take (k + 1)) = steps 8 ((m ^^^ B) % 256) ^^^ m / 256 := hst
      clear hst hx
      generalize (m ^^^ B) % 256 = I at *
      have hcI := ucell_of_row hrow I
      rw [HT.out I hi] at hcI
      have hS : steps 8 I < 4294967296 := steps_lt (by omega)
      generalize steps 8 I = S at *
      have e3 : bits .xor .u32 (S : Int) ((m : Int) / 256) = ((S ^^^ m / 256 : Nat) : Int) := by have := bits_xor32 S (m / 256) hS (by omega); rw [← this]; simp
      have HS := Lib.hid hst'
      clear hst' hrow hc
      go_wp2
      go_roundw
      case rel => exact ⟨k + 1, S ^^^ m / 256, by first | rfl | (rw [← e3]; simp), by go_num, by omega, HS.out.symm, by first | rfl | trivial⟩
      case measure => simp [intOf]; omega
    · obtain rfl : k = L.length := by omega
      rw [List.take_length] at hm
      have e2 : bits .xor .u32 IntKind.u32.max (m : Int) = ((4294967295 - m : Nat) : Int) := by rw [← not32 m hml, Nat.xor_comm]; exact bits_xor32 4294967295 m (by decide) hml
      have HM := Lib.hid hm
      clear hrow hR2 hm
      go_wp2
      go_ret
      have e3 : Ending.returned (.int .u32 ((4294967295 - m : Nat) : Int)) = Ending.returned (.int .u32 ((sumF L : Nat) : Int)) := by unfold sumF; rw [← HM.out]
      exact ⟨e3, hJ⟩

theorem n_Sum (w : World) (a : Option Addr) (len cap : Nat) (L : List UInt8) (h : BReads w a len L) (hl : len ≤ 1099511627776) :
    Calls Try.prog 15 #[.slice a len cap] w fun e w' => e = .returned (.int .u32 ((sumF L : Nat) : Int)) ∧ Junk w w' := by
  have HR := Lib.hid h
  have HT := Lib.hid (fun w' (h : BReads w' a len L) => n_tableSum w' a len cap L h hl)
  have HN := Lib.hid n_newTable
  clear h
  go_enter Try.func15, Try.ntmps15
  go_wp2_with fail
  refine (HN.out _).mono ?_; rintro e w2 ⟨rfl, J2, d2, rfl⟩
  go_wp2_with fail
  refine (HT.out _ (HR.out.below (by (repeat' (first | (with_reducible exact Below.refl _ _) | (with_reducible assumption) | (with_reducible refine Below.alloc ?_ ?_ _) | (with_reducible refine Below.drew ?_) | (with_reducible refine below_drewN ?_ _) | (with_reducible refine below_plus ?_ ?_ _ _) | (with_reducible refine Below.setCell ?_ ?_ _) | (with_reducible refine Below.setRow ?_ ?_ _) | go_size))))).mono ?_; rintro e w2 ⟨rfl, J2, d2, rfl⟩
  go_wp2
  go_ret
  exact ⟨rfl, junk_of_below (by (repeat' (first | (with_reducible exact Below.refl _ _) | (with_reducible assumption) | (with_reducible refine Below.alloc ?_ ?_ _) | (with_reducible refine Below.drew ?_) | (with_reducible refine below_drewN ?_ _) | (with_reducible refine below_plus ?_ ?_ _ _) | (with_reducible refine Below.setCell ?_ ?_ _) | (with_reducible refine Below.setRow ?_ ?_ _) | go_size)))⟩
end Go.Proofs.Ytfapldajodobhaa

/- Contracts of civil's writeDigits and Text. Condition: civil's table is as laid. -/
import Derived.Test.YtpfaalpbfdphaaaDoorCivI
import Derived.Test.YtpfaalpbfdphaaaDoorPlus2
import Derived.Laws.IdiomStrings
import Derived.Lib.SlBytesConst
import Derived.Lib.SmallJoins
import Derived.Deep.RegionWith
namespace Go.Proofs.YtpfaalpbfdphaaaDoor
set_option linter.unusedVariables false
set_option linter.unusedSimpArgs false
open Go.RowKit

theorem setRow_same (w : World) (g : Nat) (c : Array Value) (t : TypeId) (fr : Nat × Nat) (h : w.heap[g]? = some (.cells c t fr)) : w.setRow g c = w := by
  unfold World.setRow
  obtain ⟨hp, tp, dr, os, op⟩ := w
  simp only at h ⊢
  congr 1
  apply Array.ext_getElem?
  intro k
  simp only [Array.getElem?_modify]
  by_cases hk : g = k
  · subst hk; rw [if_pos rfl, h]; rfl
  · rw [if_neg hk]
@[go_sem] theorem setRow_alloc_mark (w : World) (c c' : Array Value) (t : TypeId) (fr : Nat × Nat) (n : Nat) (hn : n = w.heap.size) : (w.alloc (.cells c t fr)).setRow n c' = w.alloc (.cells c' t fr) := by
  subst hn
  unfold World.setRow World.alloc
  congr 1
  apply Array.ext_getElem?
  intro k
  simp only [Array.getElem?_modify, Array.getElem?_push]
  by_cases hk : k = w.heap.size
  · subst hk; simp
  · simp [hk, Ne.symm hk]

theorem setRow_twice (w : World) (g : Nat) (a b : Array Value) : (w.setRow g a).setRow g b = w.setRow g b := by
  unfold World.setRow
  congr 1
  apply Array.ext_getElem?
  intro k
  simp only [Array.getElem?_modify]
  by_cases hk : g = k
  · subst hk; rw [if_pos rfl, if_pos rfl, if_pos rfl]
    cases h : w.heap[g]? with
    | none => rfl
    | some o => cases o <;> rfl
  · rw [if_neg hk, if_neg hk, if_neg hk]

/-- The row behind so many of the digits. -/
def wrow (cur : List Value) (off len n k : Nat) : List Value := cur.take (off + k) ++ (bcells (dg (len - k) n) ++ cur.drop (off + len))
theorem wrow_len (cur : List Value) (off len n k : Nat) (ho : off + len ≤ cur.length) (hk : k ≤ len) : (wrow cur off len n k).length = cur.length := by
  unfold wrow; simp [dg_len]; omega
theorem wrow_set (cur : List Value) (off len n k : Nat) (ho : off + len ≤ cur.length) (hk : k < len) :
    (wrow cur off len n (k + 1)).set (off + k) (.int .u8 ((48 + n / 10 ^ (len - (k + 1)) % 10 : Nat) : Int)) = wrow cur off len n k := by
  unfold wrow
  rw [show len - k = (len - (k + 1)) + 1 by omega, dg]
  have h1 : cur.take (off + (k + 1)) = cur.take (off + k) ++ [cur[off + k]'(by omega)] := by
    rw [show off + (k + 1) = off + k + 1 by omega]; exact List.take_succ_eq_append_getElem (by omega)
  rw [h1, List.append_assoc, List.set_append_right _ _ (by simp; omega)]
  congr 1
  simp [bcells, show min (off + k) cur.length = off + k by omega]
  omega

set_option maxHeartbeats 2000000 in
theorem n_writeDigits (g off len cap n : Nat) (cur : List Value) (t : TypeId) (fr : Nat × Nat) (w : World) (hg : w.heap[g]? = some (.cells cur.toArray t fr)) (hfr : cur.length ≤ fr.1) (ho : off + len ≤ cur.length) (hl : len ≤ 4) (hn : n ≤ 9999) :
    Calls Tryd.prog 32 #[.slice (some ⟨g, off, none⟩) len cap, .int .i64 n] w fun e w' => e = .returned (.tuple #[]) ∧ w' = w.setRow g (wrow cur off len n 0).toArray := by
  have HG := Lib.hid hg
  have HW0 := Lib.hid (show w = w.setRow g (wrow cur off len n len).toArray by
    have : wrow cur off len n len = cur := by unfold wrow; simp [dg, bcells]
    rw [this, setRow_same w g _ t fr hg])
  have HF := Lib.hid hfr; have HO := Lib.hid ho
  obtain ⟨fin, hfin⟩ : ∃ fin, fin = w.setRow g (wrow cur off len n 0).toArray := ⟨_, rfl⟩
  rw [← hfin]
  have HFIN := Lib.hid hfin
  clear hg hfr ho hfin
  go_enter Tryd.func32, Tryd.ntmps32
  go_wp2_with fail
  go_loopw [1, 4] (fun nv iv wr => ∃ (k p : Nat) (i : Int), iv = .int .i64 i ∧ i = (k : Int) - 1 ∧ k ≤ len ∧ p = n / 10 ^ (len - k) ∧ nv = .int .i64 p ∧ wr = w.setRow g (wrow cur off len n k).toArray) (fun _ iv _ => (intOf iv + 1).toNat)
  case atStart => exact ⟨len, n, _, rfl, rfl, Nat.le_refl _, by simp, rfl, HW0.out⟩
  case round =>
    obtain ⟨k, p, i, rfl, hi, hk, hp, rfl, rfl⟩ := hrel
    rcases Nat.eq_zero_or_pos k with h0 | h0
    · subst h0
      obtain rfl : i = -1 := by omega
      clear hp hi
      rw [← HFIN.out]
      go_wp2_with fail
      go_end0
      exact ⟨rfl, rfl⟩
    · obtain ⟨j, rfl⟩ : ∃ j, k = j + 1 := ⟨k - 1, by omega⟩
      obtain rfl : i = (j : Int) := by omega
      have hj : j < len := by omega
      have hb : (w.setRow g (wrow cur off len n (j + 1)).toArray).heap[g]? = some (.cells (wrow cur off len n (j + 1)).toArray t fr) := setRow_heap w g _ _ t _ HG.out
      have hlen := wrow_len cur off len n (j + 1) HO.out (by omega)
      have HS := Lib.hid (wrow_set cur off len n j HO.out hj)
      rw [← hp] at HS
      have hp2 : n / 10 ^ (len - j) = p / 10 := by rw [hp, show len - j = (len - (j + 1)) + 1 by omega, Nat.pow_succ, ← Nat.div_div_eq_div_mul]
      have HP2 := Lib.hid hp2
      have p9 : p ≤ 9999 := by rw [hp]; exact Nat.le_trans (Nat.div_le_self _ _) hn
      obtain ⟨r, hr⟩ : ∃ r, r = p % 10 := ⟨_, rfl⟩
      obtain ⟨p2, hq⟩ : ∃ p2, p2 = p / 10 := ⟨_, rfl⟩
      rw [← hr] at HS; rw [← hq] at HP2
      have e1 : (p : Int).tmod 10 = (r : Int) := by rw [hr, Int.tmod_eq_emod_of_nonneg (by omega)]; omega
      have e2 : (p : Int).tdiv 10 = (p2 : Int) := by rw [hq, Int.tdiv_eq_ediv_of_nonneg (by omega)]; omega
      have r9 : r ≤ 9 := by omega
      have p29 : p2 ≤ 9999 := by omega
      have e3 : IntKind.u8.wrap (48 + (r : Int)) = 48 + (r : Int) := by simp [IntKind.wrap, IntKind.signed, IntKind.bits]; omega
      have hsz := HO.out; have hfr := HF.out
      generalize wrow cur off len n (j + 1) = c at *
      have hcell : (w.setRow g c.toArray).cell? ⟨g, off + j, none⟩ = some (c[off + j]'(by omega)) := by simp [World.cell?, hb, show off + j < c.length by omega]
      have hfz : (w.setRow g c.toArray).frozen? ⟨g, off + j, none⟩ = false := by
        simp [World.frozen?, hb]; omega
      have hset : ∀ v, (w.setRow g c.toArray).setCell ⟨g, off + j, none⟩ v = w.setRow g (c.set (off + j) v).toArray := fun v => by
        rw [setCell_eq_setRow _ g _ _ t fr v hb, setRow_twice]
        simp
      have HB := Lib.hid hb; have HSET := Lib.hid hset
      clear hi hb hp hr hq hp2
      go_wp2_with fail
      go_roundw
      case rel => exact ⟨j, p2, (j : Int) - 1, rfl, rfl, by omega, HP2.out.symm, rfl, by rw [← HS.out]; simp⟩
      case measure => simp [intOf] <;> omega

def _root_.Go.World.blkAt (w : World) (g : Nat) : Option Obj := w.heap[g]?
theorem blk_at (W : World) (o : Obj) (n : Nat) (hn : n = W.heap.size) : (W.alloc o).blkAt n = some o := by
  subst hn; exact heap_alloc_new W o
theorem blk_drew (W : World) (n : Nat) : W.drew.blkAt n = W.blkAt n := rfl
theorem blk_drewN (W : World) (m n : Nat) : (W.drewN m).blkAt n = W.blkAt n := rfl
theorem lay_cells : (bcells layL).toArray = #[.int .u8 48, .int .u8 48, .int .u8 48, .int .u8 48, .int .u8 45, .int .u8 48, .int .u8 48, .int .u8 45, .int .u8 48, .int .u8 48] := rfl
theorem row0 (y : Nat) : (wrow (bcells layL) 0 4 y 0) = bcells (dg 4 y ++ [45, 48, 48, 45, 48, 48]) := by simp [wrow, bcells, layL]
theorem row1 (y m : Nat) : (wrow (bcells (dg 4 y ++ [45, 48, 48, 45, 48, 48])) 5 2 m 0) = bcells (dg 4 y ++ [45] ++ dg 2 m ++ [45, 48, 48]) := by simp [wrow, bcells, dg]
theorem row2 (y m d : Nat) : (wrow (bcells (dg 4 y ++ [45] ++ dg 2 m ++ [45, 48, 48])) 8 2 d 0) = bcells (dateText y m d) := by simp [wrow, bcells, dg, dateText]

theorem date_len (y m d : Nat) : (dateText y m d).length = 10 := by simp [dateText, dg]
theorem back_text (W : World) (g y m d : Nat) (h : W.blkAt g = some (.cells (bcells (dateText y m d)).toArray 5 (10, 11))) :
    (convert 48 9 (.slice (some ⟨g, 0, none⟩) 10 10)).run Tryd.prog W = .ok (.string ⟨(dateText y m d).toArray⟩) W := by
  have hb : W.heap[g]? = some (.cells (bcells (dateText y m d)).toArray 5 (10, 11)) := h
  have := run_convert_bytes_back (P := Tryd.prog) W 48 9 5 ⟨g, 0, none⟩ 10 (dateText y m d) Tryd.underlying48 Tryd.underlying5 Tryd.underlying9 (fun j hj => by
    have e : (⟨g, 0, none⟩ : Addr).add j = ⟨g, j, none⟩ := by unfold Addr.add; split <;> simp_all
    rw [e]
    simp [World.cell?, hb, bcells, hj])
  rw [date_len] at this
  exact this

set_option maxRecDepth 100000 in
set_option maxHeartbeats 2000000 in
theorem n_Text (v y m d : Nat) (hv : Valid y m d) (he : dayOf y m d = v) (w : World) (ht : CTab w) :
    Calls Tryd.prog 21 #[.int .i64 v] w fun e w' => e = .returned (.tuple #[.string ⟨(dateText y m d).toArray⟩, .int .i64 0]) ∧ Junk w w' := by
  have HD := Lib.hid (n_Date v y m d hv he w ht)
  obtain ⟨y0, y1, m0, m1, d0, d1⟩ := hv
  have d31 := (mlen_bd y m y0 y1 m0 m1).2
  have hd31 : (d : Int) ≤ 31 := by omega
  have HC1 := Lib.hid (fun (g : Nat) (W : World) (h : W.blkAt g = some (.cells (bcells layL).toArray 5 (10, 11))) => n_writeDigits g 0 4 10 y _ _ _ W h (by simp [layL]) (by simp [layL]) (by omega) (by omega))
  have HC2 := Lib.hid (fun (g : Nat) (W : World) (h : W.blkAt g = some (.cells (bcells (dg 4 y ++ [45, 48, 48, 45, 48, 48])).toArray 5 (10, 11))) => n_writeDigits g 5 2 5 m _ _ _ W h (by simp [dg]) (by simp [dg]) (by omega) (by omega))
  have HC3 := Lib.hid (fun (g : Nat) (W : World) (h : W.blkAt g = some (.cells (bcells (dg 4 y ++ [45] ++ dg 2 m ++ [45, 48, 48])).toArray 5 (10, 11))) => n_writeDigits g 8 2 2 d _ _ _ W h (by simp [dg]) (by simp [dg]) (by omega) (by omega))
  rw [row0, lay_cells] at HC1; rw [row1] at HC2; rw [row2] at HC3
  generalize hc1 : (bcells (dg 4 y ++ [45, 48, 48, 45, 48, 48])).toArray = c1 at *
  generalize hc2 : (bcells (dg 4 y ++ [45] ++ dg 2 m ++ [45, 48, 48])).toArray = c2 at *
  generalize hc3 : (bcells (dateText y m d)).toArray = c3 at *
  have HL1 := Lib.hid hc1; have HL2 := Lib.hid hc2; have HL3 := Lib.hid hc3
  clear ht he d1 d31 hc1 hc2 hc3
  go_enter Tryd.func21, Tryd.ntmps21
  go_wp2_with fail
  refine HD.out.mono ?_; rintro e w' ⟨rfl, J, dr, rfl⟩
  go_wp2_with fail
  rw [Joins.run_convert_bytes_const_at _ 48 5 _ _ _ _ (by simp) Tryd.underlying48 Tryd.underlying5]
  simp only [Result.andThen]
  rw [Oper.upon_value]
  go_wp2_with fail
  go_region_with (go_at_call 32; refine (HC1.out _ _ (by simp only [blk_drew, blk_drewN]; exact blk_at _ _ _ (by simp))).mono ?_; rintro e w' ⟨rfl, rfl⟩)
  go_wp2_with fail
  go_region_with (go_at_call 32; refine (HC2.out _ _ (by simp only [blk_drew, blk_drewN]; exact blk_at _ _ _ (by simp))).mono ?_; rintro e w' ⟨rfl, rfl⟩)
  go_wp2_with fail
  go_region_with (go_at_call 32; refine (HC3.out _ _ (by simp only [blk_drew, blk_drewN]; exact blk_at _ _ _ (by simp))).mono ?_; rintro e w' ⟨rfl, rfl⟩)
  go_wp2_with fail
  have HB := Lib.hid (fun g W h => back_text W g y m d h)
  rw [HL3.out] at HB
  rw [HB.out _ _ (by simp only [blk_drew, blk_drewN]; exact blk_at _ _ _ (by simp))]
  simp only [Result.andThen]
  rw [Oper.upon_value]
  go_wp2
  go_ret2
  exact ⟨rfl, junk_of_below (by (repeat' (first | (with_reducible exact Below.refl _ _) | (with_reducible assumption) | (with_reducible refine Below.alloc ?_ ?_ _) | (with_reducible refine Below.drew ?_) | (with_reducible refine below_drewN ?_ _) | (with_reducible refine below_plus ?_ ?_ _ _) | (with_reducible refine Below.setCell ?_ ?_ _) | (with_reducible refine Below.setRow ?_ ?_ _) | go_size)))⟩
theorem n_Text_out (v : Int) (h : ¬ (0 ≤ v ∧ v ≤ 3652058)) (w : World) : Calls Tryd.prog 21 #[.int .i64 v] w fun e w' => e = .returned (.tuple #[.string ⟨#[]⟩, .int .i64 5]) ∧ Junk w w' := by
  have HD := Lib.hid (n_Date_out v h w)
  clear h
  go_enter Tryd.func21, Tryd.ntmps21
  go_wp2_with fail
  refine HD.out.mono ?_; rintro e w' ⟨rfl, J, dr, rfl⟩
  go_wp2
  go_ret2
  exact ⟨rfl, junk_of_below (by (repeat' (first | (with_reducible exact Below.refl _ _) | (with_reducible assumption) | (with_reducible refine Below.alloc ?_ ?_ _) | (with_reducible refine Below.drew ?_) | (with_reducible refine below_drewN ?_ _) | (with_reducible refine below_plus ?_ ?_ _ _) | (with_reducible refine Below.setCell ?_ ?_ _) | (with_reducible refine Below.setRow ?_ ?_ _) | go_size)))⟩
end Go.Proofs.YtpfaalpbfdphaaaDoor

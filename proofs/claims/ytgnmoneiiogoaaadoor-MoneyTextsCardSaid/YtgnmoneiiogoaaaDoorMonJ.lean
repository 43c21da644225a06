/- Contracts of money's writeAhead and Text. Conditions: strconv's table is as laid. -/
import Derived.Test.YtgnmoneiiogoaaaDoorMonA
import Derived.Test.YtgnmoneiiogoaaaDoorMonW
import Derived.Test.YtgnmoneiiogoaaaDoorPlus2
import Derived.Laws.CopyOwn
import Derived.Laws.MakeOwn
import Derived.Laws.IdiomStrings
namespace Go.Proofs.YtgnmoneiiogoaaaDoor
set_option linter.unusedVariables false
set_option linter.unusedSimpArgs false
open Go.RowKit

/-- Bytes as cells. -/
def bcells (l : List UInt8) : List Value := l.map (fun b => .int .u8 (b.toNat : Int))
@[simp] theorem bcells_len (l : List UInt8) : (bcells l).length = l.length := by simp [bcells]
theorem bcells_eq (l : List UInt8) : Lib.byteCells l = bcells l := rfl

theorem cell_of_row' {W : World} {b : Nat} {c : Array Value} (h : W.rowAt b = some c) (i : Nat) : W.cell? ⟨b, i, none⟩ = c[i]? := by
  obtain ⟨t, hb⟩ := rowAt_some h
  simp [World.cell?, hb]

theorem setCell_row {w : World} {g : Nat} {cur : List Value} {t : TypeId} (h : w.heap[g]? = some (.cells cur.toArray t (0, 0))) : w.rowAt g = some cur.toArray := by simp [World.rowAt, h]

/-- The row behind digits written to end at a place. -/
def over (cur : List Value) (en : Nat) (D : List UInt8) : List Value := cur.take (en - D.length) ++ (bcells D ++ cur.drop en)

def Ahead (g en : Nat) (cur : List Value) (D : List UInt8) (w : World) (e : Ending) (w' : World) : Prop :=
  ∃ J d, e = .returned (.int .i64 ((en - D.length : Nat) : Int)) ∧ w' = (w.setRow g (over cur en D).toArray).plus J d

set_option maxRecDepth 100000 in
set_option maxHeartbeats 2000000 in
theorem n_writeAhead (g en : Nat) (n : Int) (cur : List Value) (D : List UInt8) (w : World) (ht : Tab w) (hg : w.rowAt g = some cur.toArray) (hl : cur.length = 20) (n0 : 0 ≤ n) (n1 : n ≤ 9223372036854775807)
    (hD : Lib.itoa n = D) (hd0 : 0 < D.length) (hd : D.length ≤ en) (he : en ≤ 20) :
    Calls Tryd.prog 19 #[.slice (some ⟨g, 0, none⟩) 20 20, .int .i64 en, .int .i64 n] w (Ahead g en cur D w) := by
  have HA := Lib.hid (fun (w : World) (ht : Tab w) => Tryd.strconv_AppendInt_10 w.heap.size 0 n (by omega) n1 (.slice none 0 0) [] w ⟨rfl, .inl ⟨rfl, rfl⟩⟩ (Nat.le_refl _) (by omega) (Lib.tabBelow_of_tabIs ht))
  rw [hD] at HA
  obtain ⟨t0, hgt⟩ := rowAt_some hg
  have hgl : g < w.heap.size := (Array.getElem?_eq_some_iff.1 hgt).1
  have HG := Lib.hid hg; have HL := Lib.hid hl; have HT := Lib.hid ht
  generalize hQ : Ahead g en cur D w = Q
  have HQ := Lib.hid hQ
  clear hQ hg hl ht hD
  go_enter Tryd.func19, Tryd.ntmps19
  go_wp2_with fail
  refine (HA.out w HT.out).mono ?_
  rintro e w' ⟨v', rfl, hown, hbl, -⟩
  rw [Nat.zero_add, List.nil_append, bcells_eq] at hown
  obtain ⟨-, hown⟩ := hown
  rcases hown with ⟨_, h0⟩ | ⟨g2, cap, cur2, rfl, hg2, hc2, hn2, -, -, htk⟩
  · omega
  obtain ⟨J, d, rfl⟩ := junk_of_below hbl
  have HC2 := Lib.hid hc2; have HTK := Lib.hid htk
  have HG2 := Lib.hid hg2
  obtain ⟨p, hp⟩ : ∃ p : Nat, (en : Int) - (D.length : Int) = p := ⟨en - D.length, by omega⟩
  have HP := Lib.hid (show p = en - D.length by omega)
  have hpe : p ≤ en := by omega
  have hp20 : p < 20 := by omega
  have hcs : (bcells D).length = D.length := bcells_len D
  have HCS := Lib.hid hcs
  have HPE := Lib.hid (show p + D.length = en by omega)
  obtain ⟨m, hm⟩ : ∃ m, m = D.length := ⟨_, rfl⟩
  rw [← hm] at hp hn2 HTK ⊢
  have HM := Lib.hid hm
  have hw : (w.plus J d).heap[g]? = some (.cells cur.toArray t0 (0, 0)) := by rw [heap_plus _ _ _ _ hgl]; exact hgt
  have HW := Lib.hid hw
  have HSRC := Lib.hid (show ∀ j v, (bcells D)[j]? = some v → (w.plus J d).cell? ((⟨g2, 0, none⟩ : Addr).add j) = some v from fun j v hj => by
    have hjl : j < D.length := by have := (List.getElem?_eq_some_iff.1 hj).1; rwa [hcs] at this
    rw [← htk, List.getElem?_take_of_lt (by omega)] at hj
    have e : (⟨g2, 0, none⟩ : Addr).add j = ⟨g2, j, none⟩ := by unfold Addr.add; split <;> simp_all
    rw [e]; simpa [World.cell?, hc2] using hj)
  clear hbl hc2 htk hg2 HA hd hd0 hm hcs hw hgt
  have hfin : ((w.plus J d).setRow g (cur.take p ++ bcells D ++ cur.drop (p + (bcells D).length)).toArray) = (w.setRow g (over cur en D).toArray).plus J d := by
    rw [setRow_plus _ _ _ _ _ hgl, HCS.out, HPE.out]
    unfold over
    rw [← HP.out, List.append_assoc]
  have HFIN := Lib.hid hfin
  clear hfin
  go_wp2_with fail
  rw [run_copy_row (P := Tryd.prog) (w.plus J d) 42 42 3 5 g p (en - p) (20 - p) ⟨g2, 0, none⟩ m cap cur.toArray t0 (bcells D) Tryd.underlying42 (by kernel_rfl) HW.out
    (by rw [HCS.out, ← HM.out]; have := HPE.out; have := HM.out; simp [Nat.min_def]; omega) HSRC.out (by rw [HCS.out]; have := HPE.out; have := HL.out; simp; omega) (fun v hv => by obtain ⟨b, _, rfl⟩ := List.mem_map.1 hv; rfl)]
  rw [show cur.toArray.toList = cur from rfl, HFIN.out, HCS.out, ← HM.out]
  simp only [Result.andThen]
  rw [Oper.upon_value]
  go_wp2_with fail
  rw [← HQ.out]
  exact ⟨J, d, by rw [← HP.out]; rfl, rfl⟩

theorem info_u8 : ∃ i, Tryd.prog.info? 5 = some i ∧ i.zero = some (.int .u8 0) ∧ i.size = 1 ∧ i.bytes = 1 := by
  have h : (Tryd.prog.info? 5).map (fun i => (i.zero, i.size, i.bytes)) = some (some (.int .u8 0), 1, 1) := by kernel_rfl
  cases hi : Tryd.prog.info? 5 with
  | none => rw [hi] at h; cases h
  | some i =>
    rw [hi] at h
    simp at h
    exact ⟨i, rfl, h.1, h.2.1, h.2.2⟩

def z20 : List Value := List.replicate 20 (.int .u8 0)
theorem made_20 (w : World) : (Instr.makeSlice 42 (.int .i64 20) (.int .i64 20)).run Tryd.prog w = .ok (.slice (some ⟨w.heap.size, 0, none⟩) 20 20) (w.alloc (.cells z20.toArray 5)) := by
  obtain ⟨i, hi, hz, hs, hb⟩ := info_u8
  have h := run_make (P := Tryd.prog) w 42 5 i (.int .u8 0) Tryd.underlying42 hi hz .i64 .i64 20 20 (by omega) (by omega) (by rw [hb]; omega) (by omega)
  rw [h, hs]
  have e : madeCells (Value.int .u8 0).cells ((20 : Int).toNat * 1) = z20.toArray := by
    apply Array.ext_getElem?
    intro k
    by_cases hk : k < 20
    · rw [show z20.toArray[k]? = z20[k]? from List.getElem?_toArray, z20, List.getElem?_replicate, if_pos hk]; simp [madeCells, hk, Value.cells, Nat.mod_one]
    · rw [Array.getElem?_eq_none (by rw [size_madeCells]; show 20 ≤ k; omega), Array.getElem?_eq_none (by simp [z20]; omega)]
  rw [e]; rfl

theorem over_rep (q : Nat) (T : List Value) (D : List UInt8) (z : Value) (h : D.length ≤ q) : over (List.replicate q z ++ T) q D = List.replicate (q - D.length) z ++ (bcells D ++ T) := by
  unfold over
  rw [List.take_append_of_le_length (by simp), List.take_replicate, show min (q - D.length) q = q - D.length by omega]
  rw [List.drop_append_of_le_length (by simp), List.drop_replicate, Nat.sub_self]; rfl

theorem over1 (X Y : UInt8) : (over z20 20 [49, X, Y]).set 17 (.int .u8 46) = List.replicate 17 (.int .u8 0) ++ bcells [46, X, Y] := rfl
theorem over2 (D : List UInt8) (X Y : UInt8) (p : Nat) (h : p + D.length = 17) : over (List.replicate 17 (.int .u8 0) ++ bcells [46, X, Y]) 17 D = List.replicate p (.int .u8 0) ++ bcells (D ++ [46, X, Y]) := by
  rw [over_rep 17 _ D _ (by omega), show 17 - D.length = p by omega]; simp [bcells]
theorem over3 (L : List UInt8) (p : Nat) : (List.replicate (p + 1) (Value.int .u8 0) ++ bcells L).set p (.int .u8 45) = List.replicate p (.int .u8 0) ++ bcells (45 :: L) := by
  rw [List.replicate_succ', List.append_assoc, List.set_append_right _ _ (by simp)]
  simp [bcells]
theorem cell_tail (w : World) (p : Nat) (L : List UInt8) (J : Array Obj) (d j : Nat) (hj : j < L.length) :
    ((w.alloc (.cells (List.replicate p (Value.int .u8 0) ++ bcells L).toArray 5)).plus J d).cell? ((⟨w.heap.size, p, none⟩ : Addr).add j) = some (.int .u8 (L[j].toNat : Int)) := by
  have e : (⟨w.heap.size, p, none⟩ : Addr).add j = ⟨w.heap.size, p + j, none⟩ := by unfold Addr.add; split <;> simp_all
  rw [e, cell_plus _ _ _ _ _ (by simp), cell_of_row' (rowAt_alloc_at _ _ _ _ rfl)]
  simp [bcells, List.getElem?_append_right, hj]

set_option maxRecDepth 100000 in
set_option maxHeartbeats 4000000 in
theorem n_Text_core (v n : Int) (neg : Bool) (D : List UInt8) (X Y : UInt8) (w : World) (ht : Tab w) (hmx : max v (-v) = n) (hneg : neg = decide (v < 0)) (v0 : 0 ≤ n) (v1 : n ≤ 1099511627775) (hD : Lib.itoa (n / 100) = D) (hE : Lib.itoa (100 + n % 100) = [49, X, Y])
    (d0 : 0 < D.length) (d1 : D.length ≤ 11) :
    Calls Tryd.prog 8 #[.int .i64 v] w fun e w' => e = .returned (.tuple #[.string ⟨((if neg then [45] else []) ++ (D ++ [46, X, Y])).toArray⟩, .int .i64 0]) ∧ Junk w w' := by
  have HC := n_Check v
  rw [show amtErr v = 0 from if_pos ⟨by omega, by omega⟩] at HC
  have HC := Lib.hid HC
  have hmk := made_20
  have HT := Lib.hid ht
  have q0 : 0 ≤ n / 100 := by omega
  have q1 : 0 ≤ n % 100 := by omega
  have q2 : n % 100 < 100 := by omega
  have q3 : n / 100 ≤ 10995116277 := by omega
  obtain ⟨p, hp⟩ : ∃ p, p + D.length = 17 := ⟨17 - D.length, by omega⟩
  have HPD := Lib.hid hp
  have p0 : 6 ≤ p := by omega
  have p1 : p ≤ 16 := by omega
  obtain ⟨L, hL⟩ : ∃ L, L = D ++ [46, X, Y] := ⟨_, rfl⟩
  have HLL := Lib.hid (show L.length = 20 - p by rw [hL]; simp; omega)
  have HW1 := Lib.hid (show ∀ w : World, Tab (w.alloc (.cells z20.toArray 5)) → Calls Tryd.prog 19 #[.slice (some ⟨w.heap.size, 0, none⟩) 20 20, .int .i64 20, .int .i64 (100 + n % 100)] (w.alloc (.cells z20.toArray 5)) (fun e w' => ∃ J d, e = .returned (.int .i64 17) ∧ w' = (w.alloc (.cells (over z20 20 [49, X, Y]).toArray 5)).plus J d) from fun w ht => by
    refine (n_writeAhead w.heap.size 20 (100 + n % 100) z20 [49, X, Y] _ ht (rowAt_alloc_at _ _ _ _ rfl) rfl (by omega) (by omega) hE (by simp) (by simp) (by simp)).mono ?_
    rintro e w' ⟨J, d, rfl, rfl⟩
    exact ⟨J, d, rfl, by rw [setRow_alloc_at _ _ _ _ _ rfl]⟩)
  have HW2 := Lib.hid (show ∀ (w : World) (J : Array Obj) (d : Nat), Tab ((w.alloc (.cells (List.replicate 17 (Value.int .u8 0) ++ bcells [46, X, Y]).toArray 5)).plus J d) →
      Calls Tryd.prog 19 #[.slice (some ⟨w.heap.size, 0, none⟩) 20 20, .int .i64 17, .int .i64 (n / 100)] ((w.alloc (.cells (List.replicate 17 (Value.int .u8 0) ++ bcells [46, X, Y]).toArray 5)).plus J d)
        (fun e w' => ∃ J2 d2, e = .returned (.int .i64 p) ∧ w' = (w.alloc (.cells (List.replicate p (Value.int .u8 0) ++ bcells (D ++ [46, X, Y])).toArray 5)).plus J2 d2) from fun w J d ht => by
    refine (n_writeAhead w.heap.size 17 (n / 100) _ D _ ht (by rw [rowAt_plus _ _ _ _ (by simp), rowAt_alloc_at _ _ _ _ rfl]) rfl (by omega) (by omega) hD d0 (by omega) (by omega)).mono ?_
    rintro e w' ⟨J2, d2, rfl, rfl⟩
    refine ⟨J ++ J2, d2, by rw [show 17 - D.length = p by omega], ?_⟩
    rw [setRow_plus _ _ _ _ _ (by simp), setRow_alloc_at _ _ _ _ _ rfl, over2 D X Y p hp, plus_plus])
  have HO := Lib.hid (over1 X Y)
  rw [← hL] at HW2
  generalize hc1 : over z20 20 [49, X, Y] = c1 at *
  have hl1 : c1.length = 20 := by rw [← hc1]; rfl
  have vb0 : -1099511627775 ≤ v := by omega
  have vb1 : v ≤ 1099511627775 := by omega
  obtain ⟨a, ha⟩ : ∃ a, a = n / 100 := ⟨_, rfl⟩
  obtain ⟨b, hb⟩ : ∃ b, b = n % 100 := ⟨_, rfl⟩
  rw [← ha] at HW2 q0 q3; rw [← hb] at HW1 q1 q2
  have hta : n.tdiv 100 = a := by rw [ha]; exact Int.tdiv_eq_ediv_of_nonneg v0
  have htb : n.tmod 100 = b := by rw [hb]; exact Int.tmod_eq_emod_of_nonneg v0
  clear hc1 hE hD ha hb
  go_enter Tryd.func8, Tryd.ntmps8
  go_wp2_with fail
  refine (HC.out _).mono ?_; rintro e w' ⟨rfl, rfl⟩
  go_wp2_with fail
  refine (HW1.out _ (HT.out.below ((Below.refl _ _).alloc (Nat.le_refl _) _))).mono ?_; rintro e w' ⟨J, d, rfl, rfl⟩
  go_wp2_with fail
  rw [HO.out]
  refine (HW2.out _ _ _ (HT.out.below ?_)).mono ?_
  · exact below_plus ((Below.refl _ _).alloc (Nat.le_refl _) _) (by simp) _ _
  rintro e w' ⟨J2, d2, rfl, rfl⟩
  cases neg with
  | false =>
    have hv0 : ¬ v < 0 := of_decide_eq_false hneg.symm
    have HCV := Lib.hid (run_convert_bytes_back (P := Tryd.prog) ((w.alloc (.cells (List.replicate p (Value.int .u8 0) ++ bcells L).toArray 5)).plus J2 d2) 42 9 5 ⟨w.heap.size, p, none⟩ (20 - p) L Tryd.underlying42 Tryd.underlying5 Tryd.underlying9 (fun j hj => cell_tail w p L J2 d2 j hj))
    rw [HLL.out] at HCV
    clear hneg
    go_wp2_with fail
    rw [← hL, HCV.out]
    simp only [Result.andThen]
    rw [Oper.upon_value]
    go_wp2
    go_ret2
    exact ⟨rfl, junk_of_below (by (repeat' (first | (with_reducible exact Below.refl _ _) | (with_reducible assumption) | (with_reducible refine Below.alloc ?_ ?_ _) | (with_reducible refine Below.drew ?_) | (with_reducible refine below_drewN ?_ _) | (with_reducible refine below_plus ?_ ?_ _ _) | (with_reducible refine Below.setCell ?_ ?_ _) | (with_reducible refine Below.setRow ?_ ?_ _) | go_size)))⟩
  | true =>
    have hv0 : v < 0 := of_decide_eq_true hneg.symm
    obtain ⟨q, rfl⟩ : ∃ q, p = q + 1 := ⟨p - 1, by omega⟩
    have hq1 : q < 20 := by omega
    have hq2 : q ≤ 15 := by omega
    have HCV := Lib.hid (run_convert_bytes_back (P := Tryd.prog) ((w.alloc (.cells (List.replicate q (Value.int .u8 0) ++ bcells (45 :: L)).toArray 5)).plus J2 d2) 42 9 5 ⟨w.heap.size, q, none⟩ (20 - q) (45 :: L) Tryd.underlying42 Tryd.underlying5 Tryd.underlying9 (fun j hj => cell_tail w q (45 :: L) J2 d2 j hj))
    rw [show (45 :: L).length = 20 - q by have := HLL.out; simp; omega] at HCV
    have HO3 := Lib.hid (over3 L q)
    have hl3 : (List.replicate (q + 1) (Value.int .u8 0) ++ bcells L).length = 20 := by have := HLL.out; simp; omega
    generalize List.replicate (q + 1) (Value.int .u8 0) ++ bcells L = c3 at *
    have HL := Lib.hid hL
    have HQ1 := Lib.hid hp
    rw [show ((q + 1 : Nat) : Int) = (q : Int) + 1 by omega]
    clear hneg hp p0 p1 hL
    go_wp2_with fail
    rw [HO3.out, HCV.out]
    simp only [Result.andThen]
    rw [Oper.upon_value]
    go_wp2
    go_ret2
    exact ⟨ret_str2 (by rw [← HL.out] <;> rfl), junk_of_below (by (repeat' (first | (with_reducible exact Below.refl _ _) | (with_reducible assumption) | (with_reducible refine Below.alloc ?_ ?_ _) | (with_reducible refine Below.drew ?_) | (with_reducible refine below_drewN ?_ _) | (with_reducible refine below_plus ?_ ?_ _ _) | (with_reducible refine Below.setCell ?_ ?_ _) | (with_reducible refine Below.setRow ?_ ?_ _) | go_size)))⟩

theorem itoa_100 (c : Nat) (h : c < 100) : Lib.itoa (100 + (c : Int)) = 49 :: cents2 c := by
  rw [show (100 : Int) + (c : Int) = ((100 + c : Nat) : Int) by omega, itoa_nat, Lib.decDigits, dif_neg (by omega), dec_lt100 _ (by omega) (by omega)]
  unfold cents2
  rw [show (100 + c) / 10 / 10 = 1 by omega, show (100 + c) / 10 % 10 = c / 10 by omega, show (100 + c) % 10 = c % 10 by omega]
  rfl

theorem dec_ne (u : Nat) : 0 < (Lib.decDigits u).length := by
  rw [Lib.decDigits]; split <;> simp

theorem n_Text (v : Int) (w : World) (ht : Tab w) :
    Calls Tryd.prog 8 #[.int .i64 v] w fun e w' => e = .returned (.tuple #[.string ⟨(if amtErr v = 0 then (amtText v, (0 : Int)) else ([], 5)).1.toArray⟩, .int .i64 (if amtErr v = 0 then (amtText v, (0 : Int)) else ([], 5)).2]) ∧ Junk w w' := by
  rcases amtErr_two v with ⟨h1, a0, a1⟩ | ⟨h1, h2⟩
  · rw [if_pos h1]
    obtain ⟨X, Y, hc, _⟩ := dec_get (v.natAbs % 100) (by omega)
    have h := n_Text_core v (v.natAbs : Int) (decide (v < 0)) (Lib.decDigits (v.natAbs / 100)) X Y w ht (by omega) rfl (by omega) (by omega)
      (by rw [show (v.natAbs : Int) / 100 = ((v.natAbs / 100 : Nat) : Int) by omega, itoa_nat])
      (by rw [show (v.natAbs : Int) % 100 = ((v.natAbs % 100 : Nat) : Int) by omega, itoa_100 _ (by omega), hc])
      (dec_ne _) (dec_len _ 11 (by omega) (by omega))
    have e : amtText v = (if decide (v < 0) = true then [45] else []) ++ (Lib.decDigits (v.natAbs / 100) ++ [46, X, Y]) := by
      unfold amtText
      rw [hc]
      by_cases hv : v < 0 <;> simp [hv]
    rw [e]
    exact h
  · rw [if_neg (by rw [h1]; decide)]
    have HC := n_Check v
    rw [h1] at HC
    have HC := Lib.hid HC
    clear h1 h2
    go_enter Tryd.func8, Tryd.ntmps8
    go_wp2_with fail
    refine (HC.out _).mono ?_; rintro e w' ⟨rfl, rfl⟩
    go_wp2
    go_ret2
    exact ⟨rfl, junk_of_below (by (repeat' (first | (with_reducible exact Below.refl _ _) | (with_reducible assumption) | (with_reducible refine Below.alloc ?_ ?_ _) | (with_reducible refine Below.drew ?_) | (with_reducible refine below_drewN ?_ _) | (with_reducible refine below_plus ?_ ?_ _ _) | (with_reducible refine Below.setCell ?_ ?_ _) | (with_reducible refine Below.setRow ?_ ?_ _) | go_size)))⟩
end Go.Proofs.YtgnmoneiiogoaaaDoor

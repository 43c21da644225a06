/- The law OctetGets: what any bytes are, at any place. -/
import Derived.Test.YtabjhmblfeoiaaaOcuW
import Derived.Test.YtabjhmblfeoiaaaOctF
import Derived.Test.YtabjhmblfeoiaaaKitA
import Derived.Deep.CutRange
namespace Go.Proofs.Ytabjhmblfeoiaaa
set_option linter.unusedVariables false
set_option linter.unusedSimpArgs false
open Go.RowKit

/-- A list that lies in memory of a call's own. -/
def ListAtV (w : World) (v : Value) (l : List Int) : Prop := ∃ a cap, v = .slice a l.length cap ∧ Reads w a l.length l
theorem ListAtV.below {w w' : World} {v : Value} {l : List Int} (h : ListAtV w v l) (hb : Below w.heap.size w w') : ListAtV w' v l := by
  obtain ⟨a, cap, h1, h2⟩ := h
  exact ⟨a, cap, h1, h2.below hb⟩
theorem list_of_owns {w : World} {base : Nat} {v : Value} {l : List Int} (h : w.ownsRow base 3 1 v l.length (ints l)) (hx : ∀ x ∈ l, I64 x) : ListAtV w v l := by
  have hf : Fit64 l l.length := fun i hi => by
    have := hx l[i] (List.getElem_mem hi)
    unfold I64 at this
    simpa [List.getD_eq_getElem?_getD, hi] using this
  exact reads_of_owns h hf
theorem listS_len (L : List UInt8) : ∀ (m : Nat) (p : Int) (acc : List Int), p ≤ L.length → (acc.length : Int) ≤ p → ((listS L m p acc).1.length : Int) ≤ L.length
  | 0, p, acc, h1, h2 => by show (acc.length : Int) ≤ _; omega
  | m + 1, p, acc, h1, h2 => by
    unfold listS
    by_cases c : (getP L p).2.2.1 ≠ 0
    · rw [if_pos c]; simp
    · rw [if_neg c]
      generalize hg : getP L p = g at *
      obtain ⟨n, q, e, a⟩ := g
      obtain rfl : e = 0 := Decidable.of_not_not c
      obtain ⟨_, _, i, k, e1, e2, e3, e4⟩ := get_canon hg
      have e5 := encN_pos n
      rw [← e4] at e5
      simp at e5
      exact listS_len L m q (acc ++ [n]) (by omega) (by simp; omega)
theorem listP_len (L : List UInt8) (p most : Int) : ((listP L p most).1.length : Int) ≤ L.length := by
  unfold listP
  by_cases c : (lenP L p most).2.2.1 ≠ 0
  · rw [if_pos c]; simp
  · rw [if_neg c]
    have := len_fits (L := L) (p := p) (most := most) (Decidable.of_not_not c)
    exact listS_len L _ _ [] (by omega) (by simp; omega)

theorem listS_i64 (L : List UInt8) : ∀ (m : Nat) (p : Int) (acc : List Int), (∀ x ∈ acc, I64 x) → ∀ x ∈ (listS L m p acc).1, I64 x
  | 0, p, acc, h => h
  | m + 1, p, acc, h => by
    unfold listS
    by_cases c : (getP L p).2.2.1 ≠ 0
    · rw [if_pos c]; simp
    · rw [if_neg c]
      refine listS_i64 L m _ _ (fun x hx => ?_)
      rcases List.mem_append.1 hx with h1 | h1
      · exact h x h1
      · obtain rfl := List.mem_singleton.1 h1
        generalize hg : getP L p = g at *
        obtain ⟨n, q, e, a⟩ := g
        obtain rfl : e = 0 := Decidable.of_not_not c
        exact (get_canon hg).1
theorem listP_i64 (L : List UInt8) (p most : Int) : ∀ x ∈ (listP L p most).1, I64 x := by
  unfold listP
  by_cases c : (lenP L p most).2.2.1 ≠ 0
  · rw [if_pos c]; simp
  · rw [if_neg c]; exact listS_i64 L _ _ [] (by simp)

theorem bin_lent {w : World} {g : Nat} {L : List UInt8} (hs : L.length ≤ 1048576) (h : w.rowAt g = some (urow (lentF L) (L.length + 3))) : BIn w (some ⟨g, 0, none⟩) L.length L (L.length + 3) := by
  refine ⟨⟨rfl, .inr ⟨g, 0, rfl, fun i hi => ?_⟩⟩, fun h => by (cases h), by omega, by omega⟩
  rw [ucell_of_row h, Nat.zero_add, urow_get _ _ _ (by omega)]
  unfold lentF
  rw [if_pos hi]

set_option maxRecDepth 100000 in
set_option maxHeartbeats 16000000 in
theorem l_octetGets (a : Option Addr) (len cap : Nat) (L : List UInt8) (p most : Int) (w : World) (hp : I64 p) (hm : I64 most) (h : BArg w a len cap L) :
    Calls Try.prog 4 #[.slice a len cap, .int .i64 p, .int .i64 most] w fun e w' => e = .returned (.bool true) ∧ Junk w w' := by
  by_cases hl : 5000 < len
  · have hl' : (5000 : Int) < (len : Int) := by omega
    clear hp hm h hl
    go_enter Try.func4, Try.ntmps4
    go_wp2
    go_ret
    exact ⟨rfl, junk_of_below (by (repeat' (first | (with_reducible exact Below.refl _ _) | (with_reducible assumption) | (with_reducible refine Below.alloc ?_ ?_ _) | (with_reducible refine Below.drew ?_) | (with_reducible refine below_drewN ?_ _) | (with_reducible refine below_plus ?_ ?_ _ _) | (with_reducible refine Below.setCell ?_ ?_ _) | (with_reducible refine Below.setRow ?_ ?_ _) | go_size)))⟩
  have hl' : ¬ (5000 : Int) < (len : Int) := by omega
  have hin := h.bin (by omega)
  have hL := h.reads.1
  subst hL
  have HIN := Lib.hid hin
  have HLe := Lib.hid (k_LentBytes w a L.length cap L hin (by omega))
  have HK := Lib.hid (fun W (hg : W.rowAt w.heap.size = some (urow (lentF L) (L.length + 3))) (hb : BIn W a L.length L cap) => k_KeptBytes W w.heap.size a L.length cap L hg hb (by omega))
  have HA := Lib.hid (fun w => l_awake w)
  have HLI := Lib.hid (fun W (hg : W.rowAt w.heap.size = some (urow (lentF L) (L.length + 3))) => bin_lent (w := W) (by omega) hg)
  have HG1 := Lib.hid (fun W a' cap' (h : BIn W a' L.length L cap') => n_Get W a' L.length cap' L h p hp _ (Lib.hid rfl))
  have HG2 := Lib.hid (fun W a' cap' (h : BIn W a' L.length L cap') => r_Get W a' L.length cap' L h.reads h.none h.small p hp _ (Lib.hid rfl))
  have HT1 := Lib.hid (fun W a' cap' (h : BIn W a' L.length L cap') => n_GetText W a' L.length cap' L h p most hp hm _ (Lib.hid rfl))
  have HT2 := Lib.hid (fun W a' cap' (h : BIn W a' L.length L cap') => r_GetText W a' L.length cap' L h p most hp hm _ (Lib.hid rfl))
  have HL1 := Lib.hid (fun W a' cap' (h : BIn W a' L.length L cap') => n_GetList W a' L.length cap' L h p most hp hm _ (Lib.hid rfl))
  have HL2 := Lib.hid (fun W a' cap' (h : BIn W a' L.length L cap') => r_GetList W a' L.length cap' L h p most hp hm _ (Lib.hid rfl))
  have HX := Lib.hid (listP_i64 L p most)
  have HXL := Lib.hid (listP_len L p most)
  generalize getP L p = r1 at *
  generalize textP L p most = r2 at *
  generalize listP L p most = r3 at *
  obtain ⟨x1, q1, e1, f1⟩ := r1
  obtain ⟨x2, q2, e2, f2⟩ := r2
  obtain ⟨x3, q3, e3, f3⟩ := r3
  have HSI := Lib.hid (fun W a b ca cb (hx : Reads W a x3.length x3) (hy : Reads W b x3.length x3) (hn : x3.length ≤ 1152921504606846976) => k_SameInts a b x3.length x3.length ca cb x3 x3 W hx hy hn hn)
  clear hp hm h hin hl
  go_enter Try.func4, Try.ntmps4
  go_wp2_with fail
  refine HLe.out.mono ?_; rintro e w1 ⟨rfl, d, hw1⟩
  have HB := Lib.hid (show Below w.heap.size w w1 by rw [hw1]; exact below_drewN ((Below.refl _ _).alloc (Nat.le_refl _) _) _)
  have HRow := Lib.hid (show w1.rowAt w.heap.size = some (urow (lentF L) (L.length + 3)) by rw [hw1, rowAt_drewN]; exact rowAt_alloc_at _ _ _ _ rfl)
  have hs1 : w.heap.size < w1.heap.size := by rw [hw1]; simp
  have HKR := Lib.hid (fun W (h : Below w1.heap.size w1 W) => (show W.rowAt w.heap.size = some (urow (lentF L) (L.length + 3)) by rw [rowAt_of_block (h.block _ hs1)]; exact HRow.out))
  have HKB := Lib.hid (fun W (h : Below w1.heap.size w1 W) => HIN.out.below (HB.out.trans (h.mono HB.out.size)))
  clear hw1 hs1
  go_upto_region 4 with fail
  go_cut [8, 9, 10] from 26 (fun x y p wx => x = .int .i64 x1 ∧ y = .int .i64 q1 ∧ FaultAt wx p e1 f1 ∧ Below w1.heap.size w1 wx)
  case first =>
    go_wp2_with fail
    refine (HG1.out _ _ _ (HLI.out _ (HKR.out _ (by (repeat' (first | (with_reducible exact Below.refl _ _) | (with_reducible assumption) | (with_reducible refine Below.alloc ?_ ?_ _) | (with_reducible refine Below.drew ?_) | (with_reducible refine below_drewN ?_ _) | (with_reducible refine below_plus ?_ ?_ _ _) | (with_reducible refine Below.setCell ?_ ?_ _) | (with_reducible refine Below.setRow ?_ ?_ _) | go_size)))))).mono ?_; rintro e w' ⟨rfl, J, dr, rfl⟩
    go_wp2_with fail
    go_meet
    case rel => exact ⟨rfl, rfl, fault_here _ _ _ _ (by simp), by (repeat' (first | (with_reducible exact Below.refl _ _) | (with_reducible assumption) | (with_reducible refine Below.alloc ?_ ?_ _) | (with_reducible refine Below.drew ?_) | (with_reducible refine below_drewN ?_ _) | (with_reducible refine below_plus ?_ ?_ _ _) | (with_reducible refine Below.setCell ?_ ?_ _) | (with_reducible refine Below.setRow ?_ ?_ _) | go_size))⟩
  obtain ⟨rfl, rfl, hf, hj⟩ := hcut
  have HBW' := Lib.hid (show Below w1.heap.size w1 wc from hj)
  have F4 := Lib.hid hf
  clear hf hj 
  have HBW := HBW'
  clear HBW'
  go_upto_region 5 with fail
  go_cut [11, 12, 13] from 26 (fun x y p wx => x = .int .i64 x1 ∧ y = .int .i64 q1 ∧ FaultAt wx p e1 f1 ∧ Below wc.heap.size wc wx)
  case first =>
    go_wp2_with fail
    refine (HG2.out _ _ _ (HKB.out _ (HBW.out.trans ((show Below wc.heap.size wc _ by (repeat' (first | (with_reducible exact Below.refl _ _) | (with_reducible assumption) | (with_reducible refine Below.alloc ?_ ?_ _) | (with_reducible refine Below.drew ?_) | (with_reducible refine below_drewN ?_ _) | (with_reducible refine below_plus ?_ ?_ _ _) | (with_reducible refine Below.setCell ?_ ?_ _) | (with_reducible refine Below.setRow ?_ ?_ _) | go_size))).mono HBW.out.size)))).mono ?_; rintro e w' ⟨rfl, J, dr, rfl⟩
    go_wp2_with fail
    go_meet
    case rel => exact ⟨rfl, rfl, fault_here _ _ _ _ (by simp), by (repeat' (first | (with_reducible exact Below.refl _ _) | (with_reducible assumption) | (with_reducible refine Below.alloc ?_ ?_ _) | (with_reducible refine Below.drew ?_) | (with_reducible refine below_drewN ?_ _) | (with_reducible refine below_plus ?_ ?_ _ _) | (with_reducible refine Below.setCell ?_ ?_ _) | (with_reducible refine Below.setRow ?_ ?_ _) | go_size))⟩
  obtain ⟨rfl, rfl, hf, hj⟩ := hcut
  have F4' := Lib.hid (F4.out.below hj)
  have HBW' := Lib.hid (show Below w1.heap.size w1 wc from HBW.out.trans (hj.mono HBW.out.size))
  have F5 := Lib.hid hf
  clear hf hj HBW F4
  have F4 := F4'
  clear F4'
  have HBW := HBW'
  clear HBW'
  go_upto_region 6 with fail
  go_cut [14, 15, 16] from 26 (fun x y p wx => x = .string ⟨x2.toArray⟩ ∧ y = .int .i64 q2 ∧ FaultAt wx p e2 f2 ∧ Below wc.heap.size wc wx)
  case first =>
    go_wp2_with fail
    refine (HT1.out _ _ _ (HLI.out _ (HKR.out _ (HBW.out.trans ((show Below wc.heap.size wc _ by (repeat' (first | (with_reducible exact Below.refl _ _) | (with_reducible assumption) | (with_reducible refine Below.alloc ?_ ?_ _) | (with_reducible refine Below.drew ?_) | (with_reducible refine below_drewN ?_ _) | (with_reducible refine below_plus ?_ ?_ _ _) | (with_reducible refine Below.setCell ?_ ?_ _) | (with_reducible refine Below.setRow ?_ ?_ _) | go_size))).mono HBW.out.size))))).mono ?_; rintro e w' ⟨rfl, J, dr, rfl⟩
    go_wp2_with fail
    go_meet
    case rel => exact ⟨rfl, rfl, fault_here _ _ _ _ (by simp), by (repeat' (first | (with_reducible exact Below.refl _ _) | (with_reducible assumption) | (with_reducible refine Below.alloc ?_ ?_ _) | (with_reducible refine Below.drew ?_) | (with_reducible refine below_drewN ?_ _) | (with_reducible refine below_plus ?_ ?_ _ _) | (with_reducible refine Below.setCell ?_ ?_ _) | (with_reducible refine Below.setRow ?_ ?_ _) | go_size))⟩
  obtain ⟨rfl, rfl, hf, hj⟩ := hcut
  have F4' := Lib.hid (F4.out.below hj)
  have F5' := Lib.hid (F5.out.below hj)
  have HBW' := Lib.hid (show Below w1.heap.size w1 wc from HBW.out.trans (hj.mono HBW.out.size))
  have F6 := Lib.hid hf
  clear hf hj HBW F4 F5
  have F4 := F4'
  clear F4'
  have F5 := F5'
  clear F5'
  have HBW := HBW'
  clear HBW'
  go_upto_region 7 with fail
  go_cut [17, 18, 19] from 26 (fun x y p wx => x = .string ⟨x2.toArray⟩ ∧ y = .int .i64 q2 ∧ FaultAt wx p e2 f2 ∧ Below wc.heap.size wc wx)
  case first =>
    go_wp2_with fail
    refine (HT2.out _ _ _ (HKB.out _ (HBW.out.trans ((show Below wc.heap.size wc _ by (repeat' (first | (with_reducible exact Below.refl _ _) | (with_reducible assumption) | (with_reducible refine Below.alloc ?_ ?_ _) | (with_reducible refine Below.drew ?_) | (with_reducible refine below_drewN ?_ _) | (with_reducible refine below_plus ?_ ?_ _ _) | (with_reducible refine Below.setCell ?_ ?_ _) | (with_reducible refine Below.setRow ?_ ?_ _) | go_size))).mono HBW.out.size)))).mono ?_; rintro e w' ⟨rfl, J, dr, rfl⟩
    go_wp2_with fail
    go_meet
    case rel => exact ⟨rfl, rfl, fault_here _ _ _ _ (by simp), by (repeat' (first | (with_reducible exact Below.refl _ _) | (with_reducible assumption) | (with_reducible refine Below.alloc ?_ ?_ _) | (with_reducible refine Below.drew ?_) | (with_reducible refine below_drewN ?_ _) | (with_reducible refine below_plus ?_ ?_ _ _) | (with_reducible refine Below.setCell ?_ ?_ _) | (with_reducible refine Below.setRow ?_ ?_ _) | go_size))⟩
  obtain ⟨rfl, rfl, hf, hj⟩ := hcut
  have F4' := Lib.hid (F4.out.below hj)
  have F5' := Lib.hid (F5.out.below hj)
  have F6' := Lib.hid (F6.out.below hj)
  have HBW' := Lib.hid (show Below w1.heap.size w1 wc from HBW.out.trans (hj.mono HBW.out.size))
  have F7 := Lib.hid hf
  clear hf hj HBW F4 F5 F6
  have F4 := F4'
  clear F4'
  have F5 := F5'
  clear F5'
  have F6 := F6'
  clear F6'
  have HBW := HBW'
  clear HBW'
  go_upto_region 8 with fail
  go_cut [20, 21, 22] from 26 (fun x y p wx => ListAtV wx x x3 ∧ y = .int .i64 q3 ∧ FaultAt wx p e3 f3 ∧ Below wc.heap.size wc wx)
  case first =>
    go_wp2_with fail
    refine (HL1.out _ _ _ (HLI.out _ (HKR.out _ (HBW.out.trans ((show Below wc.heap.size wc _ by (repeat' (first | (with_reducible exact Below.refl _ _) | (with_reducible assumption) | (with_reducible refine Below.alloc ?_ ?_ _) | (with_reducible refine Below.drew ?_) | (with_reducible refine below_drewN ?_ _) | (with_reducible refine below_plus ?_ ?_ _ _) | (with_reducible refine Below.setCell ?_ ?_ _) | (with_reducible refine Below.setRow ?_ ?_ _) | go_size))).mono HBW.out.size))))).mono ?_; rintro e w' ⟨v, rfl, hown, J, dr, rfl⟩; have HLV := Lib.hid (list_of_owns hown HX.out); clear hown
    go_wp2_with fail
    go_meet
    case rel => exact ⟨HLV.out.below (by (repeat' (first | (with_reducible exact Below.refl _ _) | (with_reducible assumption) | (with_reducible refine Below.alloc ?_ ?_ _) | (with_reducible refine Below.drew ?_) | (with_reducible refine below_drewN ?_ _) | (with_reducible refine below_plus ?_ ?_ _ _) | (with_reducible refine Below.setCell ?_ ?_ _) | (with_reducible refine Below.setRow ?_ ?_ _) | go_size))), rfl, fault_here _ _ _ _ (by simp), by (repeat' (first | (with_reducible exact Below.refl _ _) | (with_reducible assumption) | (with_reducible refine Below.alloc ?_ ?_ _) | (with_reducible refine Below.drew ?_) | (with_reducible refine below_drewN ?_ _) | (with_reducible refine below_plus ?_ ?_ _ _) | (with_reducible refine Below.setCell ?_ ?_ _) | (with_reducible refine Below.setRow ?_ ?_ _) | go_size))⟩
  obtain ⟨hv, rfl, hf, hj⟩ := hcut
  have F4' := Lib.hid (F4.out.below hj)
  have F5' := Lib.hid (F5.out.below hj)
  have F6' := Lib.hid (F6.out.below hj)
  have F7' := Lib.hid (F7.out.below hj)
  have HBW' := Lib.hid (show Below w1.heap.size w1 wc from HBW.out.trans (hj.mono HBW.out.size))
  have F8 := Lib.hid hf
  have V8 := Lib.hid hv
  clear hf hj hv HBW F4 F5 F6 F7
  have F4 := F4'
  clear F4'
  have F5 := F5'
  clear F5'
  have F6 := F6'
  clear F6'
  have F7 := F7'
  clear F7'
  have HBW := HBW'
  clear HBW'
  go_upto_region 9 with fail
  go_cut [23, 24, 25] from 26 (fun x y p wx => ListAtV wx x x3 ∧ y = .int .i64 q3 ∧ FaultAt wx p e3 f3 ∧ Below wc.heap.size wc wx)
  case first =>
    go_wp2_with fail
    refine (HL2.out _ _ _ (HKB.out _ (HBW.out.trans ((show Below wc.heap.size wc _ by (repeat' (first | (with_reducible exact Below.refl _ _) | (with_reducible assumption) | (with_reducible refine Below.alloc ?_ ?_ _) | (with_reducible refine Below.drew ?_) | (with_reducible refine below_drewN ?_ _) | (with_reducible refine below_plus ?_ ?_ _ _) | (with_reducible refine Below.setCell ?_ ?_ _) | (with_reducible refine Below.setRow ?_ ?_ _) | go_size))).mono HBW.out.size)))).mono ?_; rintro e w' ⟨v, rfl, hown, J, dr, rfl⟩; have HLV := Lib.hid (list_of_owns hown HX.out); clear hown
    go_wp2_with fail
    go_meet
    case rel => exact ⟨HLV.out.below (by (repeat' (first | (with_reducible exact Below.refl _ _) | (with_reducible assumption) | (with_reducible refine Below.alloc ?_ ?_ _) | (with_reducible refine Below.drew ?_) | (with_reducible refine below_drewN ?_ _) | (with_reducible refine below_plus ?_ ?_ _ _) | (with_reducible refine Below.setCell ?_ ?_ _) | (with_reducible refine Below.setRow ?_ ?_ _) | go_size))), rfl, fault_here _ _ _ _ (by simp), by (repeat' (first | (with_reducible exact Below.refl _ _) | (with_reducible assumption) | (with_reducible refine Below.alloc ?_ ?_ _) | (with_reducible refine Below.drew ?_) | (with_reducible refine below_drewN ?_ _) | (with_reducible refine below_plus ?_ ?_ _ _) | (with_reducible refine Below.setCell ?_ ?_ _) | (with_reducible refine Below.setRow ?_ ?_ _) | go_size))⟩
  obtain ⟨hv, rfl, hf, hj⟩ := hcut
  have F4' := Lib.hid (F4.out.below hj)
  have F5' := Lib.hid (F5.out.below hj)
  have F6' := Lib.hid (F6.out.below hj)
  have F7' := Lib.hid (F7.out.below hj)
  have F8' := Lib.hid (F8.out.below hj)
  have V8' := Lib.hid (V8.out.below hj)
  have HBW' := Lib.hid (show Below w1.heap.size w1 wc from HBW.out.trans (hj.mono HBW.out.size))
  have F9 := Lib.hid hf
  have V9 := Lib.hid hv
  clear hf hj hv HBW F4 F5 F6 F7 F8 V8
  have F4 := F4'
  clear F4'
  have F5 := F5'
  clear F5'
  have F6 := F6'
  clear F6'
  have F7 := F7'
  clear F7'
  have F8 := F8'
  clear F8'
  have V8 := V8'
  clear V8'
  have HBW := HBW'
  clear HBW'
  obtain ⟨va, vcap, rfl, hva⟩ := V8.out
  obtain ⟨vb, vcap', rfl, hvb⟩ := V9.out
  have HVA := Lib.hid hva
  have HVB := Lib.hid hvb
  clear hva hvb V8 V9
  obtain ⟨g4, hp4, hg4, hr4⟩ := F4.out
  subst hp4
  have c40 := ucell_of_row hr4 0
  have c41 := ucell_of_row hr4 1
  have z4 := ufrozen_of_row hr4
  simp at c40 c41
  clear hr4 F4
  obtain ⟨g5, hp5, hg5, hr5⟩ := F5.out
  subst hp5
  have c50 := ucell_of_row hr5 0
  have c51 := ucell_of_row hr5 1
  have z5 := ufrozen_of_row hr5
  simp at c50 c51
  clear hr5 F5
  obtain ⟨g6, hp6, hg6, hr6⟩ := F6.out
  subst hp6
  have c60 := ucell_of_row hr6 0
  have c61 := ucell_of_row hr6 1
  have z6 := ufrozen_of_row hr6
  simp at c60 c61
  clear hr6 F6
  obtain ⟨g7, hp7, hg7, hr7⟩ := F7.out
  subst hp7
  have c70 := ucell_of_row hr7 0
  have c71 := ucell_of_row hr7 1
  have z7 := ufrozen_of_row hr7
  simp at c70 c71
  clear hr7 F7
  obtain ⟨g8, hp8, hg8, hr8⟩ := F8.out
  subst hp8
  have c80 := ucell_of_row hr8 0
  have c81 := ucell_of_row hr8 1
  have z8 := ufrozen_of_row hr8
  simp at c80 c81
  clear hr8 F8
  obtain ⟨g9, hp9, hg9, hr9⟩ := F9.out
  subst hp9
  have c90 := ucell_of_row hr9 0
  have c91 := ucell_of_row hr9 1
  have z9 := ufrozen_of_row hr9
  simp at c90 c91
  clear hr9 F9
  go_wp2_with fail
  refine (HSI.out _ _ _ _ _ HVA.out HVB.out (by have h1 := HXL.out; have h2 := HIN.out.small; omega)).mono ?_; rintro e w2 ⟨rfl, J, dr, rfl⟩

  go_wp2_with fail
  refine (HK.out _ (HKR.out _ (HBW.out.trans ((show Below wc.heap.size wc _ by (repeat' (first | (with_reducible exact Below.refl _ _) | (with_reducible assumption) | (with_reducible refine Below.alloc ?_ ?_ _) | (with_reducible refine Below.drew ?_) | (with_reducible refine below_drewN ?_ _) | (with_reducible refine below_plus ?_ ?_ _ _) | (with_reducible refine Below.setCell ?_ ?_ _) | (with_reducible refine Below.setRow ?_ ?_ _) | go_size))).mono HBW.out.size))) (HKB.out _ (HBW.out.trans ((show Below wc.heap.size wc _ by (repeat' (first | (with_reducible exact Below.refl _ _) | (with_reducible assumption) | (with_reducible refine Below.alloc ?_ ?_ _) | (with_reducible refine Below.drew ?_) | (with_reducible refine below_drewN ?_ _) | (with_reducible refine below_plus ?_ ?_ _ _) | (with_reducible refine Below.setCell ?_ ?_ _) | (with_reducible refine Below.setRow ?_ ?_ _) | go_size))).mono HBW.out.size)))).mono ?_; rintro e w2 ⟨rfl, J2, dr2, rfl⟩
  go_wp2_with fail
  refine (HA.out _).mono ?_; rintro e w2 ⟨rfl, J3, dr3, rfl⟩
  go_wp2
  go_ret
  exact ⟨rfl, junk_of_below ((HB.out.trans (HBW.out.mono HB.out.size)).trans ((show Below wc.heap.size wc _ by (repeat' (first | (with_reducible exact Below.refl _ _) | (with_reducible assumption) | (with_reducible refine Below.alloc ?_ ?_ _) | (with_reducible refine Below.drew ?_) | (with_reducible refine below_drewN ?_ _) | (with_reducible refine below_plus ?_ ?_ _ _) | (with_reducible refine Below.setCell ?_ ?_ _) | (with_reducible refine Below.setRow ?_ ?_ _) | go_size))).mono (Nat.le_trans HB.out.size HBW.out.size)))⟩
end Go.Proofs.Ytabjhmblfeoiaaa

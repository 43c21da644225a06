/- Contracts of octet's getAll of bytes, GetText. -/
import Derived.Test.YtabjhmblfeoiaaaOcuC
import Derived.Test.YtabjhmblfeoiaaaOctK
import Derived.Deep.RegionWith
namespace Go.Proofs.Ytabjhmblfeoiaaa
set_option linter.unusedVariables false
set_option linter.unusedSimpArgs false
open Go.RowKit

/-- So many bytes, from a place on, behind those read before. -/
def textS (L : List UInt8) : Nat → Nat → List UInt8 → List UInt8 × Int × Int × Int
  | 0, p, acc => (acc, (p : Int), 0, 0)
  | n + 1, p, acc => if p = L.length then ([], 0, 4, (p : Int)) else textS L n (p + 1) (acc ++ [L.getD p 0])
theorem textS_eq (L : List UInt8) : ∀ (N q : Nat) (acc : List UInt8), q ≤ L.length → textS L N q acc = if (L.length : Int) - q < N then ([], 0, 4, (L.length : Int)) else (acc ++ (L.drop q).take N, (q : Int) + (N : Int), 0, 0)
  | 0, q, acc, h => by
    rw [textS, if_neg (by omega)]
    simp
  | N + 1, q, acc, h => by
    rw [textS]
    by_cases hq : q = L.length
    · rw [if_pos hq, if_pos (by omega), hq]
    · rw [if_neg hq, textS_eq L N (q + 1) _ (by omega)]
      by_cases hs : (L.length : Int) - ((q + 1 : Nat) : Int) < (N : Int)
      · rw [if_pos hs, if_pos (by omega)]
      · rw [if_neg hs, if_neg (by omega)]
        have hd : L.drop q = L.getD q 0 :: L.drop (q + 1) := by
          rw [List.drop_eq_getElem_cons (show q < L.length by omega)]
          simp [List.getD_eq_getElem?_getD, show q < L.length by omega]
        rw [hd, List.take_succ_cons, List.append_assoc]
        congr 2
        omega

/-- A call tells bytes in memory of its own, a place and a fault. -/
def BytesRes (w : World) (r : List UInt8 × Int × Int × Int) (e : Ending) (w' : World) : Prop :=
  ∃ v, e = .returned (.tuple #[v, .int .i64 r.2.1, .agg #[.int .i64 r.2.2.1, .int .i64 r.2.2.2]]) ∧ BOwns w' w.heap.size v r.1 ∧ Junk w w'

/-- getAll's loop: so many are read; the rest is what is told. -/
def BAt (w0 : World) (L : List UInt8) (N : Nat) (r : List UInt8 × Int × Int × Int) (nx o i : Value) (wr : World) : Prop :=
  ∃ (k q : Nat) (acc : List UInt8), nx = .int .i64 (q : Int) ∧ i = .int .i64 (k : Int) ∧ k ≤ N ∧ acc.length = k ∧ k ≤ q ∧ q ≤ L.length ∧ textS L (N - k) q acc = r ∧ BOwns wr w0.heap.size o acc ∧ Junk w0 wr

theorem breads_one_at (W : World) (z : UInt8) (c : Nat) (hc : z.toNat = c) (g : Nat) (hg : g = W.heap.size) : BReads (W.alloc (.cells #[.int .u8 (c : Int)] 5)) (some ⟨g, 0, none⟩) 1 [z] := by
  subst hg; subst hc; exact breads_one W z

set_option maxRecDepth 100000 in
set_option maxHeartbeats 4000000 in
theorem n_getAllB (w : World) (a : Option Addr) (len cap : Nat) (L : List UInt8) (hR : BIn w a len L cap) (p most : Int) (hp : I64 p) (hm : I64 most) (r : List UInt8 × Int × Int × Int) (hr : Hid (textP L p most = r)) :
    Calls Try.prog 46 #[.slice a len cap, .int .i64 p, .int .i64 most, .func (.func 47) #[] #[]] w (BytesRes w r) := by
  have HR := Lib.hid hR
  have hr := hr.out
  unfold textP at hr
  by_cases c0 : most < 0
  · have hl : lenP L p most = (0, 0, 2, 0) := by unfold lenP; rw [if_pos c0]
    rw [hl] at hr
    have hr : (([] : List UInt8), (0 : Int), (2 : Int), (0 : Int)) = r := hr
    subst hr
    clear hR hl
    go_enter Try.func46, Try.ntmps46
    go_wp2
    refine bodyPost_ret (results_pf5 rfl _ _ w.heap.size #[.int .i64 2, .int .i64 0] rfl (by simp [go_sem]) rfl) rfl ⟨_, rfl, bowns_nil _ _, junk_of_below (by (repeat' (first | (with_reducible exact Below.refl _ _) | (with_reducible assumption) | (with_reducible refine Below.alloc ?_ ?_ _) | (with_reducible refine Below.drew ?_) | (with_reducible refine below_drewN ?_ _) | (with_reducible refine below_plus ?_ ?_ _ _) | (with_reducible refine Below.setCell ?_ ?_ _) | (with_reducible refine Below.setRow ?_ ?_ _) | go_size)))⟩
  have HCnt := fun w' (h : BIn w' a len L cap) => n_getCount w' a len cap L h p most hp hm _ (Lib.hid (count_len (show 0 ≤ most by omega)))
  have hfit := len_fits (L := L) (p := p) (most := most)
  have hzero : (lenP L p most).2.2.1 = 0 → (lenP L p most).2.2.2 = 0 := by
    intro h
    generalize hg : lenP L p most = g at *
    obtain ⟨n, q, e, a⟩ := g
    simp only at h
    subst h
    exact (len_canon hg).1
  obtain ⟨hL, _⟩ := hR.reads
  have hsm := hR.small
  generalize lenP L p most = g at *
  obtain ⟨n, q, e, a'⟩ := g
  have HCnt := Lib.hid HCnt
  simp only at hr hfit hzero
  subst hL
  obtain ⟨m0, m1⟩ := hm
  clear hp hR
  by_cases c2 : e ≠ 0
  · rw [if_pos c2] at hr
    subst hr
    have e2 : (e != 0) = true := bne_iff_ne.2 c2
    clear c2 hfit hzero m0 m1
    go_enter Try.func46, Try.ntmps46
    go_wp2_with fail
    refine (HCnt.out _ (HR.out.below (by (repeat' (first | (with_reducible exact Below.refl _ _) | (with_reducible assumption) | (with_reducible refine Below.alloc ?_ ?_ _) | (with_reducible refine Below.drew ?_) | (with_reducible refine below_drewN ?_ _) | (with_reducible refine below_plus ?_ ?_ _ _) | (with_reducible refine Below.setCell ?_ ?_ _) | (with_reducible refine Below.setRow ?_ ?_ _) | go_size))))).mono ?_; rintro e w' ⟨rfl, J, dr, rfl⟩
    go_wp2
    go_region
    all_goals go_wp2
    all_goals refine bodyPost_ret (results_pf5 rfl _ _ w.heap.size #[.int .i64 e, .int .i64 a'] rfl (by simp [go_sem]) rfl) rfl ⟨_, rfl, bowns_nil _ _, junk_of_below (by (repeat' (first | (with_reducible exact Below.refl _ _) | (with_reducible assumption) | (with_reducible refine Below.alloc ?_ ?_ _) | (with_reducible refine Below.drew ?_) | (with_reducible refine below_drewN ?_ _) | (with_reducible refine below_plus ?_ ?_ _ _) | (with_reducible refine Below.setCell ?_ ?_ _) | (with_reducible refine Below.setRow ?_ ?_ _) | go_size)))⟩
  obtain rfl : e = 0 := Decidable.of_not_not c2
  rw [if_neg c2] at hr
  obtain ⟨n0, n1, q0, q1⟩ := hfit rfl
  obtain rfl : a' = 0 := hzero rfl
  clear hfit c2 hzero
  obtain ⟨N, rfl⟩ : ∃ N : Nat, n = N := ⟨n.toNat, by omega⟩
  obtain ⟨Q, rfl⟩ : ∃ Q : Nat, q = Q := ⟨q.toNat, by omega⟩
  rw [show ((N : Nat) : Int).toNat = N by omega, show ((Q : Nat) : Int).toNat = Q by omega] at hr
  have hQ : Q ≤ L.length := by omega
  have hts := textS_eq L N Q [] hQ
  rw [List.nil_append, hr] at hts
  have HRR := Lib.hid hts
  have eg := enters_of (P := Try.prog) Try.func47 (by kernel_rfl) rfl
  clear hr hts
  go_enter Try.func46, Try.ntmps46
  go_wp2_with fail
  refine (HCnt.out _ (HR.out.below (by (repeat' (first | (with_reducible exact Below.refl _ _) | (with_reducible assumption) | (with_reducible refine Below.alloc ?_ ?_ _) | (with_reducible refine Below.drew ?_) | (with_reducible refine below_drewN ?_ _) | (with_reducible refine below_plus ?_ ?_ _ _) | (with_reducible refine Below.setCell ?_ ?_ _) | (with_reducible refine Below.setRow ?_ ?_ _) | go_size))))).mono ?_; rintro e w' ⟨rfl, J, dr, rfl⟩
  go_wp2_with fail
  obtain ⟨w0, hw0⟩ : ∃ w0, w0 = (((w.alloc (.cells #[.int .i64 0, .int .i64 0] 36)).plus J dr).alloc (.cells #[.int .i64 0, .int .i64 0] 36)) := ⟨_, rfl⟩
  have hw0s : w0.heap.size = w.heap.size + 1 + J.size + 1 := by rw [hw0]; simp
  have hN : N ≤ 9223372036854775807 := by omega
  go_loopw [12, 14, 15, 32] (fun nx o _ i wr => BAt w0 L N r nx o i wr) (fun _ _ _ i _ => N - (intOf i).toNat)
  case atStart => exact ⟨0, Q, [], rfl, rfl, Nat.zero_le _, rfl, Nat.zero_le _, hQ, HRR.out, bowns_nil _ _, by rw [hw0]; exact junk_of_below (by (repeat' (first | (with_reducible exact Below.refl _ _) | (with_reducible assumption) | (with_reducible refine Below.alloc ?_ ?_ _) | (with_reducible refine Below.drew ?_) | (with_reducible refine below_drewN ?_ _) | (with_reducible refine below_plus ?_ ?_ _ _) | (with_reducible refine Below.setCell ?_ ?_ _) | (with_reducible refine Below.setRow ?_ ?_ _) | go_size)))⟩
  case round =>
    obtain ⟨k, q, acc, rfl, rfl, hk, hacc, hkq, q1, hls, hown, J2, dr2, rfl⟩ := hrel
    have hws : w.heap.size ≤ w0.heap.size := by omega
    subst hw0
    have HO := Lib.hid hown
    by_cases hlt : k < N
    · rw [show N - k = (N - k - 1) + 1 by omega, textS] at hls
      have HGq := Lib.hid (fun w' h r' hr' => n_getByte w' a L.length cap L h q q1 r' hr')
      by_cases hq : q = L.length
      · rw [if_pos hq] at hls
        subst hls
        have HB := Lib.hid (show byteP L q = (0, 0, 4, (q : Int)) by unfold byteP; rw [if_pos hq])
        clear hown hq
        go_wp2_with fail
        refine (HGq.out _ (HR.out.below (by (repeat' (first | (with_reducible exact Below.refl _ _) | (with_reducible assumption) | (with_reducible refine Below.alloc ?_ ?_ _) | (with_reducible refine Below.drew ?_) | (with_reducible refine below_drewN ?_ _) | (with_reducible refine below_plus ?_ ?_ _ _) | (with_reducible refine Below.setCell ?_ ?_ _) | (with_reducible refine Below.setRow ?_ ?_ _) | go_size)))) _ HB).mono ?_; rintro e w' ⟨rfl, J3, dr3, rfl⟩
        go_wp2
        go_region
        all_goals go_wp2
        all_goals refine bodyPost_ret (results_pf5 rfl _ _ w.heap.size #[.int .i64 4, .int .i64 q] rfl (by simp [go_sem]) rfl) rfl ⟨_, rfl, bowns_nil _ _, junk_of_below (by (repeat' (first | (with_reducible exact Below.refl _ _) | (with_reducible assumption) | (with_reducible refine Below.alloc ?_ ?_ _) | (with_reducible refine Below.drew ?_) | (with_reducible refine below_drewN ?_ _) | (with_reducible refine below_plus ?_ ?_ _ _) | (with_reducible refine Below.setCell ?_ ?_ _) | (with_reducible refine Below.setRow ?_ ?_ _) | go_size)))⟩
      · rw [if_neg hq] at hls
        obtain ⟨z, hz⟩ : ∃ z, L.getD q 0 = z := ⟨_, rfl⟩
        have hzn : byteAt L q = z.toNat := by unfold byteAt; rw [hz]
        have HB := Lib.hid (show byteP L q = (z.toNat, (q : Int) + 1, 0, 0) by unfold byteP; rw [if_neg hq, hzn])
        rw [hz] at hls
        have HLS := Lib.hid hls
        have hq1 : q + 1 ≤ L.length := by omega
        have hb256 : z.toNat < 256 := UInt8.toNat_lt _
        obtain ⟨c, hc⟩ : ∃ c, z.toNat = c := ⟨_, rfl⟩
        have HZ := Lib.hid hc
        rw [hc] at HB hb256
        have hk40 : k ≤ 1099511627776 := by omega
        clear hown hq hls hz hzn hc
        go_wp2_with fail
        refine (HGq.out _ (HR.out.below (by (repeat' (first | (with_reducible exact Below.refl _ _) | (with_reducible assumption) | (with_reducible refine Below.alloc ?_ ?_ _) | (with_reducible refine Below.drew ?_) | (with_reducible refine below_drewN ?_ _) | (with_reducible refine below_plus ?_ ?_ _ _) | (with_reducible refine Below.setCell ?_ ?_ _) | (with_reducible refine Below.setRow ?_ ?_ _) | go_size)))) _ HB).mono ?_; rintro e w' ⟨rfl, J3, dr3, rfl⟩
        rw [plus_plus]
        generalize hw1 : (((w.alloc (.cells #[.int .i64 0, .int .i64 0] 36)).plus J dr).alloc (.cells #[.int .i64 0, .int .i64 0] 36)) = w1 at *
        have HO3 := Lib.hid (show BOwns (w1.plus (J2 ++ J3) dr3) w1.heap.size _ acc by
          rw [← plus_plus _ J2 dr2]
          exact HO.out.below (below_plus (Below.refl _ _) (Nat.le_refl _) J3 dr3))
        have HJ3 := Lib.hid (Junk.below (w := w1) ⟨J2 ++ J3, dr3, rfl⟩)
        have hw1s : Hid (w1.heap.size = w.heap.size + 1 + J.size + 1) := Lib.hid hw0s
        rw [hw1s.out] at HO3 HJ3
        clear hw0s hws
        subst hw1
        go_wp2_with (at_builtin; refine wpList_bapp rfl _ _ rfl (w.heap.size + 1 + J.size + 1) _ acc rfl (HO3.out.below (by (repeat' (first | (with_reducible exact Below.refl _ _) | (with_reducible assumption) | (with_reducible refine Below.alloc ?_ ?_ _) | (with_reducible refine Below.drew ?_) | (with_reducible refine below_drewN ?_ _) | (with_reducible refine below_plus ?_ ?_ _ _) | (with_reducible refine Below.setCell ?_ ?_ _) | (with_reducible refine Below.setRow ?_ ?_ _) | go_size)))) _ 1 1 [z] rfl (fun h => by cases h) (breads_one_at _ z c HZ.out _ (by simp)) (by omega) (by simp; omega) ?_; intro v' w' hown' hg)
        go_roundw
        case rel => exact ⟨k + 1, q + 1, acc ++ [z], rfl, by go_num, by omega, by simp [hacc], by omega, hq1, HLS.out, by rw [hw1s.out]; exact hown', junk_of_below (by rw [hw1s.out]; exact ((HJ3.out.alloc (by go_size) _)).grown hg (by go_size) (fun k hk => HO3.out.block k hk))⟩
        case measure => simp [intOf]; omega
    · obtain rfl : k = N := by omega
      rw [Nat.sub_self, textS] at hls
      subst hls
      have HJ3 := Lib.hid (Junk.below (w := (((w.alloc (.cells #[.int .i64 0, .int .i64 0] 36)).plus J dr).alloc (.cells #[.int .i64 0, .int .i64 0] 36))) ⟨J2, dr2, rfl⟩)
      clear hown
      go_wp2
      refine bodyPost_ret (results_pf5 rfl _ _ w.heap.size #[.int .i64 0, .int .i64 0] rfl (by simp [go_sem]) rfl) rfl ⟨_, rfl, ?_, junk_of_below (by (repeat' (first | (with_reducible exact Below.refl _ _) | (with_reducible assumption) | (with_reducible refine Below.alloc ?_ ?_ _) | (with_reducible refine Below.drew ?_) | (with_reducible refine below_drewN ?_ _) | (with_reducible refine below_plus ?_ ?_ _ _) | (with_reducible refine Below.setCell ?_ ?_ _) | (with_reducible refine Below.setRow ?_ ?_ _) | go_size)))⟩
      exact HO.out.base hws

set_option maxHeartbeats 2000000 in
theorem n_GetText (w : World) (a : Option Addr) (len cap : Nat) (L : List UInt8) (hR : BIn w a len L cap) (p most : Int) (hp : I64 p) (hm : I64 most) (r : List UInt8 × Int × Int × Int) (hr : Hid (textP L p most = r)) :
    Calls Try.prog 25 #[.slice a len cap, .int .i64 p, .int .i64 most] w fun e w' => e = .returned (.tuple #[.string ⟨r.1.toArray⟩, .int .i64 r.2.1, .agg #[.int .i64 r.2.2.1, .int .i64 r.2.2.2]]) ∧ Junk w w' := by
  have HR := Lib.hid hR
  have HA := Lib.hid (fun W (h : BIn W a len L cap) => n_getAllB W a len cap L h p most hp hm r hr)
  obtain ⟨s, q, e, f⟩ := r
  clear hR hp hm hr
  go_enter Try.func25, Try.ntmps25
  go_wp2_with fail
  refine (HA.out _ (HR.out.below (by (repeat' (first | (with_reducible exact Below.refl _ _) | (with_reducible assumption) | (with_reducible refine Below.alloc ?_ ?_ _) | (with_reducible refine Below.drew ?_) | (with_reducible refine below_drewN ?_ _) | (with_reducible refine below_plus ?_ ?_ _ _) | (with_reducible refine Below.setCell ?_ ?_ _) | (with_reducible refine Below.setRow ?_ ?_ _) | go_size))))).mono ?_; rintro e w' ⟨v, rfl, hown, J, dr, rfl⟩
  obtain ⟨a2, cap2, rfl, hr2, hn2⟩ := breads_of_owns hown
  have HZ := Lib.hid (fun W (h : Below ((w.alloc (.cells #[.int .i64 0, .int .i64 0] 36)).plus J dr).heap.size ((w.alloc (.cells #[.int .i64 0, .int .i64 0] 36)).plus J dr) W) => conv_in (cap := cap2) (hr2.below h))
  clear hown hr2 hn2
  simp only
  go_wp2_with fail
  go_region_with (rw [HZ.out _ (by (repeat' (first | (with_reducible exact Below.refl _ _) | (with_reducible assumption) | (with_reducible refine Below.alloc ?_ ?_ _) | (with_reducible refine Below.drew ?_) | (with_reducible refine below_drewN ?_ _) | (with_reducible refine below_plus ?_ ?_ _ _) | (with_reducible refine Below.setCell ?_ ?_ _) | (with_reducible refine Below.setRow ?_ ?_ _) | go_size)))]; simp only [Result.andThen]; rw [Oper.upon_value])
  all_goals go_wp2
  all_goals refine bodyPost_ret (results_pf5 rfl _ _ w.heap.size #[.int .i64 e, .int .i64 f] rfl (by simp [go_sem]) rfl) rfl ⟨rfl, junk_of_below (by (repeat' (first | (with_reducible exact Below.refl _ _) | (with_reducible assumption) | (with_reducible refine Below.alloc ?_ ?_ _) | (with_reducible refine Below.drew ?_) | (with_reducible refine below_drewN ?_ _) | (with_reducible refine below_plus ?_ ?_ _ _) | (with_reducible refine Below.setCell ?_ ?_ _) | (with_reducible refine Below.setRow ?_ ?_ _) | go_size)))⟩
end Go.Proofs.Ytabjhmblfeoiaaa

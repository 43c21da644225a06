/- Contracts of octet's getAll of ints, GetList. -/
import Derived.Test.YtabjhmblfeoiaaaOcuC
import Derived.Test.YtabjhmblfeoiaaaOctK
namespace Go.Proofs.Ytabjhmblfeoiaaa
set_option linter.unusedVariables false
set_option linter.unusedSimpArgs false
open Go.RowKit

set_option maxRecDepth 100000 in
set_option maxHeartbeats 4000000 in
theorem n_getAllI (w : World) (a : Option Addr) (len cap : Nat) (L : List UInt8) (hR : BIn w a len L cap) (p most : Int) (hp : I64 p) (hm : I64 most) (r : List Int × Int × Int × Int) (hr : Hid (listP L p most = r)) :
    Calls Try.prog 49 #[.slice a len cap, .int .i64 p, .int .i64 most, .func (.func 23) #[] #[]] w (ListRes w r) := by
  have HR := Lib.hid hR
  have hr := hr.out
  unfold listP at hr
  by_cases c0 : most < 0
  · have hl : lenP L p most = (0, 0, 2, 0) := by unfold lenP; rw [if_pos c0]
    rw [hl] at hr
    have hr : (([] : List Int), (0 : Int), (2 : Int), (0 : Int)) = r := hr
    subst hr
    clear hR hl
    go_enter Try.func49, Try.ntmps49
    go_wp2
    refine bodyPost_ret (results_pf5 rfl _ _ w.heap.size #[.int .i64 2, .int .i64 0] rfl (by simp [go_sem]) rfl) rfl ⟨_, rfl, owns_nil _ _, junk_of_below (by (repeat' (first | (with_reducible exact Below.refl _ _) | (with_reducible assumption) | (with_reducible refine Below.alloc ?_ ?_ _) | (with_reducible refine Below.drew ?_) | (with_reducible refine below_drewN ?_ _) | (with_reducible refine below_plus ?_ ?_ _ _) | (with_reducible refine Below.setCell ?_ ?_ _) | (with_reducible refine Below.setRow ?_ ?_ _) | go_size)))⟩
  have HCnt := fun w' (h : BIn w' a len L cap) => n_getCount w' a len cap L h p most hp hm _ (Lib.hid (count_len (show 0 ≤ most by omega)))
  have hfit := len_fits (L := L) (p := p) (most := most)
  have hzero : (lenP L p most).2.2.1 = 0 → (lenP L p most).2.2.2 = 0 := by
    intro h
    generalize hg : lenP L p most = g at *
    obtain ⟨n, q, e, a⟩ := g
    simp only at h
    subst h
    exact (len_canon hg).1
  obtain ⟨hL, _⟩ := hR.reads
  have hsm := hR.small
  generalize lenP L p most = g at *
  obtain ⟨n, q, e, a'⟩ := g
  have HCnt := Lib.hid HCnt
  simp only at hr hfit hzero
  subst hL
  obtain ⟨m0, m1⟩ := hm
  clear hp hR
  by_cases c2 : e ≠ 0
  · rw [if_pos c2] at hr
    subst hr
    have e2 : (e != 0) = true := bne_iff_ne.2 c2
    clear c2 hfit hzero m0 m1
    go_enter Try.func49, Try.ntmps49
    go_wp2_with fail
    refine (HCnt.out _ (HR.out.below (by (repeat' (first | (with_reducible exact Below.refl _ _) | (with_reducible assumption) | (with_reducible refine Below.alloc ?_ ?_ _) | (with_reducible refine Below.drew ?_) | (with_reducible refine below_drewN ?_ _) | (with_reducible refine below_plus ?_ ?_ _ _) | (with_reducible refine Below.setCell ?_ ?_ _) | (with_reducible refine Below.setRow ?_ ?_ _) | go_size))))).mono ?_; rintro e w' ⟨rfl, J, dr, rfl⟩
    go_wp2
    go_region
    all_goals go_wp2
    all_goals refine bodyPost_ret (results_pf5 rfl _ _ w.heap.size #[.int .i64 e, .int .i64 a'] rfl (by simp [go_sem]) rfl) rfl ⟨_, rfl, owns_nil _ _, junk_of_below (by (repeat' (first | (with_reducible exact Below.refl _ _) | (with_reducible assumption) | (with_reducible refine Below.alloc ?_ ?_ _) | (with_reducible refine Below.drew ?_) | (with_reducible refine below_drewN ?_ _) | (with_reducible refine below_plus ?_ ?_ _ _) | (with_reducible refine Below.setCell ?_ ?_ _) | (with_reducible refine Below.setRow ?_ ?_ _) | go_size)))⟩
  obtain rfl : e = 0 := Decidable.of_not_not c2
  rw [if_neg c2] at hr
  obtain ⟨n0, n1, q0, q1⟩ := hfit rfl
  obtain rfl : a' = 0 := hzero rfl
  clear hfit c2 hzero
  obtain ⟨N, rfl⟩ : ∃ N : Nat, n = N := ⟨n.toNat, by omega⟩
  rw [show ((N : Nat) : Int).toNat = N by omega] at hr
  have HRR := Lib.hid hr
  have eg := enters_of (P := Try.prog) Try.func23 (by kernel_rfl) rfl
  have HGet := Lib.hid (fun w' (h : BIn w' a L.length L cap) q (hq : I64 q) => n_Get w' a L.length cap L h q hq _ (Lib.hid rfl))
  clear hr
  go_enter Try.func49, Try.ntmps49
  go_wp2_with fail
  refine (HCnt.out _ (HR.out.below (by (repeat' (first | (with_reducible exact Below.refl _ _) | (with_reducible assumption) | (with_reducible refine Below.alloc ?_ ?_ _) | (with_reducible refine Below.drew ?_) | (with_reducible refine below_drewN ?_ _) | (with_reducible refine below_plus ?_ ?_ _ _) | (with_reducible refine Below.setCell ?_ ?_ _) | (with_reducible refine Below.setRow ?_ ?_ _) | go_size))))).mono ?_; rintro e w' ⟨rfl, J, dr, rfl⟩
  go_wp2_with fail
  obtain ⟨w0, hw0⟩ : ∃ w0, w0 = (((w.alloc (.cells #[.int .i64 0, .int .i64 0] 36)).plus J dr).alloc (.cells #[.int .i64 0, .int .i64 0] 36)) := ⟨_, rfl⟩
  have hw0s : w0.heap.size = w.heap.size + 1 + J.size + 1 := by rw [hw0]; simp
  have hN : N ≤ 9223372036854775807 := by omega
  go_loopw [12, 14, 15, 32] (fun nx o _ i wr => LAt w0 L N r nx o i wr) (fun _ _ _ i _ => N - (intOf i).toNat)
  case atStart => exact ⟨0, q, [], rfl, rfl, Nat.zero_le _, rfl, q0, q0, q1, HRR.out, owns_nil _ _, by rw [hw0]; exact junk_of_below (by (repeat' (first | (with_reducible exact Below.refl _ _) | (with_reducible assumption) | (with_reducible refine Below.alloc ?_ ?_ _) | (with_reducible refine Below.drew ?_) | (with_reducible refine below_drewN ?_ _) | (with_reducible refine below_plus ?_ ?_ _ _) | (with_reducible refine Below.setCell ?_ ?_ _) | (with_reducible refine Below.setRow ?_ ?_ _) | go_size)))⟩
  case round =>
    obtain ⟨k, q, acc, rfl, rfl, hk, hacc, hkq, q0, q1, hls, hown, J2, dr2, rfl⟩ := hrel
    have hws : w.heap.size ≤ w0.heap.size := by omega
    subst hw0
    have HO := Lib.hid hown
    by_cases hlt : k < N
    · rw [show N - k = (N - k - 1) + 1 by omega, listS] at hls
      have HGq := fun w' h => HGet.out w' h q ⟨by omega, by omega⟩
      have hcan := fun n q' a h => get_canon (L := L) (p := q) (n := n) (q := q') (a := a) h
      generalize getP L q = g at *
      obtain ⟨x, nx, e, a2⟩ := g
      have HGq := Lib.hid HGq
      simp only at hls
      by_cases c2 : e ≠ 0
      · rw [if_pos c2] at hls
        subst hls
        have e2 : (e != 0) = true := bne_iff_ne.2 c2
        clear c2 hown hcan
        go_wp2_with fail
        refine (HGq.out _ (HR.out.below (by (repeat' (first | (with_reducible exact Below.refl _ _) | (with_reducible assumption) | (with_reducible refine Below.alloc ?_ ?_ _) | (with_reducible refine Below.drew ?_) | (with_reducible refine below_drewN ?_ _) | (with_reducible refine below_plus ?_ ?_ _ _) | (with_reducible refine Below.setCell ?_ ?_ _) | (with_reducible refine Below.setRow ?_ ?_ _) | go_size))))).mono ?_; rintro e w' ⟨rfl, J3, dr3, rfl⟩
        go_wp2
        go_region
        all_goals go_wp2
        all_goals refine bodyPost_ret (results_pf5 rfl _ _ w.heap.size #[.int .i64 e, .int .i64 a2] rfl (by simp [go_sem]) rfl) rfl ⟨_, rfl, owns_nil _ _, junk_of_below (by (repeat' (first | (with_reducible exact Below.refl _ _) | (with_reducible assumption) | (with_reducible refine Below.alloc ?_ ?_ _) | (with_reducible refine Below.drew ?_) | (with_reducible refine below_drewN ?_ _) | (with_reducible refine below_plus ?_ ?_ _ _) | (with_reducible refine Below.setCell ?_ ?_ _) | (with_reducible refine Below.setRow ?_ ?_ _) | go_size)))⟩
      · obtain rfl : e = 0 := Decidable.of_not_not c2
        rw [if_neg c2] at hls
        obtain ⟨⟨x0, x1⟩, hz0, i', k', e1, e2', e3, e4⟩ := hcan _ _ _ rfl
        subst hz0
        have e5 := encN_pos x
        rw [← e4] at e5
        have hkn : ((k + 1 : Nat) : Int) ≤ nx := by simp at e5; omega
        have nx0 : 0 ≤ nx := by omega
        have nx1 : nx ≤ L.length := by omega
        have HLS := Lib.hid hls
        have HKN := Lib.hid hkn
        have hk40 : k ≤ 1099511627776 := by omega
        clear c2 hown hcan hls e1 e2' e3 e4 e5 hkn
        go_wp2_with fail
        refine (HGq.out _ (HR.out.below (by (repeat' (first | (with_reducible exact Below.refl _ _) | (with_reducible assumption) | (with_reducible refine Below.alloc ?_ ?_ _) | (with_reducible refine Below.drew ?_) | (with_reducible refine below_drewN ?_ _) | (with_reducible refine below_plus ?_ ?_ _ _) | (with_reducible refine Below.setCell ?_ ?_ _) | (with_reducible refine Below.setRow ?_ ?_ _) | go_size))))).mono ?_; rintro e w' ⟨rfl, J3, dr3, rfl⟩
        rw [plus_plus]
        generalize hw1 : (((w.alloc (.cells #[.int .i64 0, .int .i64 0] 36)).plus J dr).alloc (.cells #[.int .i64 0, .int .i64 0] 36)) = w1 at *
        have HO3 := Lib.hid (show (w1.plus (J2 ++ J3) dr3).ownsRow w1.heap.size 3 1 _ k (ints acc) by
          rw [← plus_plus _ J2 dr2]
          exact owns_below HO.out (below_plus (Below.refl _ _) (Nat.le_refl _) J3 dr3))
        have HJ3 := Lib.hid (Junk.below (w := w1) ⟨J2 ++ J3, dr3, rfl⟩)
        have hw1s : Hid (w1.heap.size = w.heap.size + 1 + J.size + 1) := Lib.hid hw0s
        rw [hw1s.out] at HO3 HJ3
        clear hw0s hws
        subst hw1
        go_wp2_with (at_builtin; refine wpList_app rfl _ _ rfl (w.heap.size + 1 + J.size + 1) _ k acc rfl (owns_below HO3.out (by (repeat' (first | (with_reducible exact Below.refl _ _) | (with_reducible assumption) | (with_reducible refine Below.alloc ?_ ?_ _) | (with_reducible refine Below.drew ?_) | (with_reducible refine below_drewN ?_ _) | (with_reducible refine below_plus ?_ ?_ _ _) | (with_reducible refine Below.setCell ?_ ?_ _) | (with_reducible refine Below.setRow ?_ ?_ _) | go_size)))) _ 1 1 [x] rfl (fun h => by cases h) (reads_one_at _ x x0 x1 _ (by simp)) (by omega) (by simp; omega) ?_; intro v' w' hown' hg)
        go_roundw
        case rel => exact ⟨k + 1, nx, acc ++ [x], rfl, by go_num, by omega, by simp [hacc], HKN.out, nx0, nx1, HLS.out, by rw [hw1s.out]; exact hown', junk_of_below (by rw [hw1s.out]; exact ((HJ3.out.alloc (by go_size) _)).grown hg (by go_size) (fun k hk => owns_block HO3.out k hk))⟩
        case measure => simp [intOf]; omega
    · obtain rfl : k = N := by omega
      rw [Nat.sub_self, listS] at hls
      subst hls
      have HJ3 := Lib.hid (Junk.below (w := (((w.alloc (.cells #[.int .i64 0, .int .i64 0] 36)).plus J dr).alloc (.cells #[.int .i64 0, .int .i64 0] 36))) ⟨J2, dr2, rfl⟩)
      clear hown
      go_wp2
      refine bodyPost_ret (results_pf5 rfl _ _ w.heap.size #[.int .i64 0, .int .i64 0] rfl (by simp [go_sem]) rfl) rfl ⟨_, rfl, ?_, junk_of_below (by (repeat' (first | (with_reducible exact Below.refl _ _) | (with_reducible assumption) | (with_reducible refine Below.alloc ?_ ?_ _) | (with_reducible refine Below.drew ?_) | (with_reducible refine below_drewN ?_ _) | (with_reducible refine below_plus ?_ ?_ _ _) | (with_reducible refine Below.setCell ?_ ?_ _) | (with_reducible refine Below.setRow ?_ ?_ _) | go_size)))⟩
      subst hacc
      exact owns_base HO.out hws

/-- What a call owns lies in its own blocks: those below may turn. -/
theorem owns_above {w w' : World} {base n : Nat} {v : Value} {zs : List Int} (h : w.ownsRow base 3 1 v n (ints zs)) (hb : ∀ k, base ≤ k → w'.heap[k]? = w.heap[k]?) : w'.ownsRow base 3 1 v n (ints zs) := by
  obtain ⟨h1, h⟩ := h
  refine ⟨h1, ?_⟩
  rcases h with h | ⟨g, cap, cur, hv, hg, hc, h4, h5, h6, h7⟩
  · exact .inl h
  · exact .inr ⟨g, cap, cur, hv, hg, by rw [hb g hg]; exact hc, h4, h5, h6, h7⟩
theorem heap_plus_alloc (w : World) (o o' : Obj) (J : Array Obj) (d k : Nat) (h : w.heap.size + 1 ≤ k) : ((w.alloc o).plus J d).heap[k]? = ((w.alloc o').plus J d).heap[k]? := by
  show ((w.heap.push o) ++ J)[k]? = ((w.heap.push o') ++ J)[k]?
  rw [Array.getElem?_append, Array.getElem?_append]
  simp [show ¬ k < w.heap.size + 1 by omega]

set_option maxHeartbeats 2000000 in
theorem n_GetList (w : World) (a : Option Addr) (len cap : Nat) (L : List UInt8) (hR : BIn w a len L cap) (p most : Int) (hp : I64 p) (hm : I64 most) (r : List Int × Int × Int × Int) (hr : Hid (listP L p most = r)) :
    Calls Try.prog 27 #[.slice a len cap, .int .i64 p, .int .i64 most] w (ListRes w r) := by
  have HR := Lib.hid hR
  have HA := Lib.hid (fun W (h : BIn W a len L cap) => n_getAllI W a len cap L h p most hp hm r hr)
  obtain ⟨s, q, e, f⟩ := r
  clear hR hp hm hr
  go_enter Try.func27, Try.ntmps27
  go_wp2_with fail
  refine (HA.out _ (HR.out.below (by (repeat' (first | (with_reducible exact Below.refl _ _) | (with_reducible assumption) | (with_reducible refine Below.alloc ?_ ?_ _) | (with_reducible refine Below.drew ?_) | (with_reducible refine below_drewN ?_ _) | (with_reducible refine below_plus ?_ ?_ _ _) | (with_reducible refine Below.setCell ?_ ?_ _) | (with_reducible refine Below.setRow ?_ ?_ _) | go_size))))).mono ?_; rintro e w' ⟨v, rfl, hown, J, dr, rfl⟩
  have HO := Lib.hid hown
  clear hown
  simp only
  go_wp2
  refine bodyPost_ret (results_pf5 rfl _ _ w.heap.size #[.int .i64 e, .int .i64 f] rfl (by simp [go_sem]) rfl) rfl ⟨_, rfl, ?_, junk_of_below (by (repeat' (first | (with_reducible exact Below.refl _ _) | (with_reducible assumption) | (with_reducible refine Below.alloc ?_ ?_ _) | (with_reducible refine Below.drew ?_) | (with_reducible refine below_drewN ?_ _) | (with_reducible refine below_plus ?_ ?_ _ _) | (with_reducible refine Below.setCell ?_ ?_ _) | (with_reducible refine Below.setRow ?_ ?_ _) | go_size)))⟩
  exact owns_base (owns_above HO.out (fun k hk => heap_plus_alloc w _ _ J dr k (by simpa using hk))) (by simp)
end Go.Proofs.Ytabjhmblfeoiaaa

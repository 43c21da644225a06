/- Contract of apportionref05's GetList. -/
import Derived.Test.YtabjhmblfeoiaaaOctT
namespace Go.Proofs.Ytabjhmblfeoiaaa
set_option linter.unusedVariables false
set_option linter.unusedSimpArgs false
open Go.RowKit

/-- A call tells a list in memory of its own, a place and a fault. -/
def ListRes (w : World) (r : List Int × Int × Int × Int) (e : Ending) (w' : World) : Prop :=
  ∃ v, e = .returned (.tuple #[v, .int .i64 r.2.1, .agg #[.int .i64 r.2.2.1, .int .i64 r.2.2.2]]) ∧ w'.ownsRow w.heap.size 3 1 v r.1.length (ints r.1) ∧ Junk w w'

theorem owns_nil (w : World) (base : Nat) : w.ownsRow base 3 1 (.slice none 0 0) 0 (ints []) := ⟨rfl, .inl ⟨rfl, rfl⟩⟩

theorem owns_below {w w' : World} {base n : Nat} {v : Value} {zs : List Int} (h : w.ownsRow base 3 1 v n (ints zs)) (hb : Below w.heap.size w w') : w'.ownsRow base 3 1 v n (ints zs) := by
  obtain ⟨h1, h⟩ := h
  refine ⟨h1, ?_⟩
  rcases h with h | ⟨g, cap, cur, hv, hg, hc, h4, h5, h6, h7⟩
  · exact .inl h
  · have hgs : g < w.heap.size := by
      by_cases hs : g < w.heap.size
      · exact hs
      · simp [Array.getElem?_eq_none (Nat.le_of_not_lt hs)] at hc
    exact .inr ⟨g, cap, cur, hv, hg, by rw [hb.block g hgs]; exact hc, h4, h5, h6, h7⟩
theorem owns_base {w : World} {base base' n : Nat} {v : Value} {zs : List Int} (h : w.ownsRow base 3 1 v n (ints zs)) (hb : base' ≤ base) : w.ownsRow base' 3 1 v n (ints zs) := by
  obtain ⟨h1, h⟩ := h
  refine ⟨h1, ?_⟩
  rcases h with h | ⟨g, cap, cur, hv, hg, h⟩
  · exact .inl h
  · exact .inr ⟨g, cap, cur, hv, by omega, h⟩
theorem owns_block {w : World} {base n : Nat} {v : Value} {zs : List Int} (h : w.ownsRow base 3 1 v n (ints zs)) : ∀ k, v.ownBlock = some k → base ≤ k := by
  obtain ⟨_, h⟩ := h
  intro k hk
  rcases h with ⟨rfl, _⟩ | ⟨g, cap, cur, rfl, hg, _⟩
  · simp [Value.ownBlock] at hk
  · simp [Value.ownBlock] at hk; omega
theorem reads_one_at (W : World) (z : Int) (h0 : -9223372036854775808 ≤ z) (h1 : z ≤ 9223372036854775807) (g : Nat) (hg : g = W.heap.size) : Reads (W.alloc (.cells #[.int .i64 z] 3)) (some ⟨g, 0, none⟩) 1 [z] := by
  subst hg; exact reads_one W z h0 h1

/-- GetList's loop: so many are read; the rest is what is told. -/
def LAt (w0 : World) (L : List UInt8) (N : Nat) (r : List Int × Int × Int × Int) (nx o i : Value) (wr : World) : Prop :=
  ∃ (k : Nat) (q : Int) (acc : List Int), nx = .int .i64 q ∧ i = .int .i64 (k : Int) ∧ k ≤ N ∧ acc.length = k ∧ (k : Int) ≤ q ∧ 0 ≤ q ∧ q ≤ L.length ∧ listS L (N - k) q acc = r ∧ wr.ownsRow w0.heap.size 3 1 o k (ints acc) ∧ Junk w0 wr

set_option maxRecDepth 100000 in
set_option maxHeartbeats 4000000 in
theorem r_GetList (w : World) (a : Option Addr) (len cap : Nat) (L : List UInt8) (hR : BIn w a len L cap) (p most : Int) (hp : I64 p) (hm : I64 most) (r : List Int × Int × Int × Int) (hr : Hid (listP L p most = r)) :
    Calls Try.prog 28 #[.slice a len cap, .int .i64 p, .int .i64 most] w (ListRes w r) := by
  have HR := Lib.hid hR
  have HLen := fun w' (h : BIn w' a len L cap) => r_length w' a len cap L h p most hp hm _ (Lib.hid rfl)
  have HGet := Lib.hid (fun w' (h : BIn w' a len L cap) q (hq : I64 q) => r_Get w' a len cap L h.reads h.none h.small q hq _ (Lib.hid rfl))
  have hfit := len_fits (L := L) (p := p) (most := most)
  have hr := hr.out
  unfold listP at hr
  obtain ⟨hL, _⟩ := hR.reads
  have hsm := hR.small
  generalize lenP L p most = g at *
  obtain ⟨n, q, e, a'⟩ := g
  have HLen := Lib.hid HLen
  simp only at hr hfit
  subst hL
  obtain ⟨m0, m1⟩ := hm
  clear hp hR
  by_cases c2 : e ≠ 0
  · rw [if_pos c2] at hr
    subst hr
    have e2 : (e != 0) = true := bne_iff_ne.2 c2
    clear c2 hfit m0 m1
    go_enter Try.func28, Try.ntmps28
    go_wp2_with fail
    refine (HLen.out _ (HR.out.below (by (repeat' (first | (with_reducible exact Below.refl _ _) | (with_reducible assumption) | (with_reducible refine Below.alloc ?_ ?_ _) | (with_reducible refine Below.drew ?_) | (with_reducible refine below_drewN ?_ _) | (with_reducible refine below_plus ?_ ?_ _ _) | (with_reducible refine Below.setCell ?_ ?_ _) | (with_reducible refine Below.setRow ?_ ?_ _) | go_size))))).mono ?_; rintro e w' ⟨rfl, J, dr, rfl⟩
    go_wp2
    go_region
    all_goals go_wp2
    all_goals refine bodyPost_ret (results_pf5 rfl _ _ w.heap.size #[.int .i64 e, .int .i64 a'] rfl (by simp [go_sem]) rfl) rfl ⟨_, rfl, owns_nil _ _, junk_of_below (by (repeat' (first | (with_reducible exact Below.refl _ _) | (with_reducible assumption) | (with_reducible refine Below.alloc ?_ ?_ _) | (with_reducible refine Below.drew ?_) | (with_reducible refine below_drewN ?_ _) | (with_reducible refine below_plus ?_ ?_ _ _) | (with_reducible refine Below.setCell ?_ ?_ _) | (with_reducible refine Below.setRow ?_ ?_ _) | go_size)))⟩
  obtain rfl : e = 0 := Decidable.of_not_not c2
  rw [if_neg c2] at hr
  obtain ⟨n0, n1, q0, q1⟩ := hfit rfl
  clear hfit c2
  obtain ⟨N, rfl⟩ : ∃ N : Nat, n = N := ⟨n.toNat, by omega⟩
  rw [show ((N : Nat) : Int).toNat = N by omega] at hr
  have HRR := Lib.hid hr
  clear hr
  go_enter Try.func28, Try.ntmps28
  go_wp2_with fail
  refine (HLen.out _ (HR.out.below (by (repeat' (first | (with_reducible exact Below.refl _ _) | (with_reducible assumption) | (with_reducible refine Below.alloc ?_ ?_ _) | (with_reducible refine Below.drew ?_) | (with_reducible refine below_drewN ?_ _) | (with_reducible refine below_plus ?_ ?_ _ _) | (with_reducible refine Below.setCell ?_ ?_ _) | (with_reducible refine Below.setRow ?_ ?_ _) | go_size))))).mono ?_; rintro e w' ⟨rfl, J, dr, rfl⟩
  go_wp2_with fail
  obtain ⟨w0, hw0⟩ : ∃ w0, w0 = w.alloc (.cells #[.int .i64 0, .int .i64 0] 36) := ⟨_, rfl⟩
  have hw0s : w0.heap.size = w.heap.size + 1 := by rw [hw0]; simp
  have hN : N ≤ 9223372036854775807 := by omega
  go_loopw [10, 12, 13, 14, 15, 16] (fun nx o i _ _ _ wr => LAt w0 L N r nx o i wr) (fun _ _ i _ _ _ _ => N - (intOf i).toNat)
  case atStart => exact ⟨0, q, [], rfl, rfl, Nat.zero_le _, rfl, q0, q0, q1, HRR.out, owns_nil _ _, by rw [hw0]; exact junk_of_below (by (repeat' (first | (with_reducible exact Below.refl _ _) | (with_reducible assumption) | (with_reducible refine Below.alloc ?_ ?_ _) | (with_reducible refine Below.drew ?_) | (with_reducible refine below_drewN ?_ _) | (with_reducible refine below_plus ?_ ?_ _ _) | (with_reducible refine Below.setCell ?_ ?_ _) | (with_reducible refine Below.setRow ?_ ?_ _) | go_size)))⟩
  case round =>
    obtain ⟨k, q, acc, rfl, rfl, hk, hacc, hkq, q0, q1, hls, hown, J2, dr2, rfl⟩ := hrel
    subst hw0
    have HO := Lib.hid hown
    by_cases hlt : k < N
    · rw [show N - k = (N - k - 1) + 1 by omega, listS] at hls
      have HGq := fun w' h => HGet.out w' h q ⟨by omega, by omega⟩
      have hcan := fun n q' a h => get_canon (L := L) (p := q) (n := n) (q := q') (a := a) h
      generalize getP L q = g at *
      obtain ⟨x, nx, e, a2⟩ := g
      have HGq := Lib.hid HGq
      simp only at hls
      by_cases c2 : e ≠ 0
      · rw [if_pos c2] at hls
        subst hls
        have e2 : (e != 0) = true := bne_iff_ne.2 c2
        clear c2 hown hcan
        go_wp2_with fail
        refine (HGq.out _ (HR.out.below (by (repeat' (first | (with_reducible exact Below.refl _ _) | (with_reducible assumption) | (with_reducible refine Below.alloc ?_ ?_ _) | (with_reducible refine Below.drew ?_) | (with_reducible refine below_drewN ?_ _) | (with_reducible refine below_plus ?_ ?_ _ _) | (with_reducible refine Below.setCell ?_ ?_ _) | (with_reducible refine Below.setRow ?_ ?_ _) | go_size))))).mono ?_; rintro e w' ⟨rfl, J3, dr3, rfl⟩
        go_wp2
        go_region
        all_goals go_wp2
        all_goals refine bodyPost_ret (results_pf5 rfl _ _ w.heap.size #[.int .i64 e, .int .i64 a2] rfl (by simp [go_sem]) rfl) rfl ⟨_, rfl, owns_nil _ _, junk_of_below (by (repeat' (first | (with_reducible exact Below.refl _ _) | (with_reducible assumption) | (with_reducible refine Below.alloc ?_ ?_ _) | (with_reducible refine Below.drew ?_) | (with_reducible refine below_drewN ?_ _) | (with_reducible refine below_plus ?_ ?_ _ _) | (with_reducible refine Below.setCell ?_ ?_ _) | (with_reducible refine Below.setRow ?_ ?_ _) | go_size)))⟩
      · obtain rfl : e = 0 := Decidable.of_not_not c2
        rw [if_neg c2] at hls
        obtain ⟨⟨x0, x1⟩, _, i', k', e1, e2', e3, e4⟩ := hcan _ _ _ rfl
        have e5 := encN_pos x
        rw [← e4] at e5
        have hkn : ((k + 1 : Nat) : Int) ≤ nx := by simp at e5; omega
        have nx0 : 0 ≤ nx := by omega
        have nx1 : nx ≤ L.length := by omega
        have HLS := Lib.hid hls
        have HKN := Lib.hid hkn
        have hk40 : k ≤ 1099511627776 := by omega
        clear c2 hown hcan hls e1 e2' e3 e4 e5 hkn
        go_wp2_with fail
        refine (HGq.out _ (HR.out.below (by (repeat' (first | (with_reducible exact Below.refl _ _) | (with_reducible assumption) | (with_reducible refine Below.alloc ?_ ?_ _) | (with_reducible refine Below.drew ?_) | (with_reducible refine below_drewN ?_ _) | (with_reducible refine below_plus ?_ ?_ _ _) | (with_reducible refine Below.setCell ?_ ?_ _) | (with_reducible refine Below.setRow ?_ ?_ _) | go_size))))).mono ?_; rintro e w' ⟨rfl, J3, dr3, rfl⟩
        rw [plus_plus]
        have HO3 := Lib.hid (show ((w.alloc (.cells #[.int .i64 0, .int .i64 0] 36)).plus (J2 ++ J3) dr3).ownsRow (w.heap.size + 1) 3 1 _ k (ints acc) by
          rw [← plus_plus _ J2 dr2]
          have := owns_below HO.out (below_plus (Below.refl _ _) (Nat.le_refl _) J3 dr3)
          rwa [hw0s] at this)
        have HJ3 := Lib.hid (Junk.below (w := w.alloc (.cells #[.int .i64 0, .int .i64 0] 36)) ⟨J2 ++ J3, dr3, rfl⟩)
        rw [hw0s] at HJ3
        have HHB := Lib.hid hw0s
        clear hw0s
        go_wp2_with (at_builtin; refine wpList_app rfl _ _ rfl (w.heap.size + 1) _ k acc rfl (owns_below HO3.out (by (repeat' (first | (with_reducible exact Below.refl _ _) | (with_reducible assumption) | (with_reducible refine Below.alloc ?_ ?_ _) | (with_reducible refine Below.drew ?_) | (with_reducible refine below_drewN ?_ _) | (with_reducible refine below_plus ?_ ?_ _ _) | (with_reducible refine Below.setCell ?_ ?_ _) | (with_reducible refine Below.setRow ?_ ?_ _) | go_size)))) _ 1 1 [x] rfl (fun h => by cases h) (reads_one_at _ x x0 x1 _ (by simp)) (by omega) (by simp; omega) ?_; intro v' w' hown' hg)
        go_roundw
        case rel => exact ⟨k + 1, nx, acc ++ [x], rfl, by go_num, by omega, by simp [hacc], HKN.out, nx0, nx1, HLS.out, by rw [HHB.out]; exact hown', junk_of_below (by rw [HHB.out]; exact ((HJ3.out.alloc (by go_size) _).alloc (by go_size) _).grown hg (by go_size) (fun k hk => owns_block HO3.out k hk))⟩
        case measure => simp [intOf]; omega
    · obtain rfl : k = N := by omega
      rw [Nat.sub_self, listS] at hls
      subst hls
      have HJ3 := Lib.hid (Junk.below (w := w.alloc (.cells #[.int .i64 0, .int .i64 0] 36)) ⟨J2, dr2, rfl⟩)
      clear hown
      go_wp2
      refine bodyPost_ret (results_pf5 rfl _ _ w.heap.size #[.int .i64 0, .int .i64 0] rfl (by simp [go_sem]) rfl) rfl ⟨_, rfl, ?_, junk_of_below (by (repeat' (first | (with_reducible exact Below.refl _ _) | (with_reducible assumption) | (with_reducible refine Below.alloc ?_ ?_ _) | (with_reducible refine Below.drew ?_) | (with_reducible refine below_drewN ?_ _) | (with_reducible refine below_plus ?_ ?_ _ _) | (with_reducible refine Below.setCell ?_ ?_ _) | (with_reducible refine Below.setRow ?_ ?_ _) | go_size)))⟩
      subst hacc
      have hb := owns_base HO.out (show w.heap.size ≤ (w.alloc (.cells #[.int .i64 0, .int .i64 0] 36)).heap.size by simp)
      exact hb
end Go.Proofs.Ytabjhmblfeoiaaa

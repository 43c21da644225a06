/- Contracts of apportionref05's length, GetText. -/
import Derived.Test.YtabjhmblfeoiaaaOctG
import Derived.Test.YtabjhmblfeoiaaaOctH
import Derived.Laws.BytesArg
import Derived.Laws.IdiomStrings
namespace Go.Proofs.Ytabjhmblfeoiaaa
set_option linter.unusedVariables false
set_option linter.unusedSimpArgs false
open Go.RowKit

/-- Bytes that a slice in memory reads as, and no more room than fits. -/
structure BIn (w : World) (a : Option Addr) (len : Nat) (L : List UInt8) (cap : Nat) : Prop where
  reads : BReads w a len L
  none : a = none → len = 0 ∧ cap = 0
  small : len ≤ 1099511627776
  room : len ≤ cap
theorem BIn.below {w w' : World} {a : Option Addr} {len cap : Nat} {L : List UInt8} (h : BIn w a len L cap) (hb : Below w.heap.size w w') : BIn w' a len L cap := ⟨h.reads.below hb, h.none, h.small, h.room⟩

set_option maxRecDepth 100000 in
set_option maxHeartbeats 2000000 in
theorem r_length (w : World) (a : Option Addr) (len cap : Nat) (L : List UInt8) (hR : BIn w a len L cap) (p most : Int) (hp : I64 p) (hm : I64 most) (r : Int × Int × Int × Int) (hr : Hid (lenP L p most = r)) :
    Calls Try.prog 48 #[.slice a len cap, .int .i64 p, .int .i64 most] w fun e w' => e = .returned (.tuple #[.int .i64 r.1, .int .i64 r.2.1, .agg #[.int .i64 r.2.2.1, .int .i64 r.2.2.2]]) ∧ Junk w w' := by
  obtain ⟨m0, m1⟩ := hm
  have HR := Lib.hid hR
  clear hR
  by_cases c1 : most < 0
  · have hr := hr.out
    unfold lenP at hr
    rw [if_pos c1] at hr
    subst hr
    go_enter Try.func48, Try.ntmps48
    go_wp2
    refine bodyPost_ret (results_pf5 rfl _ _ w.heap.size #[.int .i64 2, .int .i64 0] rfl (by simp [go_sem]) rfl) rfl ⟨rfl, junk_of_below (by (repeat' (first | (with_reducible exact Below.refl _ _) | (with_reducible assumption) | (with_reducible refine Below.alloc ?_ ?_ _) | (with_reducible refine Below.drew ?_) | (with_reducible refine below_drewN ?_ _) | (with_reducible refine below_plus ?_ ?_ _ _) | (with_reducible refine Below.setCell ?_ ?_ _) | (with_reducible refine Below.setRow ?_ ?_ _) | go_size)))⟩
  have hr := hr.out
  unfold lenP at hr
  rw [if_neg c1] at hr
  have HGet := fun w' (h : BIn w' a len L cap) => r_Get w' a len cap L h.reads h.none h.small p hp _ (Lib.hid rfl)
  obtain ⟨p0, p1⟩ := hp
  generalize getP L p = g at *
  obtain ⟨n, q, e, a'⟩ := g
  have HGet := Lib.hid HGet
  simp only at hr
  clear m0 m1 p0 p1
  by_cases c2 : e ≠ 0
  · rw [if_pos c2] at hr
    subst hr
    have e2 : (e != 0) = true := bne_iff_ne.2 c2
    clear c2
    go_enter Try.func48, Try.ntmps48
    go_wp2_with fail
    refine (HGet.out _ (HR.out.below (by (repeat' (first | (with_reducible exact Below.refl _ _) | (with_reducible assumption) | (with_reducible refine Below.alloc ?_ ?_ _) | (with_reducible refine Below.drew ?_) | (with_reducible refine below_drewN ?_ _) | (with_reducible refine below_plus ?_ ?_ _ _) | (with_reducible refine Below.setCell ?_ ?_ _) | (with_reducible refine Below.setRow ?_ ?_ _) | go_size))))).mono ?_; rintro e w' ⟨rfl, J, dr, rfl⟩
    go_wp2
    go_region
    all_goals go_wp2
    all_goals refine bodyPost_ret (results_pf5 rfl _ _ w.heap.size #[.int .i64 e, .int .i64 a'] rfl (by simp [go_sem]) rfl) rfl ⟨rfl, junk_of_below (by (repeat' (first | (with_reducible exact Below.refl _ _) | (with_reducible assumption) | (with_reducible refine Below.alloc ?_ ?_ _) | (with_reducible refine Below.drew ?_) | (with_reducible refine below_drewN ?_ _) | (with_reducible refine below_plus ?_ ?_ _ _) | (with_reducible refine Below.setCell ?_ ?_ _) | (with_reducible refine Below.setRow ?_ ?_ _) | go_size)))⟩
  obtain rfl : e = 0 := Decidable.of_not_not c2
  rw [if_neg c2] at hr
  by_cases c3 : n < 0
  · rw [if_pos c3] at hr
    subst hr
    go_enter Try.func48, Try.ntmps48
    go_wp2_with fail
    refine (HGet.out _ (HR.out.below (by (repeat' (first | (with_reducible exact Below.refl _ _) | (with_reducible assumption) | (with_reducible refine Below.alloc ?_ ?_ _) | (with_reducible refine Below.drew ?_) | (with_reducible refine below_drewN ?_ _) | (with_reducible refine below_plus ?_ ?_ _ _) | (with_reducible refine Below.setCell ?_ ?_ _) | (with_reducible refine Below.setRow ?_ ?_ _) | go_size))))).mono ?_; rintro e w' ⟨rfl, J, dr, rfl⟩
    go_wp2
    refine bodyPost_ret (results_pf5 rfl _ _ w.heap.size #[.int .i64 5, .int .i64 p] rfl (by simp [go_sem]) rfl) rfl ⟨rfl, junk_of_below (by (repeat' (first | (with_reducible exact Below.refl _ _) | (with_reducible assumption) | (with_reducible refine Below.alloc ?_ ?_ _) | (with_reducible refine Below.drew ?_) | (with_reducible refine below_drewN ?_ _) | (with_reducible refine below_plus ?_ ?_ _ _) | (with_reducible refine Below.setCell ?_ ?_ _) | (with_reducible refine Below.setRow ?_ ?_ _) | go_size)))⟩
  rw [if_neg c3] at hr
  by_cases c4 : most < n
  · rw [if_pos c4] at hr
    subst hr
    go_enter Try.func48, Try.ntmps48
    go_wp2_with fail
    refine (HGet.out _ (HR.out.below (by (repeat' (first | (with_reducible exact Below.refl _ _) | (with_reducible assumption) | (with_reducible refine Below.alloc ?_ ?_ _) | (with_reducible refine Below.drew ?_) | (with_reducible refine below_drewN ?_ _) | (with_reducible refine below_plus ?_ ?_ _ _) | (with_reducible refine Below.setCell ?_ ?_ _) | (with_reducible refine Below.setRow ?_ ?_ _) | go_size))))).mono ?_; rintro e w' ⟨rfl, J, dr, rfl⟩
    go_wp2
    refine bodyPost_ret (results_pf5 rfl _ _ w.heap.size #[.int .i64 3, .int .i64 p] rfl (by simp [go_sem]) rfl) rfl ⟨rfl, junk_of_below (by (repeat' (first | (with_reducible exact Below.refl _ _) | (with_reducible assumption) | (with_reducible refine Below.alloc ?_ ?_ _) | (with_reducible refine Below.drew ?_) | (with_reducible refine below_drewN ?_ _) | (with_reducible refine below_plus ?_ ?_ _ _) | (with_reducible refine Below.setCell ?_ ?_ _) | (with_reducible refine Below.setRow ?_ ?_ _) | go_size)))⟩
  · rw [if_neg c4] at hr
    subst hr
    go_enter Try.func48, Try.ntmps48
    go_wp2_with fail
    refine (HGet.out _ (HR.out.below (by (repeat' (first | (with_reducible exact Below.refl _ _) | (with_reducible assumption) | (with_reducible refine Below.alloc ?_ ?_ _) | (with_reducible refine Below.drew ?_) | (with_reducible refine below_drewN ?_ _) | (with_reducible refine below_plus ?_ ?_ _ _) | (with_reducible refine Below.setCell ?_ ?_ _) | (with_reducible refine Below.setRow ?_ ?_ _) | go_size))))).mono ?_; rintro e w' ⟨rfl, J, dr, rfl⟩
    go_wp2
    refine bodyPost_ret (results_pf5 rfl _ _ w.heap.size #[.int .i64 0, .int .i64 0] rfl (by simp [go_sem]) rfl) rfl ⟨rfl, junk_of_below (by (repeat' (first | (with_reducible exact Below.refl _ _) | (with_reducible assumption) | (with_reducible refine Below.alloc ?_ ?_ _) | (with_reducible refine Below.drew ?_) | (with_reducible refine below_drewN ?_ _) | (with_reducible refine below_plus ?_ ?_ _ _) | (with_reducible refine Below.setCell ?_ ?_ _) | (with_reducible refine Below.setRow ?_ ?_ _) | go_size)))⟩

/-- What the length of what follows is, where there is no fault. -/
theorem len_fits {L : List UInt8} {p most : Int} (h : (lenP L p most).2.2.1 = 0) : 0 ≤ (lenP L p most).1 ∧ (lenP L p most).1 ≤ most ∧ 0 ≤ (lenP L p most).2.1 ∧ (lenP L p most).2.1 ≤ L.length := by
  generalize hg : lenP L p most = g at *
  obtain ⟨n, q, e, a⟩ := g
  simp only at h
  subst h
  obtain ⟨_, h0, h1, i, k, rfl, rfl, h3, _⟩ := len_canon hg
  exact ⟨h0, h1, by simp; omega, by simp; omega⟩

/-- A part of bytes as a text. -/
theorem conv_part {w : World} {a : Option Addr} {len : Nat} {L : List UInt8} (h : BReads w a len L) (i n cap : Nat) (hi : i + n ≤ len) (hn : 0 < n) (b off : Nat) (ha : a = some ⟨b, off, none⟩) :
    (convert 24 9 (.slice (some ⟨b, off + i, none⟩) n cap)).run Try.prog w = .ok (.string ⟨((L.drop i).take n).toArray⟩) w := by
  obtain ⟨hL, h3⟩ := h
  have hl : ((L.drop i).take n).length = n := by simp; omega
  have := run_convert_bytes_back (P := Try.prog) w 24 9 5 ⟨b, off + i, none⟩ cap ((L.drop i).take n) Try.underlying24 Try.underlying5 Try.underlying9 (fun j hj => by
    have e : (⟨b, off + i, none⟩ : Addr).add j = ⟨b, off + i + j, none⟩ := by unfold Addr.add; split <;> simp_all
    rw [e]
    rcases h3 with h3 | ⟨b', off', he, hc⟩
    · omega
    · rw [ha] at he
      injection he with he; injection he with he1 he2 he3
      subst he1; subst he2
      have hj' : j < n := by omega
      have := hc (i + j) (by omega)
      rw [show off + i + j = off + (i + j) by omega, this]
      congr 2
      unfold byteAt
      have hij : i + j < L.length := by omega
      simp [List.getD_eq_getElem?_getD, List.getElem?_take_of_lt hj', List.getElem?_drop, hij])
  rw [hl] at this
  exact this
end Go.Proofs.Ytabjhmblfeoiaaa

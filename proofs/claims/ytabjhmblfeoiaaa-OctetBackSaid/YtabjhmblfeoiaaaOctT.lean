/- Contract of apportionref05's GetText. -/
import Derived.Test.YtabjhmblfeoiaaaOctL
namespace Go.Proofs.Ytabjhmblfeoiaaa
set_option linter.unusedVariables false
set_option linter.unusedSimpArgs false
open Go.RowKit

theorem conv_zero (w : World) (b off cap : Nat) : (convert 24 9 (.slice (some ⟨b, off, none⟩) 0 cap)).run Try.prog w = .ok (.string ⟨#[]⟩) w := by
  have := run_convert_bytes_back (P := Try.prog) w 24 9 5 ⟨b, off, none⟩ cap [] Try.underlying24 Try.underlying5 Try.underlying9 (fun j hj => by simp at hj)
  exact this

theorem conv_any {w : World} {len : Nat} {L : List UInt8} {b off : Nat} (h : BReads w (some ⟨b, off, none⟩) len L) (i n cap : Nat) (hi : i + n ≤ len) :
    (convert 24 9 (.slice (some ⟨b, off + i, none⟩) n cap)).run Try.prog w = .ok (.string ⟨((L.drop i).take n).toArray⟩) w := by
  by_cases hn : n = 0
  · subst hn
    rw [List.take_zero]
    exact conv_zero w b (off + i) cap
  · exact conv_part h i n cap hi (by omega) b off rfl

theorem ret_tx5 {s s' : ByteArray} {b c d b' c' d' : Int} (h1 : s = s') (h2 : b = b') (h3 : c = c') (h4 : d = d') : Ending.returned (.tuple #[.string s, .int .i64 b, .agg #[.int .i64 c, .int .i64 d]]) = .returned (.tuple #[.string s', .int .i64 b', .agg #[.int .i64 c', .int .i64 d']]) := by rw [h1, h2, h3, h4]

set_option maxRecDepth 100000 in
set_option maxHeartbeats 4000000 in
theorem r_GetText (w : World) (a : Option Addr) (len cap : Nat) (L : List UInt8) (hR : BIn w a len L cap) (p most : Int) (hp : I64 p) (hm : I64 most) (r : List UInt8 × Int × Int × Int) (hr : Hid (textP L p most = r)) :
    Calls Try.prog 26 #[.slice a len cap, .int .i64 p, .int .i64 most] w fun e w' => e = .returned (.tuple #[.string ⟨r.1.toArray⟩, .int .i64 r.2.1, .agg #[.int .i64 r.2.2.1, .int .i64 r.2.2.2]]) ∧ Junk w w' := by
  have HR := Lib.hid hR
  have HLen := fun w' (h : BIn w' a len L cap) => r_length w' a len cap L h p most hp hm _ (Lib.hid rfl)
  have hfit := len_fits (L := L) (p := p) (most := most)
  have hcan : (lenP L p most).2.2.1 = 0 → 0 < L.length := by
    intro h
    generalize hg : lenP L p most = g at *
    obtain ⟨n, q, e, a⟩ := g
    simp only at h
    subst h
    obtain ⟨_, _, _, i, k, _, _, h3, h4⟩ := len_canon hg
    have h5 := encN_pos n
    rw [← h4] at h5
    simp at h5
    omega
  have hr := hr.out
  unfold textP at hr
  obtain ⟨hL, _⟩ := hR.reads
  have hsm := hR.small
  have hroom := hR.room
  generalize lenP L p most = g at *
  obtain ⟨n, q, e, a'⟩ := g
  have HLen := Lib.hid HLen
  simp only at hr hfit hcan
  obtain ⟨m0, m1⟩ := hm
  subst hL
  clear hp hR
  by_cases c2 : e ≠ 0
  · rw [if_pos c2] at hr
    subst hr
    have e2 : (e != 0) = true := bne_iff_ne.2 c2
    clear c2 hfit hcan m0 m1
    go_enter Try.func26, Try.ntmps26
    go_wp2_with fail
    refine (HLen.out _ (HR.out.below (by (repeat' (first | (with_reducible exact Below.refl _ _) | (with_reducible assumption) | (with_reducible refine Below.alloc ?_ ?_ _) | (with_reducible refine Below.drew ?_) | (with_reducible refine below_drewN ?_ _) | (with_reducible refine below_plus ?_ ?_ _ _) | (with_reducible refine Below.setCell ?_ ?_ _) | (with_reducible refine Below.setRow ?_ ?_ _) | go_size))))).mono ?_; rintro e w' ⟨rfl, J, dr, rfl⟩
    go_wp2
    go_region
    all_goals go_wp2
    all_goals refine bodyPost_ret (results_pf5 rfl _ _ w.heap.size #[.int .i64 e, .int .i64 a'] rfl (by simp [go_sem]) rfl) rfl ⟨rfl, junk_of_below (by (repeat' (first | (with_reducible exact Below.refl _ _) | (with_reducible assumption) | (with_reducible refine Below.alloc ?_ ?_ _) | (with_reducible refine Below.drew ?_) | (with_reducible refine below_drewN ?_ _) | (with_reducible refine below_plus ?_ ?_ _ _) | (with_reducible refine Below.setCell ?_ ?_ _) | (with_reducible refine Below.setRow ?_ ?_ _) | go_size)))⟩
  obtain rfl : e = 0 := Decidable.of_not_not c2
  rw [if_neg c2] at hr
  obtain ⟨n0, n1, q0, q1⟩ := hfit rfl
  have hpos := hcan rfl
  clear hfit hcan c2
  by_cases c3 : (L.length : Int) - q < n
  · rw [if_pos c3] at hr
    subst hr
    go_enter Try.func26, Try.ntmps26
    go_wp2_with fail
    refine (HLen.out _ (HR.out.below (by (repeat' (first | (with_reducible exact Below.refl _ _) | (with_reducible assumption) | (with_reducible refine Below.alloc ?_ ?_ _) | (with_reducible refine Below.drew ?_) | (with_reducible refine below_drewN ?_ _) | (with_reducible refine below_plus ?_ ?_ _ _) | (with_reducible refine Below.setCell ?_ ?_ _) | (with_reducible refine Below.setRow ?_ ?_ _) | go_size))))).mono ?_; rintro e w' ⟨rfl, J, dr, rfl⟩
    go_wp2
    refine bodyPost_ret (results_pf5 rfl _ _ w.heap.size #[.int .i64 4, .int .i64 L.length] rfl (by simp [go_sem]) rfl) rfl ⟨rfl, junk_of_below (by (repeat' (first | (with_reducible exact Below.refl _ _) | (with_reducible assumption) | (with_reducible refine Below.alloc ?_ ?_ _) | (with_reducible refine Below.drew ?_) | (with_reducible refine below_drewN ?_ _) | (with_reducible refine below_plus ?_ ?_ _ _) | (with_reducible refine Below.setCell ?_ ?_ _) | (with_reducible refine Below.setRow ?_ ?_ _) | go_size)))⟩
  · rw [if_neg c3] at hr
    obtain ⟨N, rfl⟩ : ∃ N : Nat, n = N := ⟨n.toNat, by omega⟩
    obtain ⟨Q, rfl⟩ : ∃ Q : Nat, q = Q := ⟨q.toNat, by omega⟩
    rw [show ((Q : Nat) : Int).toNat = Q by omega, show ((N : Nat) : Int).toNat = N by omega] at hr
    subst hr
    obtain ⟨ab, off, rfl⟩ : ∃ b off, a = some ⟨b, off, none⟩ := by
      rcases HR.out.reads.2 with h | ⟨b, off, h, _⟩
      · omega
      · exact ⟨b, off, h⟩
    by_cases hQ : Q = cap
    · have hN : N = 0 := by omega
      subst hN
      have HZ := Lib.hid (fun W c => conv_zero W ab off c)
      go_enter Try.func26, Try.ntmps26
      go_wp2_with fail
      refine (HLen.out _ (HR.out.below (by (repeat' (first | (with_reducible exact Below.refl _ _) | (with_reducible assumption) | (with_reducible refine Below.alloc ?_ ?_ _) | (with_reducible refine Below.drew ?_) | (with_reducible refine below_drewN ?_ _) | (with_reducible refine below_plus ?_ ?_ _ _) | (with_reducible refine Below.setCell ?_ ?_ _) | (with_reducible refine Below.setRow ?_ ?_ _) | go_size))))).mono ?_; rintro e w' ⟨rfl, J, dr, rfl⟩
      go_wp2
      rw [HZ.out]
      simp only [Result.andThen]
      rw [Oper.upon_value]
      go_wp2
      refine bodyPost_ret (results_pf5 rfl _ _ w.heap.size #[.int .i64 0, .int .i64 0] rfl (by simp [go_sem]) rfl) rfl ⟨?_, junk_of_below (by (repeat' (first | (with_reducible exact Below.refl _ _) | (with_reducible assumption) | (with_reducible refine Below.alloc ?_ ?_ _) | (with_reducible refine Below.drew ?_) | (with_reducible refine below_drewN ?_ _) | (with_reducible refine below_plus ?_ ?_ _ _) | (with_reducible refine Below.setCell ?_ ?_ _) | (with_reducible refine Below.setRow ?_ ?_ _) | go_size)))⟩
      exact ret_tx5 (by simp) (by omega) rfl rfl
    · have hQ2 : (Q : Int) < (cap : Int) := by omega
      have HZ := Lib.hid (fun W (h : BReads W (some ⟨ab, off, none⟩) L.length L) c => conv_any h Q N c (by omega))
      go_enter Try.func26, Try.ntmps26
      go_wp2_with fail
      refine (HLen.out _ (HR.out.below (by (repeat' (first | (with_reducible exact Below.refl _ _) | (with_reducible assumption) | (with_reducible refine Below.alloc ?_ ?_ _) | (with_reducible refine Below.drew ?_) | (with_reducible refine below_drewN ?_ _) | (with_reducible refine below_plus ?_ ?_ _ _) | (with_reducible refine Below.setCell ?_ ?_ _) | (with_reducible refine Below.setRow ?_ ?_ _) | go_size))))).mono ?_; rintro e w' ⟨rfl, J, dr, rfl⟩
      go_wp2
      rw [HZ.out _ (HR.out.reads.below (by (repeat' (first | (with_reducible exact Below.refl _ _) | (with_reducible assumption) | (with_reducible refine Below.alloc ?_ ?_ _) | (with_reducible refine Below.drew ?_) | (with_reducible refine below_drewN ?_ _) | (with_reducible refine below_plus ?_ ?_ _ _) | (with_reducible refine Below.setCell ?_ ?_ _) | (with_reducible refine Below.setRow ?_ ?_ _) | go_size))))]
      simp only [Result.andThen]
      rw [Oper.upon_value]
      go_wp2
      refine bodyPost_ret (results_pf5 rfl _ _ w.heap.size #[.int .i64 0, .int .i64 0] rfl (by simp [go_sem]) rfl) rfl ⟨?_, junk_of_below (by (repeat' (first | (with_reducible exact Below.refl _ _) | (with_reducible assumption) | (with_reducible refine Below.alloc ?_ ?_ _) | (with_reducible refine Below.drew ?_) | (with_reducible refine below_drewN ?_ _) | (with_reducible refine below_plus ?_ ?_ _ _) | (with_reducible refine Below.setCell ?_ ?_ _) | (with_reducible refine Below.setRow ?_ ?_ _) | go_size)))⟩
      exact ret_tx5 (by simp) (by omega) rfl rfl
end Go.Proofs.Ytabjhmblfeoiaaa

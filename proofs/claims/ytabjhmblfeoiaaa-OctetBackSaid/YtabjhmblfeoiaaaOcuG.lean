/- Contract of octet's Get. -/
import Derived.Test.YtabjhmblfeoiaaaOcuB
import Derived.Test.YtabjhmblfeoiaaaOctL
namespace Go.Proofs.Ytabjhmblfeoiaaa
set_option linter.unusedVariables false
set_option linter.unusedSimpArgs false
open Go.RowKit

set_option maxRecDepth 100000 in
set_option maxHeartbeats 4000000 in
theorem n_Get (w : World) (a : Option Addr) (len cap : Nat) (L : List UInt8) (hR : BIn w a len L cap) (p : Int) (hp : I64 p) (r : Int × Int × Int × Int) (hr : Hid (getP L p = r)) :
    Calls Try.prog 23 #[.slice a len cap, .int .i64 p] w fun e w' => e = .returned (.tuple #[.int .i64 r.1, .int .i64 r.2.1, .agg #[.int .i64 r.2.2.1, .int .i64 r.2.2.2]]) ∧ Junk w w' := by
  obtain ⟨p0, p1⟩ := hp
  obtain ⟨⟨hL, hc⟩, hn, hsm, hroom⟩ := hR
  subst hL
  by_cases c1 : p < 0
  · have hr := hr.out
    unfold getP at hr
    rw [if_pos (.inl c1)] at hr
    subst hr
    clear hc hn
    go_enter Try.func23, Try.ntmps23
    go_wp2
    refine bodyPost_ret (results_pf5 rfl _ _ w.heap.size #[.int .i64 5, .int .i64 0] rfl (by simp [go_sem]) rfl) rfl ⟨rfl, junk_of_below (by (repeat' (first | (with_reducible exact Below.refl _ _) | (with_reducible assumption) | (with_reducible refine Below.alloc ?_ ?_ _) | (with_reducible refine Below.drew ?_) | (with_reducible refine below_drewN ?_ _) | (with_reducible refine below_plus ?_ ?_ _ _) | (with_reducible refine Below.setCell ?_ ?_ _) | (with_reducible refine Below.setRow ?_ ?_ _) | go_size)))⟩
  by_cases c2 : (L.length : Int) < p
  · have hr := hr.out
    unfold getP at hr
    rw [if_pos (.inr c2)] at hr
    subst hr
    clear hc hn
    go_enter Try.func23, Try.ntmps23
    go_wp2
    refine bodyPost_ret (results_pf5 rfl _ _ w.heap.size #[.int .i64 5, .int .i64 0] rfl (by simp [go_sem]) rfl) rfl ⟨rfl, junk_of_below (by (repeat' (first | (with_reducible exact Below.refl _ _) | (with_reducible assumption) | (with_reducible refine Below.alloc ?_ ?_ _) | (with_reducible refine Below.drew ?_) | (with_reducible refine below_drewN ?_ _) | (with_reducible refine below_plus ?_ ?_ _ _) | (with_reducible refine Below.setCell ?_ ?_ _) | (with_reducible refine Below.setRow ?_ ?_ _) | go_size)))⟩
  have hr := hr.out
  unfold getP at hr
  rw [if_neg (by omega)] at hr
  obtain ⟨q, rfl⟩ : ∃ q : Nat, p = q := ⟨p.toNat, by omega⟩
  rw [show ((q : Nat) : Int).toNat = q by omega] at hr
  by_cases hz : q = L.length
  · subst hz
    rw [List.drop_length] at hr
    have hr : (0, 0, 4, (L.length : Int)) = r := hr
    subst hr
    clear hc hn p0 p1
    go_enter Try.func23, Try.ntmps23
    go_wp2_with fail
    all_goals go_loopw [7, 8, 9, 23] (fun _ _ _ j wr => j = .int .i64 0 ∧ wr = w.alloc (.cells #[.int .i64 0, .int .i64 0] 36)) (fun _ _ _ _ _ => 0)
    all_goals first
      | (case atStart => exact ⟨rfl, rfl⟩)
      | skip
    all_goals (obtain ⟨rfl, rfl⟩ := hrel; go_wp2; refine bodyPost_ret (results_pf5 rfl _ _ w.heap.size #[.int .i64 4, .int .i64 L.length] rfl (by simp [go_sem]) rfl) rfl ⟨rfl, junk_of_below (by (repeat' (first | (with_reducible exact Below.refl _ _) | (with_reducible assumption) | (with_reducible refine Below.alloc ?_ ?_ _) | (with_reducible refine Below.drew ?_) | (with_reducible refine below_drewN ?_ _) | (with_reducible refine below_plus ?_ ?_ _ _) | (with_reducible refine Below.setCell ?_ ?_ _) | (with_reducible refine Below.setRow ?_ ?_ _) | go_size)))⟩)
  have hqL : q < L.length := by omega
  obtain ⟨ab, off, rfl, hcell⟩ : ∃ b off, a = some ⟨b, off, none⟩ ∧ ∀ i, i < L.length → w.cell? ⟨b, off + i, none⟩ = some (.int .u8 (byteAt L i)) := by
    rcases hc with h | h
    · omega
    · exact h
  have HRR := Lib.hid hr
  have HC := Lib.hid hcell
  have hqc : (q : Int) < (cap : Int) := by omega
  clear hr hc hn p0 p1 hcell
  go_enter Try.func23, Try.ntmps23
  go_wp2_with fail
  go_loopw [7, 8, 9, 23] (fun x _ _ i wr => GetAt L q (w.alloc (.cells #[.int .i64 0, .int .i64 0] 36)) i x wr) (fun _ _ _ i _ => 9 - (intOf i).toNat)
  case atStart => exact ⟨0, 0, rfl, rfl, by omega, by simp, by omega, rfl, rfl⟩
  case round =>
    obtain ⟨k, R, rfl, rfl, hk, hRk, hpk, hg, rfl⟩ := hrel
    have HRK := Lib.hid hRk
    have HG := Lib.hid hg
    clear hRk hg
    by_cases hend : q + k = L.length
    · have hg := HG.out
      rw [hend, List.drop_length] at hg
      have hr := HRR.out
      rw [hg] at hr
      have hr : (0, 0, 4, (L.length : Int)) = r := hr
      subst hr
      have hnk : ¬ (k : Int) < (L.length : Int) - (q : Int) := by omega
      clear hg
      go_wp2
      refine bodyPost_ret (results_pf5 rfl _ _ w.heap.size #[.int .i64 4, .int .i64 L.length] rfl (by simp [go_sem]) rfl) rfl ⟨rfl, junk_of_below (by (repeat' (first | (with_reducible exact Below.refl _ _) | (with_reducible assumption) | (with_reducible refine Below.alloc ?_ ?_ _) | (with_reducible refine Below.drew ?_) | (with_reducible refine below_drewN ?_ _) | (with_reducible refine below_plus ?_ ?_ _ _) | (with_reducible refine Below.setCell ?_ ?_ _) | (with_reducible refine Below.setRow ?_ ?_ _) | go_size)))⟩
    have hlt : q + k < L.length := by omega
    obtain ⟨cb, hcb, hcn⟩ := drop_at hlt
    have hcl := HC.out (q + k) hlt
    have hb256 := byte_lt L (q + k)
    have hg := HG.out
    rw [hcb, getS, hcn] at hg
    generalize hc : byteAt L (q + k) = c at *
    have hab := World.block_lt_of_cell? _ _ hcl
    have hcl2 : (w.alloc (.cells #[.int .i64 0, .int .i64 0] 36)).cell? ⟨ab, off + q + k, none⟩ = some (.int .u8 (c : Int)) := by rw [Nat.add_assoc, ← hcl]; exact World.cell?_of_block (((Below.refl w.heap.size w).alloc (Nat.le_refl _) _).block ab hab)
    have HGX := Lib.hid hg
    have hkq : (k : Int) < (L.length : Int) - (q : Int) := by omega
    clear hg hcb hcn hc HC HG hcl
    by_cases k9 : k = 9
    · have e9 : ((k : Int) == 9) = true := by rw [k9]; rfl
      by_cases c9 : 1 < c
      · skip
        have hg := HGX.out
        rw [if_pos ⟨k9, c9⟩] at hg
        have hr := HRR.out
        rw [hg] at hr
        have hr : (0, 0, 5, (q : Int) + (k : Nat)) = r := hr
        subst hr
        clear hg k9
        go_wp2
        refine bodyPost_ret (results_pf5 rfl _ _ w.heap.size #[.int .i64 5, .int .i64 ((q : Int) + (k : Int))] rfl (by simp [go_sem]) rfl) rfl ⟨rfl, junk_of_below (by (repeat' (first | (with_reducible exact Below.refl _ _) | (with_reducible assumption) | (with_reducible refine Below.alloc ?_ ?_ _) | (with_reducible refine Below.drew ?_) | (with_reducible refine below_drewN ?_ _) | (with_reducible refine below_plus ?_ ?_ _ _) | (with_reducible refine Below.setCell ?_ ?_ _) | (with_reducible refine Below.setRow ?_ ?_ _) | go_size)))⟩
      · have c01 : (c : Int) ≤ 1 := by omega
        have k00 : 0 < (k : Int) := by omega
        by_cases c0 : c = 0
        · have e0 : ((c : Int) == 0) = true := by rw [c0]; rfl
          have hg := HGX.out
          rw [if_neg (fun h => c9 h.2), if_pos ⟨by omega, c0⟩] at hg
          have hr := HRR.out
          rw [hg] at hr
          have hr : (0, 0, 4, (q : Int) + (k : Nat)) = r := hr
          subst hr
          clear hg k9 c0 c9
          go_wp2
          refine bodyPost_ret (results_pf5 rfl _ _ w.heap.size #[.int .i64 4, .int .i64 ((q : Int) + (k : Int))] rfl (by simp [go_sem]) rfl) rfl ⟨rfl, junk_of_below (by (repeat' (first | (with_reducible exact Below.refl _ _) | (with_reducible assumption) | (with_reducible refine Below.alloc ?_ ?_ _) | (with_reducible refine Below.drew ?_) | (with_reducible refine below_drewN ?_ _) | (with_reducible refine below_plus ?_ ?_ _ _) | (with_reducible refine Below.setCell ?_ ?_ _) | (with_reducible refine Below.setRow ?_ ?_ _) | go_size)))⟩
        · have e0 : ((c : Int) == 0) = false := beq_eq_false_iff_ne.2 (by omega)
          have hg := HGX.out
          rw [if_neg (fun h => c9 h.2), if_neg (fun h => c0 h.2), if_pos (show c < 128 by omega)] at hg
          have hr := HRR.out
          rw [hg] at hr
          have hr : (numOf (R + c % 128 * 128 ^ k), (q : Int) + ((k + 1 : Nat) : Int), 0, 0) = r := hr
          clear hg
          obtain ⟨m0, m1, m2⟩ := group_facts hk HRK.out (show c % 128 < 128 by omega) (fun _ => by omega)
          obtain ⟨e, he⟩ : ∃ e, c % 128 * 128 ^ k = e := ⟨_, rfl⟩
          obtain ⟨R2, hR2⟩ : ∃ R2, R + e = R2 := ⟨_, rfl⟩
          rw [he] at m0 m1 m2
          rw [hR2] at m1 m2
          obtain ⟨d, hd⟩ : ∃ d, c % 128 = d := ⟨_, rfl⟩
          rw [hd] at he
          have f0 : (c : Int) % 128 = (d : Int) := by omega
          have f1 : (c : Int).tmod 128 = (d : Int) := by rw [Int.tmod_eq_emod_of_nonneg (by omega)]; omega
          have f2 : IntKind.u64.wrap (d : Int) = (d : Int) := wrap_nat _ (by omega)
          have f3 : IntKind.u64.wrap ((d : Int) * 2 ^ (7 * (k : Int)).toNat) = (e : Int) := by
            rw [show (7 * (k : Int)).toNat = 7 * k by omega, ← he, ← pow7]
            have := wrap_nat (d * 2 ^ (7 * k)) (by rw [pow7, he]; exact m0)
            rw [← this]; congr 1
          have f4 : bits .or .u64 (R : Int) (e : Int) = (R2 : Int) := by
            have := bits_or R d (7 * k) (by rw [pow7]; exact HRK.out) (by rw [pow7, he, hR2]; exact m1)
            rw [pow7, he, hR2] at this; exact this
          rw [hd, he, hR2] at hr
          subst hr
          have HNum := Lib.hid (fun w => n_numberOf R2 m1 w)
          clear m0 m1 m2 he hR2 hd k9 c0 c9
          go_wp2_with fail
          refine (HNum.out _).mono ?_; rintro e w' ⟨rfl, J, dr, rfl⟩
          go_wp2
          refine bodyPost_ret (results_pf5 rfl _ _ w.heap.size #[.int .i64 0, .int .i64 0] rfl (by simp [go_sem]) rfl) rfl ⟨?_, junk_of_below (by (repeat' (first | (with_reducible exact Below.refl _ _) | (with_reducible assumption) | (with_reducible refine Below.alloc ?_ ?_ _) | (with_reducible refine Below.drew ?_) | (with_reducible refine below_drewN ?_ _) | (with_reducible refine below_plus ?_ ?_ _ _) | (with_reducible refine Below.setCell ?_ ?_ _) | (with_reducible refine Below.setRow ?_ ?_ _) | go_size)))⟩
          exact ret_pf5 rfl (by omega) rfl rfl
    have e9 : ((k : Int) == 9) = false := beq_eq_false_iff_ne.2 (by omega)
    by_cases k0 : 0 < k
    · by_cases c0 : c = 0
      · have e0 : ((c : Int) == 0) = true := by rw [c0]; rfl
        have hg := HGX.out
        rw [if_neg (fun h => k9 h.1), if_pos ⟨k0, c0⟩] at hg
        have hr := HRR.out
        rw [hg] at hr
        have hr : (0, 0, 4, (q : Int) + (k : Nat)) = r := hr
        subst hr
        clear hg k9 c0
        go_wp2
        refine bodyPost_ret (results_pf5 rfl _ _ w.heap.size #[.int .i64 4, .int .i64 ((q : Int) + (k : Int))] rfl (by simp [go_sem]) rfl) rfl ⟨rfl, junk_of_below (by (repeat' (first | (with_reducible exact Below.refl _ _) | (with_reducible assumption) | (with_reducible refine Below.alloc ?_ ?_ _) | (with_reducible refine Below.drew ?_) | (with_reducible refine below_drewN ?_ _) | (with_reducible refine below_plus ?_ ?_ _ _) | (with_reducible refine Below.setCell ?_ ?_ _) | (with_reducible refine Below.setRow ?_ ?_ _) | go_size)))⟩
      · have e0 : ((c : Int) == 0) = false := beq_eq_false_iff_ne.2 (by omega)
        by_cases c7 : c < 128
        · skip
          have hg := HGX.out
          rw [if_neg (fun h => k9 h.1), if_neg (fun h => c0 h.2), if_pos c7] at hg
          have hr := HRR.out
          rw [hg] at hr
          have hr : (numOf (R + c % 128 * 128 ^ k), (q : Int) + ((k + 1 : Nat) : Int), 0, 0) = r := hr
          clear hg
          obtain ⟨m0, m1, m2⟩ := group_facts hk HRK.out (show c % 128 < 128 by omega) (fun h => absurd h k9)
          obtain ⟨e, he⟩ : ∃ e, c % 128 * 128 ^ k = e := ⟨_, rfl⟩
          obtain ⟨R2, hR2⟩ : ∃ R2, R + e = R2 := ⟨_, rfl⟩
          rw [he] at m0 m1 m2
          rw [hR2] at m1 m2
          obtain ⟨d, hd⟩ : ∃ d, c % 128 = d := ⟨_, rfl⟩
          rw [hd] at he
          have f0 : (c : Int) % 128 = (d : Int) := by omega
          have f1 : (c : Int).tmod 128 = (d : Int) := by rw [Int.tmod_eq_emod_of_nonneg (by omega)]; omega
          have f2 : IntKind.u64.wrap (d : Int) = (d : Int) := wrap_nat _ (by omega)
          have f3 : IntKind.u64.wrap ((d : Int) * 2 ^ (7 * (k : Int)).toNat) = (e : Int) := by
            rw [show (7 * (k : Int)).toNat = 7 * k by omega, ← he, ← pow7]
            have := wrap_nat (d * 2 ^ (7 * k)) (by rw [pow7, he]; exact m0)
            rw [← this]; congr 1
          have f4 : bits .or .u64 (R : Int) (e : Int) = (R2 : Int) := by
            have := bits_or R d (7 * k) (by rw [pow7]; exact HRK.out) (by rw [pow7, he, hR2]; exact m1)
            rw [pow7, he, hR2] at this; exact this
          rw [hd, he, hR2] at hr
          subst hr
          have HNum := Lib.hid (fun w => n_numberOf R2 m1 w)
          clear m0 m1 m2 he hR2 hd k9 c0
          go_wp2_with fail
          refine (HNum.out _).mono ?_; rintro e w' ⟨rfl, J, dr, rfl⟩
          go_wp2
          refine bodyPost_ret (results_pf5 rfl _ _ w.heap.size #[.int .i64 0, .int .i64 0] rfl (by simp [go_sem]) rfl) rfl ⟨?_, junk_of_below (by (repeat' (first | (with_reducible exact Below.refl _ _) | (with_reducible assumption) | (with_reducible refine Below.alloc ?_ ?_ _) | (with_reducible refine Below.drew ?_) | (with_reducible refine below_drewN ?_ _) | (with_reducible refine below_plus ?_ ?_ _ _) | (with_reducible refine Below.setCell ?_ ?_ _) | (with_reducible refine Below.setRow ?_ ?_ _) | go_size)))⟩
          exact ret_pf5 rfl (by omega) rfl rfl
        · skip
          have hg := HGX.out
          rw [if_neg (fun h => k9 h.1), if_neg (fun h => c0 h.2), if_neg c7] at hg
          obtain ⟨m0, m1, m2⟩ := group_facts hk HRK.out (show c % 128 < 128 by omega) (fun h => absurd h k9)
          obtain ⟨e, he⟩ : ∃ e, c % 128 * 128 ^ k = e := ⟨_, rfl⟩
          obtain ⟨R2, hR2⟩ : ∃ R2, R + e = R2 := ⟨_, rfl⟩
          rw [he] at m0 m1 m2
          rw [hR2] at m1 m2
          obtain ⟨d, hd⟩ : ∃ d, c % 128 = d := ⟨_, rfl⟩
          rw [hd] at he
          have f0 : (c : Int) % 128 = (d : Int) := by omega
          have f1 : (c : Int).tmod 128 = (d : Int) := by rw [Int.tmod_eq_emod_of_nonneg (by omega)]; omega
          have f2 : IntKind.u64.wrap (d : Int) = (d : Int) := wrap_nat _ (by omega)
          have f3 : IntKind.u64.wrap ((d : Int) * 2 ^ (7 * (k : Int)).toNat) = (e : Int) := by
            rw [show (7 * (k : Int)).toNat = 7 * k by omega, ← he, ← pow7]
            have := wrap_nat (d * 2 ^ (7 * k)) (by rw [pow7, he]; exact m0)
            rw [← this]; congr 1
          have f4 : bits .or .u64 (R : Int) (e : Int) = (R2 : Int) := by
            have := bits_or R d (7 * k) (by rw [pow7]; exact HRK.out) (by rw [pow7, he, hR2]; exact m1)
            rw [pow7, he, hR2] at this; exact this
          rw [hd, he, hR2] at hg
          have HG2 := Lib.hid hg
          have HM2 := Lib.hid m2
          have hk8 : k + 1 ≤ 9 := by omega
          have HK := Lib.hid hk
          clear m0 m1 m2 he hR2 hd hg k9 c0
          go_wp2_with fail
          go_roundw
          case rel => exact ⟨k + 1, R2, rfl, by go_num, hk8, HM2.out, by omega, HG2.out, rfl⟩
          case measure => simp [intOf]; omega
    · have k00 : ¬ 0 < (k : Int) := by omega
      by_cases c7 : c < 128
      · skip
        have hg := HGX.out
        rw [if_neg (fun h => k9 h.1), if_neg (fun h => k0 h.1), if_pos c7] at hg
        have hr := HRR.out
        rw [hg] at hr
        have hr : (numOf (R + c % 128 * 128 ^ k), (q : Int) + ((k + 1 : Nat) : Int), 0, 0) = r := hr
        clear hg
        obtain ⟨m0, m1, m2⟩ := group_facts hk HRK.out (show c % 128 < 128 by omega) (fun h => absurd h k9)
        obtain ⟨e, he⟩ : ∃ e, c % 128 * 128 ^ k = e := ⟨_, rfl⟩
        obtain ⟨R2, hR2⟩ : ∃ R2, R + e = R2 := ⟨_, rfl⟩
        rw [he] at m0 m1 m2
        rw [hR2] at m1 m2
        obtain ⟨d, hd⟩ : ∃ d, c % 128 = d := ⟨_, rfl⟩
        rw [hd] at he
        have f0 : (c : Int) % 128 = (d : Int) := by omega
        have f1 : (c : Int).tmod 128 = (d : Int) := by rw [Int.tmod_eq_emod_of_nonneg (by omega)]; omega
        have f2 : IntKind.u64.wrap (d : Int) = (d : Int) := wrap_nat _ (by omega)
        have f3 : IntKind.u64.wrap ((d : Int) * 2 ^ (7 * (k : Int)).toNat) = (e : Int) := by
          rw [show (7 * (k : Int)).toNat = 7 * k by omega, ← he, ← pow7]
          have := wrap_nat (d * 2 ^ (7 * k)) (by rw [pow7, he]; exact m0)
          rw [← this]; congr 1
        have f4 : bits .or .u64 (R : Int) (e : Int) = (R2 : Int) := by
          have := bits_or R d (7 * k) (by rw [pow7]; exact HRK.out) (by rw [pow7, he, hR2]; exact m1)
          rw [pow7, he, hR2] at this; exact this
        rw [hd, he, hR2] at hr
        subst hr
        have HNum := Lib.hid (fun w => n_numberOf R2 m1 w)
        clear m0 m1 m2 he hR2 hd k9
        go_wp2_with fail
        refine (HNum.out _).mono ?_; rintro e w' ⟨rfl, J, dr, rfl⟩
        go_wp2
        refine bodyPost_ret (results_pf5 rfl _ _ w.heap.size #[.int .i64 0, .int .i64 0] rfl (by simp [go_sem]) rfl) rfl ⟨?_, junk_of_below (by (repeat' (first | (with_reducible exact Below.refl _ _) | (with_reducible assumption) | (with_reducible refine Below.alloc ?_ ?_ _) | (with_reducible refine Below.drew ?_) | (with_reducible refine below_drewN ?_ _) | (with_reducible refine below_plus ?_ ?_ _ _) | (with_reducible refine Below.setCell ?_ ?_ _) | (with_reducible refine Below.setRow ?_ ?_ _) | go_size)))⟩
        exact ret_pf5 rfl (by omega) rfl rfl
      · skip
        have hg := HGX.out
        rw [if_neg (fun h => k9 h.1), if_neg (fun h => k0 h.1), if_neg c7] at hg
        obtain ⟨m0, m1, m2⟩ := group_facts hk HRK.out (show c % 128 < 128 by omega) (fun h => absurd h k9)
        obtain ⟨e, he⟩ : ∃ e, c % 128 * 128 ^ k = e := ⟨_, rfl⟩
        obtain ⟨R2, hR2⟩ : ∃ R2, R + e = R2 := ⟨_, rfl⟩
        rw [he] at m0 m1 m2
        rw [hR2] at m1 m2
        obtain ⟨d, hd⟩ : ∃ d, c % 128 = d := ⟨_, rfl⟩
        rw [hd] at he
        have f0 : (c : Int) % 128 = (d : Int) := by omega
        have f1 : (c : Int).tmod 128 = (d : Int) := by rw [Int.tmod_eq_emod_of_nonneg (by omega)]; omega
        have f2 : IntKind.u64.wrap (d : Int) = (d : Int) := wrap_nat _ (by omega)
        have f3 : IntKind.u64.wrap ((d : Int) * 2 ^ (7 * (k : Int)).toNat) = (e : Int) := by
          rw [show (7 * (k : Int)).toNat = 7 * k by omega, ← he, ← pow7]
          have := wrap_nat (d * 2 ^ (7 * k)) (by rw [pow7, he]; exact m0)
          rw [← this]; congr 1
        have f4 : bits .or .u64 (R : Int) (e : Int) = (R2 : Int) := by
          have := bits_or R d (7 * k) (by rw [pow7]; exact HRK.out) (by rw [pow7, he, hR2]; exact m1)
          rw [pow7, he, hR2] at this; exact this
        rw [hd, he, hR2] at hg
        have HG2 := Lib.hid hg
        have HM2 := Lib.hid m2
        have hk8 : k + 1 ≤ 9 := by omega
        have HK := Lib.hid hk
        clear m0 m1 m2 he hR2 hd hg k9
        go_wp2_with fail
        go_roundw
        case rel => exact ⟨k + 1, R2, rfl, by go_num, hk8, HM2.out, by omega, HG2.out, rfl⟩
        case measure => simp [intOf]; omega
end Go.Proofs.Ytabjhmblfeoiaaa

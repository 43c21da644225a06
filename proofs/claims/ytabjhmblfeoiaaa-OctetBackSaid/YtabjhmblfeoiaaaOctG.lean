/- Contract of apportionref05's Get. -/
import Derived.Test.YtabjhmblfeoiaaaOctA
namespace Go.Proofs.Ytabjhmblfeoiaaa
set_option linter.unusedVariables false
set_option linter.unusedSimpArgs false
open Go.RowKit

theorem results_pf5 {fn : Func} {p t u : Tmp} (h : fn.results = #[.tmp t, .tmp u, .cell p 36]) (tmps : Array Value) (w : World) (g : Nat) (c : Array Value)
    (hp : tmps.getD p undef = .pointer (some ⟨g, 0, none⟩)) (hr : w.rowAt g = some c) (hc : c.size = 2) : (results fn tmps).run Try.prog w = .ok (.tuple #[tmps.getD t undef, tmps.getD u undef, .agg c]) w := by
  obtain ⟨ty, hg⟩ := rowAt_some hr
  have hp' : tmps[p]?.getD undef = .pointer (some ⟨g, 0, none⟩) := by simpa using hp
  simp [results, h, hp', asAddr, run_loadVar_row w g ty _ c (0, 0) _ hg Try.underlying36 rfl (by rw [hc]; kernel_rfl)]
theorem ret_pf5 {a b c d a' b' c' d' : Int} (h1 : a = a') (h2 : b = b') (h3 : c = c') (h4 : d = d') : Ending.returned (.tuple #[.int .i64 a, .int .i64 b, .agg #[.int .i64 c, .int .i64 d]]) = .returned (.tuple #[.int .i64 a', .int .i64 b', .agg #[.int .i64 c', .int .i64 d']]) := by rw [h1, h2, h3, h4]

theorem bits_not64 (h : Nat) (hh : h < 9223372036854775808) : bits .xor .i64 (-1) (h : Int) = -(h : Int) - 1 := by
  show IntKind.i64.wrap (((BitVec.ofInt 64 (-1)) ^^^ (BitVec.ofInt 64 (h : Int))).toNat : Int) = _
  have e : BitVec.ofInt 64 (-1) = BitVec.allOnes 64 := by decide
  rw [e, BitVec.allOnes_xor, BitVec.toNat_not, ofInt_nat h (by omega)]
  simp [IntKind.wrap, IntKind.signed, IntKind.bits]
  omega

/-- One group more. -/
theorem group_facts {k R d : Nat} (hk : k ≤ 9) (hR : R < 128 ^ k) (hd : d < 128) (h9 : k = 9 → d ≤ 1) :
    d * 128 ^ k < 18446744073709551616 ∧ R + d * 128 ^ k < 18446744073709551616 ∧ R + d * 128 ^ k < 128 ^ (k + 1) := by
  have hp : 128 ^ k ≤ 128 ^ 9 := Nat.pow_le_pow_right (by omega) hk
  rw [pow9] at hp
  have h1 : d * 128 ^ k ≤ 127 * 128 ^ k := Nat.mul_le_mul_right _ (by omega)
  have h3 : 128 ^ (k + 1) = 128 ^ k * 128 := Nat.pow_succ ..
  by_cases e : k = 9
  · have h2 := h9 e
    have h4 : d * 128 ^ k ≤ 1 * 128 ^ k := Nat.mul_le_mul_right _ h2
    omega
  · have hp8 : 128 ^ k ≤ 128 ^ 8 := Nat.pow_le_pow_right (by omega) (by omega)
    have e8 : (128 : Nat) ^ 8 = 72057594037927936 := by decide
    omega

theorem pow7 (k : Nat) : 2 ^ (7 * k) = 128 ^ k := by rw [Nat.pow_mul]

/-- Get's loop: how many groups are read, and what they say. -/
def GetAt (L : List UInt8) (p : Nat) (w0 : World) (i x : Value) (wr : World) : Prop := ∃ k R : Nat, i = .int .i64 (k : Int) ∧ x = .int .u64 (R : Int) ∧ k ≤ 9 ∧ R < 128 ^ k ∧ p + k ≤ L.length ∧ getS 0 0 (L.drop p) = getS k R (L.drop (p + k)) ∧ wr = w0

theorem drop_at {L : List UInt8} {i : Nat} (h : i < L.length) : ∃ c : UInt8, L.drop i = c :: L.drop (i + 1) ∧ c.toNat = byteAt L i := by
  refine ⟨L[i], List.drop_eq_getElem_cons h, ?_⟩
  unfold byteAt
  simp [List.getD_eq_getElem?_getD, h]

set_option maxRecDepth 100000 in
set_option maxHeartbeats 4000000 in
theorem r_Get (w : World) (a : Option Addr) (len cap : Nat) (L : List UInt8) (hR : BReads w a len L) (hn : a = none → len = 0 ∧ cap = 0) (hl : len ≤ 1099511627776) (p : Int) (hp : I64 p) (r : Int × Int × Int × Int) (hr : Hid (getP L p = r)) :
    Calls Try.prog 24 #[.slice a len cap, .int .i64 p] w fun e w' => e = .returned (.tuple #[.int .i64 r.1, .int .i64 r.2.1, .agg #[.int .i64 r.2.2.1, .int .i64 r.2.2.2]]) ∧ Junk w w' := by
  obtain ⟨p0, p1⟩ := hp
  obtain ⟨hL, hc⟩ := hR
  subst hL
  by_cases c1 : p < 0
  · have hr := hr.out
    unfold getP at hr
    rw [if_pos (.inl c1)] at hr
    subst hr
    clear hc hn
    go_enter Try.func24, Try.ntmps24
    go_wp2
    refine bodyPost_ret (results_pf5 rfl _ _ w.heap.size #[.int .i64 5, .int .i64 0] rfl (by simp [go_sem]) rfl) rfl ⟨rfl, junk_of_below (by (repeat' (first | (with_reducible exact Below.refl _ _) | (with_reducible assumption) | (with_reducible refine Below.alloc ?_ ?_ _) | (with_reducible refine Below.drew ?_) | (with_reducible refine below_drewN ?_ _) | (with_reducible refine below_plus ?_ ?_ _ _) | (with_reducible refine Below.setCell ?_ ?_ _) | (with_reducible refine Below.setRow ?_ ?_ _) | go_size)))⟩
  by_cases c2 : (L.length : Int) < p
  · have hr := hr.out
    unfold getP at hr
    rw [if_pos (.inr c2)] at hr
    subst hr
    clear hc hn
    go_enter Try.func24, Try.ntmps24
    go_wp2
    refine bodyPost_ret (results_pf5 rfl _ _ w.heap.size #[.int .i64 5, .int .i64 0] rfl (by simp [go_sem]) rfl) rfl ⟨rfl, junk_of_below (by (repeat' (first | (with_reducible exact Below.refl _ _) | (with_reducible assumption) | (with_reducible refine Below.alloc ?_ ?_ _) | (with_reducible refine Below.drew ?_) | (with_reducible refine below_drewN ?_ _) | (with_reducible refine below_plus ?_ ?_ _ _) | (with_reducible refine Below.setCell ?_ ?_ _) | (with_reducible refine Below.setRow ?_ ?_ _) | go_size)))⟩
  have hr := hr.out
  unfold getP at hr
  rw [if_neg (by omega)] at hr
  obtain ⟨q, rfl⟩ : ∃ q : Nat, p = q := ⟨p.toNat, by omega⟩
  rw [show ((q : Nat) : Int).toNat = q by omega] at hr
  have HRR := Lib.hid hr
  have HC := Lib.hid hc
  have HN := Lib.hid hn
  clear hr hc hn p0 p1
  go_enter Try.func24, Try.ntmps24
  go_wp2_with fail
  go_loopw [7, 8, 9] (fun x i _ wr => GetAt L q (w.alloc (.cells #[.int .i64 0, .int .i64 0] 36)) i x wr) (fun _ i _ _ => 9 - (intOf i).toNat)
  case atStart => exact ⟨0, 0, rfl, rfl, by omega, by simp, by omega, rfl, rfl⟩
  case round =>
    obtain ⟨k, R, rfl, rfl, hk, hRk, hpk, hg, rfl⟩ := hrel
    have HRK := Lib.hid hRk
    have HG := Lib.hid hg
    clear hRk hg
    by_cases hend : q + k = L.length
    · have hg := HG.out
      rw [hend, List.drop_length] at hg
      have hr := HRR.out
      rw [hg] at hr
      have hr : (0, 0, 4, (L.length : Int)) = r := hr
      subst hr
      clear hg
      go_wp2
      refine bodyPost_ret (results_pf5 rfl _ _ w.heap.size #[.int .i64 4, .int .i64 L.length] rfl (by simp [go_sem]) rfl) rfl ⟨rfl, junk_of_below (by (repeat' (first | (with_reducible exact Below.refl _ _) | (with_reducible assumption) | (with_reducible refine Below.alloc ?_ ?_ _) | (with_reducible refine Below.drew ?_) | (with_reducible refine below_drewN ?_ _) | (with_reducible refine below_plus ?_ ?_ _ _) | (with_reducible refine Below.setCell ?_ ?_ _) | (with_reducible refine Below.setRow ?_ ?_ _) | go_size)))⟩
    have hlt : q + k < L.length := by omega
    obtain ⟨cb, hcb, hcn⟩ := drop_at hlt
    obtain ⟨ab, off, rfl, hcell⟩ : ∃ b off, a = some ⟨b, off, none⟩ ∧ ∀ i, i < L.length → w.cell? ⟨b, off + i, none⟩ = some (.int .u8 (byteAt L i)) := by
      rcases HC.out with h | h
      · omega
      · exact h
    have hcl := hcell (q + k) hlt
    have hb256 := byte_lt L (q + k)
    have hg := HG.out
    rw [hcb, getS, hcn] at hg
    generalize hc : byteAt L (q + k) = c at *
    have hab := World.block_lt_of_cell? _ _ hcl
    have hcl2 : (w.alloc (.cells #[.int .i64 0, .int .i64 0] 36)).cell? ⟨ab, off + (q + k), none⟩ = some (.int .u8 (c : Int)) := by rw [← hcl]; exact World.cell?_of_block (((Below.refl w.heap.size w).alloc (Nat.le_refl _) _).block ab hab)
    have HGX := Lib.hid hg
    have hkq : (q : Int) + (k : Int) < (L.length : Int) := by omega
    clear hg hcb hcn hcell hc HC HN HG hcl
    by_cases k9 : k = 9
    · have e9 : ((k : Int) == 9) = true := by rw [k9]; rfl
      by_cases c9 : 1 < c
      · skip
        have hg := HGX.out
        rw [if_pos ⟨k9, c9⟩] at hg
        have hr := HRR.out
        rw [hg] at hr
        have hr : (0, 0, 5, (q : Int) + (k : Nat)) = r := hr
        subst hr
        clear hg k9
        go_wp2
        refine bodyPost_ret (results_pf5 rfl _ _ w.heap.size #[.int .i64 5, .int .i64 ((q : Int) + (k : Int))] rfl (by simp [go_sem]) rfl) rfl ⟨rfl, junk_of_below (by (repeat' (first | (with_reducible exact Below.refl _ _) | (with_reducible assumption) | (with_reducible refine Below.alloc ?_ ?_ _) | (with_reducible refine Below.drew ?_) | (with_reducible refine below_drewN ?_ _) | (with_reducible refine below_plus ?_ ?_ _ _) | (with_reducible refine Below.setCell ?_ ?_ _) | (with_reducible refine Below.setRow ?_ ?_ _) | go_size)))⟩
      · by_cases c0 : c = 0
        · have e0 : ((c : Int) == 0) = true := by rw [c0]; rfl
          have c01 : (c : Int) ≤ 1 := by omega
          have k00 : 0 < (k : Int) := by omega
          have hg := HGX.out
          rw [if_neg (fun h => c9 h.2), if_pos ⟨by omega, c0⟩] at hg
          have hr := HRR.out
          rw [hg] at hr
          have hr : (0, 0, 4, (q : Int) + (k : Nat)) = r := hr
          subst hr
          clear hg k9 c0 c9
          go_wp2
          refine bodyPost_ret (results_pf5 rfl _ _ w.heap.size #[.int .i64 4, .int .i64 ((q : Int) + (k : Int))] rfl (by simp [go_sem]) rfl) rfl ⟨rfl, junk_of_below (by (repeat' (first | (with_reducible exact Below.refl _ _) | (with_reducible assumption) | (with_reducible refine Below.alloc ?_ ?_ _) | (with_reducible refine Below.drew ?_) | (with_reducible refine below_drewN ?_ _) | (with_reducible refine below_plus ?_ ?_ _ _) | (with_reducible refine Below.setCell ?_ ?_ _) | (with_reducible refine Below.setRow ?_ ?_ _) | go_size)))⟩
        · have e0 : ((c : Int) == 0) = false := beq_eq_false_iff_ne.2 (by omega)
          have c01 : (c : Int) ≤ 1 := by omega
          have k00 : 0 < (k : Int) := by omega
          have hg := HGX.out
          rw [if_neg (fun h => c9 h.2), if_neg (fun h => c0 h.2), if_pos (show c < 128 by omega)] at hg
          have hr := HRR.out
          rw [hg] at hr
          have hr : (numOf (R + c % 128 * 128 ^ k), (q : Int) + ((k + 1 : Nat) : Int), 0, 0) = r := hr
          clear hg
          obtain ⟨m0, m1, m2⟩ := group_facts hk HRK.out (show c % 128 < 128 by omega) (fun _ => by omega)
          obtain ⟨e, he⟩ : ∃ e, c % 128 * 128 ^ k = e := ⟨_, rfl⟩
          obtain ⟨R2, hR2⟩ : ∃ R2, R + e = R2 := ⟨_, rfl⟩
          rw [he] at m0 m1 m2
          rw [hR2] at m1 m2
          obtain ⟨d, hd⟩ : ∃ d, c % 128 = d := ⟨_, rfl⟩
          rw [hd] at he
          have f0 : (c : Int) % 128 = (d : Int) := by omega
          have f1 : (c : Int).tmod 128 = (d : Int) := by rw [Int.tmod_eq_emod_of_nonneg (by omega)]; omega
          have f2 : IntKind.u64.wrap (d : Int) = (d : Int) := wrap_nat _ (by omega)
          have f3 : IntKind.u64.wrap ((d : Int) * 2 ^ (7 * (k : Int)).toNat) = (e : Int) := by
            rw [show (7 * (k : Int)).toNat = 7 * k by omega, ← he, ← pow7]
            have := wrap_nat (d * 2 ^ (7 * k)) (by rw [pow7, he]; exact m0)
            rw [← this]; congr 1
          have f4 : bits .or .u64 (R : Int) (e : Int) = (R2 : Int) := by
            have := bits_or R d (7 * k) (by rw [pow7]; exact HRK.out) (by rw [pow7, he, hR2]; exact m1)
            rw [pow7, he, hR2] at this; exact this
          rw [hd, he, hR2] at hr
          subst hr
          obtain ⟨h, hh⟩ : ∃ h, R2 / 2 = h := ⟨_, rfl⟩
          have f5 : (R2 : Int) / 2 = (h : Int) := by omega
          have f6 : (h : Int) ≤ 9223372036854775807 := by omega
          have HM := Lib.hid m1
          by_cases hodd : R2 % 2 = 1
          · have f7 : (R2 : Int) % 2 = 1 := by omega
            have f8 : (R2 : Int).tmod 2 = 1 := by rw [Int.tmod_eq_emod_of_nonneg (by omega)]; omega
            have f9 : bits .xor .i64 (-1) (h : Int) = -(h : Int) - 1 := bits_not64 h (by omega)
            have HNU := Lib.hid (show numOf R2 = -(h : Int) - 1 by unfold numOf; rw [if_pos hodd, hh])
            clear m0 m1 m2 he hR2 hodd hh hd k9 c0 c9
            go_wp2
            refine bodyPost_ret (results_pf5 rfl _ _ w.heap.size #[.int .i64 0, .int .i64 0] rfl (by simp [go_sem]) rfl) rfl ⟨?_, junk_of_below (by (repeat' (first | (with_reducible exact Below.refl _ _) | (with_reducible assumption) | (with_reducible refine Below.alloc ?_ ?_ _) | (with_reducible refine Below.drew ?_) | (with_reducible refine below_drewN ?_ _) | (with_reducible refine below_plus ?_ ?_ _ _) | (with_reducible refine Below.setCell ?_ ?_ _) | (with_reducible refine Below.setRow ?_ ?_ _) | go_size)))⟩
            exact ret_pf5 HNU.out.symm (by omega) rfl rfl
          · have f7 : (R2 : Int) % 2 = 0 := by omega
            have f8 : (R2 : Int).tmod 2 = 0 := by rw [Int.tmod_eq_emod_of_nonneg (by omega)]; omega
            have HNU := Lib.hid (show numOf R2 = (h : Int) by unfold numOf; rw [if_neg hodd, hh])
            clear m0 m1 m2 he hR2 hodd hh hd k9 c0 c9
            go_wp2
            refine bodyPost_ret (results_pf5 rfl _ _ w.heap.size #[.int .i64 0, .int .i64 0] rfl (by simp [go_sem]) rfl) rfl ⟨?_, junk_of_below (by (repeat' (first | (with_reducible exact Below.refl _ _) | (with_reducible assumption) | (with_reducible refine Below.alloc ?_ ?_ _) | (with_reducible refine Below.drew ?_) | (with_reducible refine below_drewN ?_ _) | (with_reducible refine below_plus ?_ ?_ _ _) | (with_reducible refine Below.setCell ?_ ?_ _) | (with_reducible refine Below.setRow ?_ ?_ _) | go_size)))⟩
            exact ret_pf5 HNU.out.symm (by omega) rfl rfl
    have e9 : ((k : Int) == 9) = false := beq_eq_false_iff_ne.2 (by omega)
    by_cases k0 : 0 < k
    · by_cases c0 : c = 0
      · have e0 : ((c : Int) == 0) = true := by rw [c0]; rfl
        have hg := HGX.out
        rw [if_neg (fun h => k9 h.1), if_pos ⟨k0, c0⟩] at hg
        have hr := HRR.out
        rw [hg] at hr
        have hr : (0, 0, 4, (q : Int) + (k : Nat)) = r := hr
        subst hr
        clear hg k9 c0
        go_wp2
        refine bodyPost_ret (results_pf5 rfl _ _ w.heap.size #[.int .i64 4, .int .i64 ((q : Int) + (k : Int))] rfl (by simp [go_sem]) rfl) rfl ⟨rfl, junk_of_below (by (repeat' (first | (with_reducible exact Below.refl _ _) | (with_reducible assumption) | (with_reducible refine Below.alloc ?_ ?_ _) | (with_reducible refine Below.drew ?_) | (with_reducible refine below_drewN ?_ _) | (with_reducible refine below_plus ?_ ?_ _ _) | (with_reducible refine Below.setCell ?_ ?_ _) | (with_reducible refine Below.setRow ?_ ?_ _) | go_size)))⟩
      · have e0 : ((c : Int) == 0) = false := beq_eq_false_iff_ne.2 (by omega)
        by_cases c7 : c < 128
        · skip
          have hg := HGX.out
          rw [if_neg (fun h => k9 h.1), if_neg (fun h => c0 h.2), if_pos c7] at hg
          have hr := HRR.out
          rw [hg] at hr
          have hr : (numOf (R + c % 128 * 128 ^ k), (q : Int) + ((k + 1 : Nat) : Int), 0, 0) = r := hr
          clear hg
          obtain ⟨m0, m1, m2⟩ := group_facts hk HRK.out (show c % 128 < 128 by omega) (fun h => absurd h k9)
          obtain ⟨e, he⟩ : ∃ e, c % 128 * 128 ^ k = e := ⟨_, rfl⟩
          obtain ⟨R2, hR2⟩ : ∃ R2, R + e = R2 := ⟨_, rfl⟩
          rw [he] at m0 m1 m2
          rw [hR2] at m1 m2
          obtain ⟨d, hd⟩ : ∃ d, c % 128 = d := ⟨_, rfl⟩
          rw [hd] at he
          have f0 : (c : Int) % 128 = (d : Int) := by omega
          have f1 : (c : Int).tmod 128 = (d : Int) := by rw [Int.tmod_eq_emod_of_nonneg (by omega)]; omega
          have f2 : IntKind.u64.wrap (d : Int) = (d : Int) := wrap_nat _ (by omega)
          have f3 : IntKind.u64.wrap ((d : Int) * 2 ^ (7 * (k : Int)).toNat) = (e : Int) := by
            rw [show (7 * (k : Int)).toNat = 7 * k by omega, ← he, ← pow7]
            have := wrap_nat (d * 2 ^ (7 * k)) (by rw [pow7, he]; exact m0)
            rw [← this]; congr 1
          have f4 : bits .or .u64 (R : Int) (e : Int) = (R2 : Int) := by
            have := bits_or R d (7 * k) (by rw [pow7]; exact HRK.out) (by rw [pow7, he, hR2]; exact m1)
            rw [pow7, he, hR2] at this; exact this
          rw [hd, he, hR2] at hr
          subst hr
          obtain ⟨h, hh⟩ : ∃ h, R2 / 2 = h := ⟨_, rfl⟩
          have f5 : (R2 : Int) / 2 = (h : Int) := by omega
          have f6 : (h : Int) ≤ 9223372036854775807 := by omega
          have HM := Lib.hid m1
          by_cases hodd : R2 % 2 = 1
          · have f7 : (R2 : Int) % 2 = 1 := by omega
            have f8 : (R2 : Int).tmod 2 = 1 := by rw [Int.tmod_eq_emod_of_nonneg (by omega)]; omega
            have f9 : bits .xor .i64 (-1) (h : Int) = -(h : Int) - 1 := bits_not64 h (by omega)
            have HNU := Lib.hid (show numOf R2 = -(h : Int) - 1 by unfold numOf; rw [if_pos hodd, hh])
            clear m0 m1 m2 he hR2 hodd hh hd k9 c0
            go_wp2
            refine bodyPost_ret (results_pf5 rfl _ _ w.heap.size #[.int .i64 0, .int .i64 0] rfl (by simp [go_sem]) rfl) rfl ⟨?_, junk_of_below (by (repeat' (first | (with_reducible exact Below.refl _ _) | (with_reducible assumption) | (with_reducible refine Below.alloc ?_ ?_ _) | (with_reducible refine Below.drew ?_) | (with_reducible refine below_drewN ?_ _) | (with_reducible refine below_plus ?_ ?_ _ _) | (with_reducible refine Below.setCell ?_ ?_ _) | (with_reducible refine Below.setRow ?_ ?_ _) | go_size)))⟩
            exact ret_pf5 HNU.out.symm (by omega) rfl rfl
          · have f7 : (R2 : Int) % 2 = 0 := by omega
            have f8 : (R2 : Int).tmod 2 = 0 := by rw [Int.tmod_eq_emod_of_nonneg (by omega)]; omega
            have HNU := Lib.hid (show numOf R2 = (h : Int) by unfold numOf; rw [if_neg hodd, hh])
            clear m0 m1 m2 he hR2 hodd hh hd k9 c0
            go_wp2
            refine bodyPost_ret (results_pf5 rfl _ _ w.heap.size #[.int .i64 0, .int .i64 0] rfl (by simp [go_sem]) rfl) rfl ⟨?_, junk_of_below (by (repeat' (first | (with_reducible exact Below.refl _ _) | (with_reducible assumption) | (with_reducible refine Below.alloc ?_ ?_ _) | (with_reducible refine Below.drew ?_) | (with_reducible refine below_drewN ?_ _) | (with_reducible refine below_plus ?_ ?_ _ _) | (with_reducible refine Below.setCell ?_ ?_ _) | (with_reducible refine Below.setRow ?_ ?_ _) | go_size)))⟩
            exact ret_pf5 HNU.out.symm (by omega) rfl rfl
        · skip
          have hg := HGX.out
          rw [if_neg (fun h => k9 h.1), if_neg (fun h => c0 h.2), if_neg c7] at hg
          obtain ⟨m0, m1, m2⟩ := group_facts hk HRK.out (show c % 128 < 128 by omega) (fun h => absurd h k9)
          obtain ⟨e, he⟩ : ∃ e, c % 128 * 128 ^ k = e := ⟨_, rfl⟩
          obtain ⟨R2, hR2⟩ : ∃ R2, R + e = R2 := ⟨_, rfl⟩
          rw [he] at m0 m1 m2
          rw [hR2] at m1 m2
          obtain ⟨d, hd⟩ : ∃ d, c % 128 = d := ⟨_, rfl⟩
          rw [hd] at he
          have f0 : (c : Int) % 128 = (d : Int) := by omega
          have f1 : (c : Int).tmod 128 = (d : Int) := by rw [Int.tmod_eq_emod_of_nonneg (by omega)]; omega
          have f2 : IntKind.u64.wrap (d : Int) = (d : Int) := wrap_nat _ (by omega)
          have f3 : IntKind.u64.wrap ((d : Int) * 2 ^ (7 * (k : Int)).toNat) = (e : Int) := by
            rw [show (7 * (k : Int)).toNat = 7 * k by omega, ← he, ← pow7]
            have := wrap_nat (d * 2 ^ (7 * k)) (by rw [pow7, he]; exact m0)
            rw [← this]; congr 1
          have f4 : bits .or .u64 (R : Int) (e : Int) = (R2 : Int) := by
            have := bits_or R d (7 * k) (by rw [pow7]; exact HRK.out) (by rw [pow7, he, hR2]; exact m1)
            rw [pow7, he, hR2] at this; exact this
          rw [hd, he, hR2] at hg
          have HG2 := Lib.hid hg
          have HM2 := Lib.hid m2
          have hk8 : k + 1 ≤ 9 := by omega
          have HK := Lib.hid hk
          clear m0 m1 m2 he hR2 hd hg k9 c0
          go_wp2_with fail
          go_roundw
          case rel => exact ⟨k + 1, R2, by go_num, rfl, hk8, HM2.out, by omega, HG2.out, rfl⟩
          case measure => simp [intOf]; omega
    · have k00 : ¬ 0 < (k : Int) := by omega
      by_cases c7 : c < 128
      · skip
        have hg := HGX.out
        rw [if_neg (fun h => k9 h.1), if_neg (fun h => k0 h.1), if_pos c7] at hg
        have hr := HRR.out
        rw [hg] at hr
        have hr : (numOf (R + c % 128 * 128 ^ k), (q : Int) + ((k + 1 : Nat) : Int), 0, 0) = r := hr
        clear hg
        obtain ⟨m0, m1, m2⟩ := group_facts hk HRK.out (show c % 128 < 128 by omega) (fun h => absurd h k9)
        obtain ⟨e, he⟩ : ∃ e, c % 128 * 128 ^ k = e := ⟨_, rfl⟩
        obtain ⟨R2, hR2⟩ : ∃ R2, R + e = R2 := ⟨_, rfl⟩
        rw [he] at m0 m1 m2
        rw [hR2] at m1 m2
        obtain ⟨d, hd⟩ : ∃ d, c % 128 = d := ⟨_, rfl⟩
        rw [hd] at he
        have f0 : (c : Int) % 128 = (d : Int) := by omega
        have f1 : (c : Int).tmod 128 = (d : Int) := by rw [Int.tmod_eq_emod_of_nonneg (by omega)]; omega
        have f2 : IntKind.u64.wrap (d : Int) = (d : Int) := wrap_nat _ (by omega)
        have f3 : IntKind.u64.wrap ((d : Int) * 2 ^ (7 * (k : Int)).toNat) = (e : Int) := by
          rw [show (7 * (k : Int)).toNat = 7 * k by omega, ← he, ← pow7]
          have := wrap_nat (d * 2 ^ (7 * k)) (by rw [pow7, he]; exact m0)
          rw [← this]; congr 1
        have f4 : bits .or .u64 (R : Int) (e : Int) = (R2 : Int) := by
          have := bits_or R d (7 * k) (by rw [pow7]; exact HRK.out) (by rw [pow7, he, hR2]; exact m1)
          rw [pow7, he, hR2] at this; exact this
        rw [hd, he, hR2] at hr
        subst hr
        obtain ⟨h, hh⟩ : ∃ h, R2 / 2 = h := ⟨_, rfl⟩
        have f5 : (R2 : Int) / 2 = (h : Int) := by omega
        have f6 : (h : Int) ≤ 9223372036854775807 := by omega
        have HM := Lib.hid m1
        by_cases hodd : R2 % 2 = 1
        · have f7 : (R2 : Int) % 2 = 1 := by omega
          have f8 : (R2 : Int).tmod 2 = 1 := by rw [Int.tmod_eq_emod_of_nonneg (by omega)]; omega
          have f9 : bits .xor .i64 (-1) (h : Int) = -(h : Int) - 1 := bits_not64 h (by omega)
          have HNU := Lib.hid (show numOf R2 = -(h : Int) - 1 by unfold numOf; rw [if_pos hodd, hh])
          clear m0 m1 m2 he hR2 hodd hh hd k9
          go_wp2
          refine bodyPost_ret (results_pf5 rfl _ _ w.heap.size #[.int .i64 0, .int .i64 0] rfl (by simp [go_sem]) rfl) rfl ⟨?_, junk_of_below (by (repeat' (first | (with_reducible exact Below.refl _ _) | (with_reducible assumption) | (with_reducible refine Below.alloc ?_ ?_ _) | (with_reducible refine Below.drew ?_) | (with_reducible refine below_drewN ?_ _) | (with_reducible refine below_plus ?_ ?_ _ _) | (with_reducible refine Below.setCell ?_ ?_ _) | (with_reducible refine Below.setRow ?_ ?_ _) | go_size)))⟩
          exact ret_pf5 HNU.out.symm (by omega) rfl rfl
        · have f7 : (R2 : Int) % 2 = 0 := by omega
          have f8 : (R2 : Int).tmod 2 = 0 := by rw [Int.tmod_eq_emod_of_nonneg (by omega)]; omega
          have HNU := Lib.hid (show numOf R2 = (h : Int) by unfold numOf; rw [if_neg hodd, hh])
          clear m0 m1 m2 he hR2 hodd hh hd k9
          go_wp2
          refine bodyPost_ret (results_pf5 rfl _ _ w.heap.size #[.int .i64 0, .int .i64 0] rfl (by simp [go_sem]) rfl) rfl ⟨?_, junk_of_below (by (repeat' (first | (with_reducible exact Below.refl _ _) | (with_reducible assumption) | (with_reducible refine Below.alloc ?_ ?_ _) | (with_reducible refine Below.drew ?_) | (with_reducible refine below_drewN ?_ _) | (with_reducible refine below_plus ?_ ?_ _ _) | (with_reducible refine Below.setCell ?_ ?_ _) | (with_reducible refine Below.setRow ?_ ?_ _) | go_size)))⟩
          exact ret_pf5 HNU.out.symm (by omega) rfl rfl
      · skip
        have hg := HGX.out
        rw [if_neg (fun h => k9 h.1), if_neg (fun h => k0 h.1), if_neg c7] at hg
        obtain ⟨m0, m1, m2⟩ := group_facts hk HRK.out (show c % 128 < 128 by omega) (fun h => absurd h k9)
        obtain ⟨e, he⟩ : ∃ e, c % 128 * 128 ^ k = e := ⟨_, rfl⟩
        obtain ⟨R2, hR2⟩ : ∃ R2, R + e = R2 := ⟨_, rfl⟩
        rw [he] at m0 m1 m2
        rw [hR2] at m1 m2
        obtain ⟨d, hd⟩ : ∃ d, c % 128 = d := ⟨_, rfl⟩
        rw [hd] at he
        have f0 : (c : Int) % 128 = (d : Int) := by omega
        have f1 : (c : Int).tmod 128 = (d : Int) := by rw [Int.tmod_eq_emod_of_nonneg (by omega)]; omega
        have f2 : IntKind.u64.wrap (d : Int) = (d : Int) := wrap_nat _ (by omega)
        have f3 : IntKind.u64.wrap ((d : Int) * 2 ^ (7 * (k : Int)).toNat) = (e : Int) := by
          rw [show (7 * (k : Int)).toNat = 7 * k by omega, ← he, ← pow7]
          have := wrap_nat (d * 2 ^ (7 * k)) (by rw [pow7, he]; exact m0)
          rw [← this]; congr 1
        have f4 : bits .or .u64 (R : Int) (e : Int) = (R2 : Int) := by
          have := bits_or R d (7 * k) (by rw [pow7]; exact HRK.out) (by rw [pow7, he, hR2]; exact m1)
          rw [pow7, he, hR2] at this; exact this
        rw [hd, he, hR2] at hg
        have HG2 := Lib.hid hg
        have HM2 := Lib.hid m2
        have hk8 : k + 1 ≤ 9 := by omega
        have HK := Lib.hid hk
        clear m0 m1 m2 he hR2 hd hg k9
        go_wp2_with fail
        go_roundw
        case rel => exact ⟨k + 1, R2, by go_num, rfl, hk8, HM2.out, by omega, HG2.out, rfl⟩
        case measure => simp [intOf]; omega
end Go.Proofs.Ytabjhmblfeoiaaa

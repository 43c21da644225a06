/- The law OctetApart: no number as bytes begins with another one's bytes. -/
import Derived.Test.YtabjhmblfeoiaaaOcuW
namespace Go.Proofs.Ytabjhmblfeoiaaa
set_option linter.unusedVariables false
set_option linter.unusedSimpArgs false
open Go.RowKit

theorem apart_take {n m : Int} (hn : I64 n) (hm : I64 m) (h : n ≠ m) (k : Nat) (hk : k = min (encN n).length (encN m).length) : ¬ (encN n).take k = (encN m).take k := by
  intro he
  refine h (rank_inj ?_)
  unfold encN at *
  by_cases hl : (encR (rank n)).length ≤ (encR (rank m)).length
  · have e1 : (encR (rank n)).take k = encR (rank n) := List.take_of_length_le (by omega)
    rw [e1] at he
    exact enc_apart (rank_lt hn.1 hn.2) (rank_lt hm.1 hm.2) (A := (encR (rank m)).drop k) (B := []) (by rw [he, List.take_append_drop, List.append_nil])
  · have e1 : (encR (rank m)).take k = encR (rank m) := List.take_of_length_le (by omega)
    rw [e1] at he
    exact enc_apart (rank_lt hn.1 hn.2) (rank_lt hm.1 hm.2) (A := []) (B := (encR (rank n)).drop k) (by rw [← he, List.take_append_drop, List.append_nil])
theorem apart_len {n m : Int} (h : 0 ≤ n ∧ n ≤ m ∨ n < 0 ∧ m ≤ n) : (encN n).length ≤ (encN m).length := by
  unfold encN
  refine enc_mono _ _ _ (Nat.le_refl _) ?_
  unfold rank
  rcases h with h | h
  · rw [if_pos (by omega), if_pos (by omega)]; omega
  · rw [if_neg (by omega), if_neg (by omega)]; omega

set_option maxRecDepth 100000 in
set_option maxHeartbeats 4000000 in
theorem l_octetApart (n m : Int) (hn : I64 n) (hm : I64 m) (w : World) : Calls Try.prog 8 #[.int .i64 n, .int .i64 m] w fun e w' => e = .returned (.bool true) ∧ Junk w w' := by
  have HA := Lib.hid (fun w => l_awake w)
  have HPn := Lib.hid (n_Put n hn)
  have HPm := Lib.hid (n_Put m hm)
  have HS := Lib.hid (fun W a b n m ca cb L M hL hM => k_SameBytes W a b n m ca cb L M hL hM)
  have h1 := encN_pos n
  have h2 := encN_le hn
  have h3 := encN_pos m
  have h4 := encN_le hm
  have HE := Lib.hid (fun (h : n = m) => congrArg encN h)
  have HT := Lib.hid (fun (h : n ≠ m) => apart_take hn hm h)
  have HL := Lib.hid (fun h => apart_len (n := n) (m := m) h)
  generalize encN n = A at *
  generalize encN m = B at *
  obtain ⟨n0, n1⟩ := hn
  obtain ⟨m0, m1⟩ := hm
  go_enter Try.func8, Try.ntmps8
  go_wp2_with fail
  refine (HA.out _).mono ?_; rintro e w1 ⟨rfl, j1⟩
  go_wp2_with fail
  refine (HPn.out _).mono ?_; rintro e w2 ⟨v, rfl, hown, j2⟩
  obtain ⟨a1, cap1, rfl, hin1⟩ := bin_of_owns hown (by omega)
  clear hown
  have hc1 := hin1.room
  go_wp2_with fail
  refine (HPm.out _).mono ?_; rintro e w3 ⟨v, rfl, hown, j3⟩
  obtain ⟨a2, cap2, rfl, hin2⟩ := bin_of_owns hown (by omega)
  clear hown
  have hc2 := hin2.room
  have HB1 := Lib.hid (hin1.reads.below j3.below)
  have HB2 := Lib.hid hin2.reads
  have HJ := Lib.hid (j1.below.trans ((j2.below.mono j1.below.size).trans (j3.below.mono (Nat.le_trans j1.below.size j2.below.size))))
  clear hin1 hin2 j1 j2 j3
  go_upto_region 5 with fail
  go_cut [61] from 32 (fun t wx => t = .bool false ∧ wx = w3)
  case first =>
    by_cases d1 : 0 ≤ n
    · by_cases d2 : n ≤ m
      · have hab := HL.out (.inl ⟨d1, d2⟩)
        go_wp2_with fail
        go_meet
        case rel => exact ⟨by rw [decide_eq_false (by omega)], rfl⟩
      · go_wp2_with fail
        go_meet
        case rel => exact ⟨rfl, rfl⟩
    · by_cases d2 : m ≤ n
      · have hab := HL.out (.inr ⟨by omega, d2⟩)
        go_wp2_with fail
        go_meet
        case rel => exact ⟨by rw [decide_eq_false (by omega)], rfl⟩
      · go_wp2_with fail
        go_meet
        case rel => exact ⟨rfl, rfl⟩
  obtain ⟨rfl, rfl⟩ := hcut
  by_cases e : n = m
  · have hAB := Lib.hid (HE.out e)
    have e1 : (n == m) = true := by rw [e]; simp
    clear n0 n1 m0 m1 e HL HT
    go_wp2_with fail
    refine (HS.out _ _ _ _ _ _ _ A B HB1.out HB2.out).mono ?_; rintro e w' ⟨rfl, J4, dr4, rfl⟩
    rw [decide_eq_true hAB.out]
    go_wp2
    go_ret
    exact ⟨rfl, junk_of_below (HJ.out.trans (below_plus (Below.refl _ _) HJ.out.size _ _))⟩
  · have e1 : (n == m) = false := beq_eq_false_iff_ne.2 e
    have HTT := Lib.hid (HT.out e)
    clear n0 n1 m0 m1 e HL HT HE
    go_upto_region 10 with fail
    obtain ⟨k, hkk⟩ : ∃ k, k = min A.length B.length := ⟨_, rfl⟩
    have hk : (if B.length < A.length then (B.length : Int) else (A.length : Int)) = (k : Int) := by split <;> omega
    have hk1 : k ≤ A.length := by omega
    have hk2 : k ≤ B.length := by omega
    have hk3 : k ≤ cap1 := by omega
    have hk4 : k ≤ cap2 := by omega
    have HX := Lib.hid (HTT.out k hkk)
    simp only [hk]
    clear hkk hk
    refine region_two (fun _ W => Below wc.heap.size wc W) 99 98 0 (by decide) rfl (by intro o h; cases h) (by kernel_rfl) (by kernel_rfl) (Below.drew (Below.refl _ _)) ?_
    iterate 4
      (refine t_ex (by rfl) rfl rfl ?_; apply Exists.intro; refine ⟨fun W => ?_, ?_⟩; (go_simp; with_reducible rfl); go_simp)
    (refine t_ex (by rfl) rfl rfl ?_; apply Exists.intro; refine ⟨fun W => ?_, ?_⟩; (go_simp; first | (with_reducible rfl) | (rw [if_pos (by omega)])); go_simp; try simp only [Int.toNat_natCast])
    iterate 2
      (refine t_ex (by rfl) rfl rfl ?_; apply Exists.intro; refine ⟨fun W => ?_, ?_⟩; (go_simp; with_reducible rfl); go_simp)
    (refine t_ex (by rfl) rfl rfl ?_; apply Exists.intro; refine ⟨fun W => ?_, ?_⟩; (go_simp; first | (with_reducible rfl) | (rw [if_pos (by omega)])); go_simp; try simp only [Int.toNat_natCast])
    refine t_op (by rfl) rfl rfl (.bool false) (fun _ W _ hD => ?_) ?_
    · show stepUpong _ (fun W => Below wc.heap.size wc W) _ _
      unfold stepUpong
      go_simp
      refine (HS.out W _ _ _ _ _ _ (A.take k) (B.take k) (breads_take (HB1.out.below hD) k hk1) (breads_take (HB2.out.below hD) k hk2)).mono ?_
      rintro e' w' ⟨rfl, J, d, rfl⟩
      exact ⟨by rw [decide_eq_false HX.out], below_plus hD hD.size _ _⟩
    go_simp
    iterate 3
      (refine t_ex (by rfl) rfl rfl ?_; apply Exists.intro; refine ⟨fun W => ?_, ?_⟩; (go_simp; with_reducible rfl); go_simp)
    refine t_nil ?_
    intro W hD
    have HD := Lib.hid hD
    clear hD
    go_wp2
    go_ret
    exact ⟨rfl, junk_of_below (HJ.out.trans (HD.out.mono HJ.out.size))⟩
end Go.Proofs.Ytabjhmblfeoiaaa

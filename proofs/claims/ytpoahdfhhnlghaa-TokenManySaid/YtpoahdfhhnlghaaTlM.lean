/- The law TokenMany. -/
import Derived.Test.YtpoahdfhhnlghaaTlB
namespace Go.Proofs.Ytpoahdfhhnlghaa
set_option linter.unusedVariables false
set_option linter.unusedSimpArgs false
open Go.RowKit

theorem tl_Pick (w : World) (x n : Int) (hx : -9223372036854775808 ≤ x ∧ x ≤ 9223372036854775807) (hn : -9223372036854775808 ≤ n ∧ n ≤ 9223372036854775807) :
    Calls Try.prog 20 #[.int .i64 x, .int .i64 n] w fun e w' => e = .returned (.int .i64 (if n < 1 then 0 else x % n)) ∧ Junk w w' := by
  obtain ⟨x0, x1⟩ := hx
  obtain ⟨n0, n1⟩ := hn
  by_cases c1 : n < 1
  · rw [if_pos c1]
    clear x0 x1 n0 n1
    go_enter Try.func20, Try.ntmps20
    go_wp2
    go_ret
    exact ⟨rfl, junk_of_below (by (repeat' first | with_reducible (first | apply Below.refl | assumption | apply bw_a | apply bw_d | apply bw_n | apply bw_p | apply bw_c | apply bw_r) | go_size))⟩
  rw [if_neg c1]
  obtain ⟨m, hm⟩ : ∃ m, x.tmod n = m := ⟨_, rfl⟩
  obtain ⟨d, hd⟩ : ∃ d, x % n = d := ⟨_, rfl⟩
  have hnz : n ≠ 0 := by omega
  have hnz2 : (n == 0) = false := beq_eq_false_iff_ne.2 hnz
  have hd0 := Int.emod_nonneg x hnz
  have hd1 := Int.emod_lt_of_pos x (show 0 < n by omega)
  have ht : m = d ∨ (m < 0 ∧ m + n = d) := by
    rw [← hm, ← hd]
    rcases Int.lt_or_le x 0 with h | h
    · by_cases hz : x % n = 0
      · left
        have := Int.dvd_of_emod_eq_zero hz
        rw [hz, Int.tmod_eq_emod]; simp [this, hz]
      · right
        have hnd : ¬ n ∣ x := fun h => hz (Int.emod_eq_zero_of_dvd h)
        have : (n.natAbs : Int) = n := by omega
        rw [Int.tmod_eq_emod, if_neg (by omega), this]
        omega
    · left
      exact Int.tmod_eq_emod_of_nonneg h
  rw [hd] at hd0 hd1 ⊢
  have e1 : x % n = d := hd
  rcases ht with ht | ⟨ht1, ht2⟩
  · subst ht
    clear hd
    go_enter Try.func20, Try.ntmps20
    go_wp2
    go_ret
    exact ⟨rfl, junk_of_below (by (repeat' first | with_reducible (first | apply Below.refl | assumption | apply bw_a | apply bw_d | apply bw_n | apply bw_p | apply bw_c | apply bw_r) | go_size))⟩
  · have e2 : IntKind.i64.wrap (m + n) = m + n := by simp [IntKind.wrap, IntKind.signed, IntKind.bits]; omega
    clear hd e1
    go_enter Try.func20, Try.ntmps20
    go_wp2
    go_ret
    exact ⟨rfl, junk_of_below (by (repeat' first | with_reducible (first | apply Below.refl | assumption | apply bw_a | apply bw_d | apply bw_n | apply bw_p | apply bw_c | apply bw_r) | go_size))⟩


/-- The tokens of the text that has been made, told twice. -/
def MnAt (w : World) (m : Nat) (s i : Value) (wr : World) : Prop := ∃ (k : Nat) (L : List UInt8) (J : Array Obj) (d : Nat), i = .int .i64 (k : Int) ∧ k ≤ m ∧ s = .string ⟨L.toArray⟩ ∧ L.length ≤ 2 * k ∧ wr = w.plus J d
set_option maxRecDepth 100000 in
set_option maxHeartbeats 4000000 in
theorem l_tokenMany (w : World) (x : Int) (hx : -9223372036854775808 ≤ x ∧ x ≤ 9223372036854775807) (long : Bool) : Calls Try.prog 5 #[.int .i64 x, .bool long] w fun e w' => e = .returned (.bool true) ∧ Junk w w' := by
  have HA := Lib.hid l_tkAwake
  have h5 := Int.emod_nonneg x (show (5 : Int) ≠ 0 by omega)
  have h5' := Int.emod_lt_of_pos x (show (0 : Int) < 5 by omega)
  have h10 := Int.emod_nonneg x (show (10 : Int) ≠ 0 by omega)
  have h10' := Int.emod_lt_of_pos x (show (0 : Int) < 10 by omega)
  have HP5 := Lib.hid (fun W => (tl_Pick W x 5 hx (by omega)).mono fun e w' h => (⟨by rw [h.1, if_neg (by omega)], h.2⟩ : e = .returned (.int .i64 (x % 5)) ∧ Junk W w'))
  have HP10 := Lib.hid (fun W => (tl_Pick W x 10 hx (by omega)).mono fun e w' h => (⟨by rw [h.1, if_neg (by omega)], h.2⟩ : e = .returned (.int .i64 (x % 10)) ∧ Junk W w'))
  obtain ⟨m5, hm5⟩ : ∃ m : Nat, x % 5 = m := ⟨(x % 5).toNat, by omega⟩
  obtain ⟨m10, hm10⟩ : ∃ m : Nat, x % 10 = m := ⟨(x % 10).toNat, by omega⟩
  rw [hm5] at HP5 h5'
  rw [hm10] at HP10 h10'
  have hb5 : m5 < 5 := by omega
  have hb10 : m10 < 10 := by omega
  have HTS := Lib.hid (fun (L : List UInt8) (hL : L.length ≤ 1000) W => p_tkTokens L W (by omega))
  have HRS := Lib.hid (fun (L : List UInt8) (hL : L.length ≤ 1000) W => q_tkTokens L W (by omega))
  have HS := Lib.hid (fun (K : List Tk) W a1 a2 cap1 cap2 (m n : Nat) (hm : m ≤ 100) (hn : n ≤ 100) (h : TReads W a1 m K) (h2 : TReads W a2 n K) => (k_SameTokens W a1 a2 m n cap1 cap2 K K h h2 (by omega) (by omega)).mono fun e w' h => (⟨by rw [h.1, decide_eq_true rfl], h.2⟩ : e = .returned (.bool true) ∧ Junk W w'))
  unfold TkP at HTS HRS
  clear h5 h5' h10 h10' hm5 hm10 hx
  cases long with
  | false =>
    go_enter Try.func5, Try.ntmps5
    go_wp2_with fail
    go_loopw [5, 6] (fun s i wr => MnAt w (38 + m5) s i wr) (fun _ i _ => 38 + m5 - (intOf i).toNat)
    case atStart => exact ⟨0, [], #[], _, rfl, Nat.zero_le _, rfl, Nat.zero_le _, (plus_nil w).symm⟩
    case round =>
      obtain ⟨k, L, J, d, rfl, hk, rfl, hL, rfl⟩ := hrel
      by_cases hlt : k < 38 + m5
      · have hsum : L.length + 2 ≤ 9223372036854775807 := by omega
        go_wp2_with fail
        refine (HP5.out _).mono ?_; rintro e w' ⟨rfl, J2, d2, rfl⟩
        go_wp2_with fail
        go_roundw
        case rel => exact ⟨k + 1, L ++ [97, 32], _, _, by go_num, by omega, by simp [ba_app], by simp; omega, rfl⟩
        case measure => simp [intOf]; omega
      · go_wp2_with fail
        refine (HP5.out _).mono ?_; rintro e w' ⟨rfl, J2, d2, rfl⟩
        go_wp2_with fail
        go_loopw [5, 7] (fun s i wr => ∃ (J : Array Obj) (d : Nat), i = .int .i64 0 ∧ s = .string ⟨L.toArray⟩ ∧ wr = w.plus J d) (fun _ _ _ => 0)
        case atStart => exact ⟨_, _, rfl, rfl, rfl⟩
        case round =>
          obtain ⟨J3, d3, rfl, rfl, rfl⟩ := hrel
          go_wp2_with fail
          refine (HP10.out _).mono ?_; rintro e w' ⟨rfl, J4, d4, rfl⟩
          have hbW : Below w.heap.size w (w.plus (J3 ++ J4) d4) := by (repeat' first | with_reducible (first | apply Below.refl | assumption | apply bw_a | apply bw_d | apply bw_n | apply bw_p | apply bw_c | apply bw_r) | go_size)
          simp only [plus_plus]
          generalize w.plus (J3 ++ J4) d4 = W at *
          have HBW := Lib.hid hbW
          have hsW := hbW.size
          clear hbW
          have HT1 := Lib.hid (HTS.out L (by omega))
          have HR1 := Lib.hid (HRS.out L (by omega))
          have hX40 := told_len L
          generalize toldT L = X at *
          generalize (faultT L).1 = f at *
          generalize ((faultT L).2 : Int) = g at *
          clear HTS HRS
          go_wp2_with fail
          refine (HT1.out _).mono ?_; rintro e w4 ⟨a4, cap4, J4, d4, rfl, hw4, hR4, _, _⟩
          rw [← hw4] at hR4
          have HR4 := Lib.hid hR4
          have HB4 := Lib.hid (bw_j HBW.out HBW.out.size ⟨J4, d4, hw4⟩)
          have hs4 := HB4.out.size
          clear hR4 hw4
          go_wp2_with fail
          refine (HR1.out _).mono ?_; rintro e w5 ⟨a5, cap5, J5, d5, rfl, rfl, hR5, _, _⟩
          have HR5 := Lib.hid hR5
          clear hR5
          go_wp2_with fail
          refine (HS.out X _ _ _ _ _ _ _ (by omega) (by omega) (HR4.out.below (by (repeat' first | with_reducible (first | apply Below.refl | assumption | apply bw_a | apply bw_d | apply bw_n | apply bw_p | apply bw_c | apply bw_r) | go_size))) (HR5.out.below (by (repeat' first | with_reducible (first | apply Below.refl | assumption | apply bw_a | apply bw_d | apply bw_n | apply bw_p | apply bw_c | apply bw_r) | go_size)))).mono ?_; rintro e w' ⟨rfl, J8, d8, rfl⟩
          go_wp2_with fail
          refine (HA.out _).mono ?_; rintro e w' ⟨rfl, J9, d9, rfl⟩
          go_wp2
          go_ret
          exact ⟨rfl, junk_of_below (by have := HB4.out; (repeat' first | with_reducible (first | apply Below.refl | assumption | apply bw_a | apply bw_d | apply bw_n | apply bw_p | apply bw_c | apply bw_r) | go_size))⟩
  | true =>
    go_enter Try.func5, Try.ntmps5
    go_wp2_with fail
    go_loopw [5, 6] (fun s i wr => i = .int .i64 0 ∧ s = .string ⟨#[]⟩ ∧ wr = w) (fun _ _ _ => 0)
    case atStart => exact ⟨rfl, rfl, rfl⟩
    case round =>
      obtain ⟨rfl, rfl, hwr⟩ := hrel
      obtain ⟨wo, hwo⟩ : ∃ wo, wo = wr := ⟨_, rfl⟩
      rw [← hwo]
      have HW := Lib.hid (show wo = w from hwo.trans hwr)
      clear hwr hwo
      go_wp2_with fail
      refine (HP5.out _).mono ?_; rintro e w' ⟨rfl, J2, d2, rfl⟩
      go_wp2_with fail
      go_loopw [5, 7] (fun s i wx => MnAt wo (195 + m10) s i wx) (fun _ i _ => 195 + m10 - (intOf i).toNat)
      case atStart => exact ⟨0, [], _, _, rfl, Nat.zero_le _, rfl, Nat.zero_le _, rfl⟩
      case round =>
        obtain ⟨k, L, J, d, rfl, hk, rfl, hL, rfl⟩ := hrel
        by_cases hlt : k < 195 + m10
        · have hsum : L.length + 1 ≤ 9223372036854775807 := by omega
          go_wp2_with fail
          refine (HP10.out _).mono ?_; rintro e w' ⟨rfl, J2, d2, rfl⟩
          go_wp2_with fail
          go_roundw
          case rel => exact ⟨k + 1, L ++ [97], _, _, by go_num, by omega, by simp [ba_app], by simp; omega, rfl⟩
          case measure => simp [intOf]; omega
        · go_wp2_with fail
          refine (HP10.out _).mono ?_; rintro e w' ⟨rfl, J3, d3, rfl⟩
          have hbW : Below w.heap.size w (wo.plus (J ++ J3) d3) := by rw [HW.out]; (repeat' first | with_reducible (first | apply Below.refl | assumption | apply bw_a | apply bw_d | apply bw_n | apply bw_p | apply bw_c | apply bw_r) | go_size)
          simp only [plus_plus]
          generalize wo.plus (J ++ J3) d3 = W at *
          have HBW := Lib.hid hbW
          have hsW := hbW.size
          clear hbW
          have HT1 := Lib.hid (HTS.out L (by omega))
          have HR1 := Lib.hid (HRS.out L (by omega))
          have hX40 := told_len L
          generalize toldT L = X at *
          generalize (faultT L).1 = f at *
          generalize ((faultT L).2 : Int) = g at *
          clear HTS HRS
          go_wp2_with fail
          refine (HT1.out _).mono ?_; rintro e w4 ⟨a4, cap4, J4, d4, rfl, hw4, hR4, _, _⟩
          rw [← hw4] at hR4
          have HR4 := Lib.hid hR4
          have HB4 := Lib.hid (bw_j HBW.out HBW.out.size ⟨J4, d4, hw4⟩)
          have hs4 := HB4.out.size
          clear hR4 hw4
          go_wp2_with fail
          refine (HR1.out _).mono ?_; rintro e w5 ⟨a5, cap5, J5, d5, rfl, rfl, hR5, _, _⟩
          have HR5 := Lib.hid hR5
          clear hR5
          go_wp2_with fail
          refine (HS.out X _ _ _ _ _ _ _ (by omega) (by omega) (HR4.out.below (by (repeat' first | with_reducible (first | apply Below.refl | assumption | apply bw_a | apply bw_d | apply bw_n | apply bw_p | apply bw_c | apply bw_r) | go_size))) (HR5.out.below (by (repeat' first | with_reducible (first | apply Below.refl | assumption | apply bw_a | apply bw_d | apply bw_n | apply bw_p | apply bw_c | apply bw_r) | go_size)))).mono ?_; rintro e w' ⟨rfl, J8, d8, rfl⟩
          go_wp2_with fail
          refine (HA.out _).mono ?_; rintro e w' ⟨rfl, J9, d9, rfl⟩
          go_wp2
          go_ret
          exact ⟨rfl, junk_of_below (by have := HB4.out; (repeat' first | with_reducible (first | apply Below.refl | assumption | apply bw_a | apply bw_d | apply bw_n | apply bw_p | apply bw_c | apply bw_r) | go_size))⟩
end Go.Proofs.Ytpoahdfhhnlghaa

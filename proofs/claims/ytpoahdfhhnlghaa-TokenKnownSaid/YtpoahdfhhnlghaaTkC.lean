/- Contracts of apportionref15's word, kind, next. -/
import Derived.Test.YtpoahdfhhnlghaaTkB
namespace Go.Proofs.Ytpoahdfhhnlghaa
set_option linter.unusedVariables false
set_option linter.unusedSimpArgs false
open Go.RowKit

theorem wd_n (s : List UInt8) (i : Nat) : wdAt s i = (sndN (byteAt s i) || (joinN (byteAt s i) && decide (0 < i) && decide (i + 1 < s.length) && sndN (byteAt s (i - 1)) && sndN (byteAt s (i + 1)))) := rfl
set_option maxRecDepth 100000 in
set_option maxHeartbeats 1000000 in
theorem r_tkWord (s : List UInt8) (i : Nat) (w : World) (hl : s.length ≤ 1099511627776) (hi : i < s.length) :
    Calls Try.prog 33 #[.string ⟨s.toArray⟩, .int .i64 (i : Int)] w fun e w' => e = .returned (.bool (wdAt s i)) ∧ w' = w := by
  have HS := Lib.hid (fun n w' => r_tkSound n w')
  have HJ := Lib.hid (fun n w' => r_tkJoins n w')
  rw [wd_n]
  cases c1 : sndN (byteAt s i) with
  | true =>
    have H1 := HS.out (byteAt s i)
    rw [c1] at H1
    have H1 := Lib.hid H1
    clear c1 HS HJ
    go_enter Try.func33, Try.ntmps33
    go_wp2_with fail
    refine (H1.out _).mono ?_; rintro e w' ⟨rfl, hw⟩; rw [hw]; clear hw
    go_wp2
    go_ret
    exact ⟨by rw [Bool.true_or]; rfl, rfl⟩
  | false =>
    have H1 := HS.out (byteAt s i)
    rw [c1] at H1
    have H1 := Lib.hid H1
    rw [Bool.false_or]
    cases c2 : joinN (byteAt s i) with
    | false =>
      have H2 := HJ.out (byteAt s i)
      rw [c2] at H2
      have H2 := Lib.hid H2
      clear c1 c2 HS HJ
      go_enter Try.func33, Try.ntmps33
      go_wp2_with fail
      refine (H1.out _).mono ?_; rintro e w' ⟨rfl, hw⟩; rw [hw]; clear hw
      go_wp2_with fail
      refine (H2.out _).mono ?_; rintro e w' ⟨rfl, hw⟩; rw [hw]; clear hw
      go_wp2
      go_ret
      exact ⟨rfl, rfl⟩
    | true =>
      have H2 := HJ.out (byteAt s i)
      rw [c2] at H2
      have H2 := Lib.hid H2
      rw [Bool.true_and]
      by_cases h0 : 0 < i
      · obtain ⟨m, rfl⟩ : ∃ m, i = m + 1 := ⟨i - 1, by omega⟩
        rw [decide_eq_true h0, Bool.true_and, Nat.add_sub_cancel]
        by_cases h1 : m + 1 + 1 < s.length
        · rw [decide_eq_true h1, Bool.true_and]
          cases c3 : sndN (byteAt s m) with
          | false =>
            have H3 := HS.out (byteAt s m)
            rw [c3] at H3
            have H3 := Lib.hid H3
            clear c1 c2 c3 HS HJ
            have hm : m < s.length := by omega
            go_enter Try.func33, Try.ntmps33
            go_wp2_with fail
            refine (H1.out _).mono ?_; rintro e w' ⟨rfl, hw⟩; rw [hw]; clear hw
            go_wp2_with fail
            refine (H2.out _).mono ?_; rintro e w' ⟨rfl, hw⟩; rw [hw]; clear hw
            go_wp2_with fail
            refine (H3.out _).mono ?_; rintro e w' ⟨rfl, hw⟩; rw [hw]; clear hw
            go_wp2
            go_ret
            exact ⟨rfl, rfl⟩
          | true =>
            have H3 := HS.out (byteAt s m)
            rw [c3] at H3
            have H3 := Lib.hid H3
            have H4 := Lib.hid (HS.out (byteAt s (m + 1 + 1)))
            rw [Bool.true_and]
            clear c1 c2 c3 HS HJ
            have hm : m < s.length := by omega
            go_enter Try.func33, Try.ntmps33
            go_wp2_with fail
            refine (H1.out _).mono ?_; rintro e w' ⟨rfl, hw⟩; rw [hw]; clear hw
            go_wp2_with fail
            refine (H2.out _).mono ?_; rintro e w' ⟨rfl, hw⟩; rw [hw]; clear hw
            go_wp2_with fail
            refine (H3.out _).mono ?_; rintro e w' ⟨rfl, hw⟩; rw [hw]; clear hw
            go_wp2_with fail
            refine (H4.out _).mono ?_; rintro e w' ⟨rfl, hw⟩; rw [hw]; clear hw
            go_wp2
            go_ret
            exact ⟨rfl, rfl⟩
        · rw [decide_eq_false h1, Bool.false_and]
          clear c1 c2 HS HJ
          go_enter Try.func33, Try.ntmps33
          go_wp2_with fail
          refine (H1.out _).mono ?_; rintro e w' ⟨rfl, hw⟩; rw [hw]; clear hw
          go_wp2_with fail
          refine (H2.out _).mono ?_; rintro e w' ⟨rfl, hw⟩; rw [hw]; clear hw
          go_wp2
          go_ret
          exact ⟨rfl, rfl⟩
      · obtain rfl : i = 0 := by omega
        rw [decide_eq_false h0, Bool.false_and, Bool.false_and]
        clear c1 c2 HS HJ h0
        go_enter Try.func33, Try.ntmps33
        go_wp2_with fail
        refine (H1.out _).mono ?_; rintro e w' ⟨rfl, hw⟩; rw [hw]; clear hw
        go_wp2_with fail
        refine (H2.out _).mono ?_; rintro e w' ⟨rfl, hw⟩; rw [hw]; clear hw
        go_wp2
        go_ret
        exact ⟨rfl, rfl⟩

theorem all_dig {t : List UInt8} {k : Nat} (hk : k < t.length) (h : digN (byteAt t k) = false) : t.all digB = false := by
  rw [List.all_eq_false]
  refine ⟨t[k], List.getElem_mem hk, ?_⟩
  have : byteAt t k = t[k].toNat := by simp [byteAt, List.getD_eq_getElem?_getD, hk]
  rw [dig_n, ← this, h]; decide
theorem all_digs {t : List UInt8} (h : ∀ j, j < t.length → digN (byteAt t j) = true) : t.all digB = true := by
  rw [List.all_eq_true]
  intro c hc
  obtain ⟨j, hj, rfl⟩ := List.mem_iff_getElem.1 hc
  have : byteAt t j = t[j].toNat := by simp [byteAt, List.getD_eq_getElem?_getD, hj]
  rw [dig_n, ← this]; exact h j hj
theorem head_n {t : List UInt8} (h : 0 < t.length) : letB (t.headD 0) = letN (byteAt t 0) := by
  cases t with
  | nil => cases h
  | cons c r => rfl
set_option maxRecDepth 100000 in
theorem r_tkKind (t : List UInt8) (w : World) (hl : t.length ≤ 1099511627776) (h0 : 0 < t.length) :
    Calls Try.prog 34 #[.string ⟨t.toArray⟩] w fun e w' => e = .returned (.int .i64 (kindT t)) ∧ w' = w := by
  have HL := Lib.hid (fun n w' => r_tkLetter n w')
  have HD := Lib.hid (fun n w' => r_tkDigit n w')
  unfold kindT
  rw [head_n h0]
  cases c1 : letN (byteAt t 0) with
  | true =>
    have H1 := HL.out (byteAt t 0)
    rw [c1] at H1
    have H1 := Lib.hid H1
    clear c1 HL HD
    go_enter Try.func34, Try.ntmps34
    go_wp2_with fail
    refine (H1.out _).mono ?_; rintro e w' ⟨rfl, hw⟩; rw [hw]; clear hw
    go_wp2
    go_ret
    exact ⟨rfl, rfl⟩
  | false =>
    have H1 := HL.out (byteAt t 0)
    rw [c1] at H1
    have H1 := Lib.hid H1
    rw [if_neg (by decide)]
    obtain ⟨r, hr⟩ : ∃ r : Int, (if t.all digB = true then (2 : Int) else 3) = r := ⟨_, rfl⟩
    rw [hr]
    have HR := Lib.hid hr
    clear hr c1
    go_enter Try.func34, Try.ntmps34
    go_wp2_with fail
    refine (H1.out _).mono ?_; rintro e w' ⟨rfl, hw⟩; rw [hw]; clear hw
    go_wp2_with fail
    go_loopw [3] (fun i wr => ∃ k : Nat, i = .int .i64 (k : Int) ∧ k ≤ t.length ∧ (∀ j, j < k → digN (byteAt t j) = true) ∧ wr = w) (fun i _ => t.length - (intOf i).toNat)
    case atStart => exact ⟨0, rfl, Nat.zero_le _, fun j hj => absurd hj (Nat.not_lt_zero _), rfl⟩
    case round =>
      obtain ⟨k, rfl, hk, hd, rfl⟩ := hrel
      have HDD := Lib.hid hd
      clear hd
      by_cases hlt : k < t.length
      · have H2 := HD.out (byteAt t k)
        cases c2 : digN (byteAt t k) with
        | false =>
          rw [c2] at H2
          have H2 := Lib.hid H2
          have HA := Lib.hid (all_dig hlt c2)
          clear c2
          go_wp2_with fail
          refine (H2.out _).mono ?_; rintro e w' ⟨rfl, hw⟩; rw [hw]; clear hw
          go_wp2
          go_ret
          exact ⟨by rw [← HR.out, HA.out]; rfl, rfl⟩
        | true =>
          rw [c2] at H2
          have H2 := Lib.hid H2
          have HC2 := Lib.hid c2
          clear c2
          go_wp2_with fail
          refine (H2.out _).mono ?_; rintro e w' ⟨rfl, hw⟩; rw [hw]; clear hw
          go_wp2_with fail
          go_roundw
          case rel => exact ⟨k + 1, by go_num, by omega, fun j hj => (Nat.lt_or_ge j k).elim (fun h => HDD.out j h) (fun h => by rw [show j = k by omega]; exact HC2.out), trivial⟩
          case measure => simp [intOf]; omega
      · obtain rfl : k = t.length := by omega
        have HA := Lib.hid (all_digs HDD.out)
        go_wp2
        go_ret
        exact ⟨by rw [← HR.out, HA.out]; rfl, rfl⟩

/-- What there is at a place, and where it ends. -/
def NextT (s : List UInt8) (i : Nat) (t : Tk) (e : Nat) : Prop :=
  (wdAt s i = false ∧ s.getD i 0 = 44 ∧ t = (4, [44]) ∧ e = i + 1) ∨ (wdAt s i = false ∧ s.getD i 0 = 35 ∧ t = (5, [35]) ∧ e = i + 1) ∨
  (wdAt s i = false ∧ s.getD i 0 ≠ 44 ∧ s.getD i 0 ≠ 35 ∧ t = (0, []) ∧ e = i + 1) ∨
  (i < e ∧ e ≤ s.length ∧ (∀ j, i ≤ j → j < e → wdAt s j = true) ∧ (e < s.length → wdAt s e = false) ∧ t = (kindT (partT s i e), partT s i e))
def tkV (t : Tk) : Value := .agg #[.int .i64 t.1, .string ⟨t.2.toArray⟩]
def NextR (s : List UInt8) (i : Nat) (w : World) (e : Ending) (w' : World) : Prop := ∃ t k, NextT s i t k ∧ e = .returned (.tuple #[tkV t, .int .i64 (k : Nat)]) ∧ Junk w w'
theorem wd_sep {s : List UInt8} {i : Nat} (h : s.getD i 0 = 44 ∨ s.getD i 0 = 35) : wdAt s i = false := by
  unfold wdAt
  rcases h with h | h <;> rw [h] <;> rfl
end Go.Proofs.Ytpoahdfhhnlghaa

/- Contracts of money's scan, value and Parse. Condition: the text is at most 1000 bytes long. -/
import Derived.Test.YtgnmoneiiogoaaaMonN
namespace Go.Proofs.Ytgnmoneiiogoaaa
set_option linter.unusedVariables false
set_option linter.unusedSimpArgs false
open Go.RowKit

/-- The state behind so many bytes. -/
def runS (L : List UInt8) : Nat → Nat
  | 0 => 0
  | i + 1 => nextS (runS L i) (byteAt L i)
theorem nextS_le (s b : Nat) : nextS s b ≤ 7 := by
  unfold nextS; (repeat' split) <;> omega
theorem runS_le (L : List UInt8) (i : Nat) : runS L i ≤ 7 := by cases i with | zero => simp [runS] | succ i => exact nextS_le _ _

def goS (L : List UInt8) (i : Nat) : Bool := decide (i < L.length) && decide (runS L (i + 1) ≠ 7)
/-- How many bytes begin a text of hundredths. -/
def scanAt (L : List UInt8) : Nat := firstStop (goS L) (L.length + 1) 0
theorem scanAt_spec (L : List UInt8) : (∀ j, j < scanAt L → goS L j = true) ∧ goS L (scanAt L) = false ∧ scanAt L ≤ L.length := by
  obtain ⟨a, b, c, d⟩ := firstStop_spec (goS L) (L.length + 1) 0 ⟨L.length, by omega, by omega, by unfold goS; rw [decide_eq_false (by omega)]; rfl⟩
  refine ⟨fun j hj => a j (by omega) hj, b, ?_⟩
  have : ¬ (L.length < scanAt L) := fun h => by
    have := a L.length (by omega) h
    unfold goS at this; rw [decide_eq_false (by omega)] at this; cases this
  omega
theorem scanAt_run (L : List UInt8) (i : Nat) (h : i ≤ scanAt L) : runS L i ≤ 6 := by
  cases i with
  | zero => simp [runS]
  | succ i =>
    have := (scanAt_spec L).1 i (by omega)
    unfold goS at this; simp at this
    have := runS_le L (i + 1)
    omega

set_option maxHeartbeats 1000000 in
theorem n_scan (L : List UInt8) (w : World) (hl : L.length ≤ 1000) :
    Calls Try.prog 52 #[.string ⟨L.toArray⟩] w fun e w' => e = .returned (.tuple #[.int .i64 (scanAt L : Nat), .bool (decide (L.length ≤ scanAt L) && decide (runS L L.length = 6))]) ∧ w = w' := by
  obtain ⟨s1, s2, s3⟩ := scanAt_spec L
  have HR := Lib.hid (scanAt_run L)
  have H1 := Lib.hid s1; have H2 := Lib.hid s2
  obtain ⟨c, hc⟩ : ∃ c, c = (decide (L.length ≤ scanAt L) && decide (runS L L.length = 6)) := ⟨_, rfl⟩
  rw [← hc]
  have HC := Lib.hid hc
  generalize scanAt L = K at *
  clear s1 s2 hc
  go_enter Try.func52, Try.ntmps52
  go_wp2_with fail
  go_loopw [4, 8] (fun s i wr => ∃ k : Nat, i = .int .i64 k ∧ k ≤ K ∧ s = .int .i64 (runS L k : Nat) ∧ wr = w) (fun _ i _ => L.length - (intOf i).toNat)
  case atStart => exact ⟨0, rfl, Nat.zero_le _, rfl, rfl⟩
  case round =>
    obtain ⟨k, rfl, hk, rfl, rfl⟩ := hrel
    have h6 := HR.out k hk
    by_cases hlt : k < L.length
    · have HN := Lib.hid (fun w => n_next (runS L k) (byteAt L k) h6 w)
      rw [← (show runS L (k + 1) = nextS (runS L k) (byteAt L k) from rfl)] at HN
      by_cases hkk : k < K
      · have h7 := HR.out (k + 1) hkk
        generalize hq : runS L (k + 1) = q at *
        have HQ := Lib.hid hq
        generalize runS L k = s at *
        have e7 : ((q : Int) == 7) = false := by rw [beq_eq_false_iff_ne]; omega
        clear hq h6 h7
        go_wp2_with fail
        refine (HN.out _).mono ?_; rintro e w' ⟨rfl, rfl⟩
        go_wp2_with fail
        go_roundw
        case rel => exact ⟨k + 1, by go_num, by omega, by rw [HQ.out], trivial⟩
        case measure => simp [intOf]; omega
      · obtain rfl : k = K := by omega
        have h7 := H2.out
        unfold goS at h7
        rw [decide_eq_true hlt] at h7
        have h7 : runS L (k + 1) = 7 := by simpa using h7
        rw [h7] at HN
        obtain rfl : c = false := by rw [HC.out, decide_eq_false (by omega), Bool.false_and]
        generalize runS L k = s at *
        clear h7 h6
        go_wp2_with fail
        refine (HN.out _).mono ?_; rintro e w' ⟨rfl, rfl⟩
        go_wp2_with fail
        go_ret2
        exact ⟨rfl, rfl⟩
    · obtain rfl : k = L.length := by omega
      obtain rfl : L.length = K := by omega
      have HC2 := Lib.hid (show c = decide (runS L L.length = 6) by rw [HC.out, decide_eq_true (Nat.le_refl _), Bool.true_and])
      generalize hq : runS L L.length = q at *
      have eb : ((q : Int) == 6) = c := by
        rw [HC2.out]
        by_cases h : q = 6
        · subst h; rfl
        · rw [decide_eq_false h, beq_eq_false_iff_ne]; omega
      have EB := Lib.hid eb
      clear hq h6 eb
      go_wp2_with fail
      go_ret2
      exact ⟨by rw [← EB.out]; rfl, rfl⟩

/-- The hundredths that a text tells, no further than so many bytes. -/
def foldV (L : List UInt8) : Nat → Int
  | 0 => 0
  | i + 1 => if isDig (byteAt L i) then min (10 * foldV L i + ((byteAt L i : Int) - 48)) 1099511627776 else foldV L i
theorem foldV_bd (L : List UInt8) : ∀ i, 0 ≤ foldV L i ∧ foldV L i ≤ 1099511627776
  | 0 => by simp [foldV]
  | i + 1 => by
    have := foldV_bd L i
    unfold foldV
    split
    · rename_i h
      unfold isDig at h; simp at h
      omega
    · exact this

set_option maxHeartbeats 1000000 in
theorem n_value (L : List UInt8) (w : World) (h0 : 0 < L.length) (hl : L.length ≤ 1000) :
    Calls Try.prog 53 #[.string ⟨L.toArray⟩] w fun e w' => e = .returned (.int .i64 (if byteAt L 0 = 45 then - foldV L L.length else foldV L L.length)) ∧ w = w' := by
  have HF := Lib.hid (foldV_bd L)
  obtain ⟨r, hr⟩ : ∃ r, r = if byteAt L 0 = 45 then - foldV L L.length else foldV L L.length := ⟨_, rfl⟩
  rw [← hr]
  have HR := Lib.hid hr
  clear hr
  go_enter Try.func53, Try.ntmps53
  go_wp2_with fail
  go_loopw [3, 7] (fun s i wr => ∃ k : Nat, i = .int .i64 k ∧ k ≤ L.length ∧ s = .int .i64 (foldV L k) ∧ wr = w) (fun _ i _ => L.length - (intOf i).toNat)
  case atStart => exact ⟨0, rfl, Nat.zero_le _, rfl, rfl⟩
  case round =>
    obtain ⟨k, rfl, hk, rfl, rfl⟩ := hrel
    obtain ⟨f0, f1⟩ := HF.out k
    by_cases hlt : k < L.length
    · have HN := Lib.hid (fun w => n_isDigit (byteAt L k) w)
      by_cases hd : isDig (byteAt L k) = true
      · have hs : foldV L (k + 1) = min (10 * foldV L k + ((byteAt L k : Int) - 48)) 1099511627776 := by rw [foldV, if_pos hd]
        rw [hd] at HN
        have hb : 48 ≤ byteAt L k ∧ byteAt L k ≤ 57 := by unfold isDig at hd; simp at hd; exact hd
        obtain ⟨b0, b1⟩ := hb
        have HS := Lib.hid hs
        generalize foldV L k = s at *
        clear hd hs
        have e1 : IntKind.u8.wrap ((byteAt L k : Int) - 48) = (byteAt L k : Int) - 48 := by simp [IntKind.wrap, IntKind.signed, IntKind.bits]; omega
        go_wp2_with fail
        refine (HN.out _).mono ?_; rintro e w' ⟨rfl, rfl⟩
        go_wp2_with fail
        go_roundw
        case rel => exact ⟨k + 1, by go_num, by omega, by rw [HS.out], trivial⟩
        case measure => simp [intOf]; omega
      · have hs : foldV L (k + 1) = foldV L k := by rw [foldV, if_neg hd]
        have hd : isDig (byteAt L k) = false := by simpa using hd
        rw [hd] at HN
        have HS := Lib.hid hs
        clear hd hs
        go_wp2_with fail
        refine (HN.out _).mono ?_; rintro e w' ⟨rfl, rfl⟩
        go_wp2_with fail
        go_roundw
        case rel => exact ⟨k + 1, by go_num, by omega, by rw [HS.out], trivial⟩
        case measure => simp [intOf]; omega
    · obtain rfl : k = L.length := by omega
      by_cases h45 : byteAt L 0 = 45
      · have HR2 := Lib.hid (show r = - foldV L L.length by rw [HR.out, if_pos h45])
        generalize foldV L L.length = s at *
        have e45 : ((byteAt L 0 : Int) == 45) = true := by rw [h45]; rfl
        go_wp2_with fail
        go_ret
        exact ⟨ret1 HR2.out.symm, rfl⟩
      · have HR2 := Lib.hid (show r = foldV L L.length by rw [HR.out, if_neg h45])
        generalize foldV L L.length = s at *
        have e45 : ((byteAt L 0 : Int) == 45) = false := by rw [beq_eq_false_iff_ne]; omega
        go_wp2_with fail
        go_ret
        exact ⟨ret1 HR2.out.symm, rfl⟩

/-- What money.Parse answers: the amount, the fault's name, and where. -/
def valS (L : List UInt8) : Int := if byteAt L 0 = 45 then - foldV L L.length else foldV L L.length
def parseS (L : List UInt8) : Int × Int × Int :=
  if 20 < L.length then (0, 3, 0) else
  if scanAt L < L.length ∨ runS L L.length ≠ 6 then (0, 4, (scanAt L : Nat)) else
  if amtErr (valS L) ≠ 0 ∨ L = [45, 48, 46, 48, 48] then (0, 5, 0) else (valS L, 0, 0)

theorem minus_eq (L : List UInt8) : (L == [45, 48, 46, 48, 48]) = decide (L = [45, 48, 46, 48, 48]) := by
  rw [Bool.eq_iff_iff]; simp

set_option maxHeartbeats 1000000 in
theorem n_Parse (L : List UInt8) (w : World) (hl : L.length ≤ 1000) (r : Int × Int × Int) (hr : Hid (parseS L = r)) :
    Calls Try.prog 39 #[.string ⟨L.toArray⟩] w fun e w' => e = .returned (.tuple #[.int .i64 r.1, .agg #[.int .i64 r.2.1, .int .i64 r.2.2]]) ∧ Junk w w' := by
  by_cases h20 : 20 < L.length
  · obtain rfl : r = (0, 3, 0) := by rw [← hr.out]; unfold parseS; rw [if_pos h20]
    go_enter Try.func39, Try.ntmps39
    go_wp2
    refine bodyPost_ret (results_fault rfl _ _ w.heap.size #[.int .i64 3, .int .i64 0] rfl (by simp [go_sem]) rfl) rfl ⟨rfl, junk_of_below (by (repeat' (first | (with_reducible exact Below.refl _ _) | (with_reducible assumption) | (with_reducible refine Below.alloc ?_ ?_ _) | (with_reducible refine Below.drew ?_) | (with_reducible refine below_drewN ?_ _) | (with_reducible refine below_plus ?_ ?_ _ _) | (with_reducible refine Below.setCell ?_ ?_ _) | (with_reducible refine Below.setRow ?_ ?_ _) | go_size)))⟩
  have HS := n_scan L
  obtain ⟨c, hc⟩ : ∃ c, c = (decide (L.length ≤ scanAt L) && decide (runS L L.length = 6)) := ⟨_, rfl⟩
  rw [← hc] at HS
  cases c with
  | false =>
    have hbad : scanAt L < L.length ∨ runS L L.length ≠ 6 := by
      have := hc.symm; simp at this
      by_cases h : L.length ≤ scanAt L
      · exact .inr (this h)
      · exact .inl (by omega)
    obtain rfl : r = (0, 4, ((scanAt L : Nat) : Int)) := by rw [← hr.out]; unfold parseS; rw [if_neg h20, if_pos hbad]
    have HS := Lib.hid HS
    generalize scanAt L = K at *
    clear hc hbad hr
    go_enter Try.func39, Try.ntmps39
    go_wp2_with fail
    refine (HS.out _ hl).mono ?_; rintro e w' ⟨rfl, rfl⟩
    go_wp2
    refine bodyPost_ret (results_fault rfl _ _ w.heap.size #[.int .i64 4, .int .i64 K] rfl (by simp [go_sem]) rfl) rfl ⟨rfl, junk_of_below (by (repeat' (first | (with_reducible exact Below.refl _ _) | (with_reducible assumption) | (with_reducible refine Below.alloc ?_ ?_ _) | (with_reducible refine Below.drew ?_) | (with_reducible refine below_drewN ?_ _) | (with_reducible refine below_plus ?_ ?_ _ _) | (with_reducible refine Below.setCell ?_ ?_ _) | (with_reducible refine Below.setRow ?_ ?_ _) | go_size)))⟩
  | true =>
    have hgood : ¬ (scanAt L < L.length ∨ runS L L.length ≠ 6) := by
      have := hc.symm; simp at this; omega
    have h0 : 0 < L.length := by
      rcases Nat.eq_zero_or_pos L.length with h | h
      · exfalso; apply hgood; right; rw [h]; simp [runS]
      · exact h
    have HV := Lib.hid (fun w => n_value L w h0 hl)
    change Hid (∀ w, Calls _ _ _ _ fun e w' => e = .returned (.int .i64 (valS L)) ∧ _) at HV
    have HC := Lib.hid (n_Check (valS L))
    have HR := Lib.hid (show r = if amtErr (valS L) ≠ 0 ∨ L = [45, 48, 46, 48, 48] then (0, 5, 0) else (valS L, 0, 0) by rw [← hr.out]; unfold parseS; rw [if_neg h20, if_neg hgood])
    have HS := Lib.hid HS
    have HM := minus_eq L
    generalize scanAt L = K at *
    rcases amtErr_two (valS L) with ⟨h1, a0, a1⟩ | ⟨h1, h2⟩
    · rw [h1] at HC
      by_cases hm : L = [45, 48, 46, 48, 48]
      · obtain rfl : r = (0, 5, 0) := by rw [HR.out]; exact if_pos (.inr hm)
        rw [decide_eq_true hm] at HM
        generalize valS L = v at *
        clear hm hc hgood h1 a0 a1 hr HR
        go_enter Try.func39, Try.ntmps39
        go_wp2_with fail
        refine (HS.out _ hl).mono ?_; rintro e w' ⟨rfl, rfl⟩
        go_wp2_with fail
        refine (HV.out _).mono ?_; rintro e w' ⟨rfl, rfl⟩
        go_wp2_with fail
        refine (HC.out _).mono ?_; rintro e w' ⟨rfl, rfl⟩
        go_wp2
        refine bodyPost_ret (results_fault rfl _ _ w.heap.size #[.int .i64 5, .int .i64 0] rfl (by simp [go_sem]) rfl) rfl ⟨rfl, junk_of_below (by (repeat' (first | (with_reducible exact Below.refl _ _) | (with_reducible assumption) | (with_reducible refine Below.alloc ?_ ?_ _) | (with_reducible refine Below.drew ?_) | (with_reducible refine below_drewN ?_ _) | (with_reducible refine below_plus ?_ ?_ _ _) | (with_reducible refine Below.setCell ?_ ?_ _) | (with_reducible refine Below.setRow ?_ ?_ _) | go_size)))⟩
      · obtain rfl : r = (valS L, 0, 0) := by rw [HR.out]; exact if_neg (fun h => by rcases h with h | h; exact h h1; exact hm h)
        rw [decide_eq_false hm] at HM
        generalize valS L = v at *
        clear hm hc hgood h1 a0 a1 hr HR
        go_enter Try.func39, Try.ntmps39
        go_wp2_with fail
        refine (HS.out _ hl).mono ?_; rintro e w' ⟨rfl, rfl⟩
        go_wp2_with fail
        refine (HV.out _).mono ?_; rintro e w' ⟨rfl, rfl⟩
        go_wp2_with fail
        refine (HC.out _).mono ?_; rintro e w' ⟨rfl, rfl⟩
        go_wp2
        refine bodyPost_ret (results_fault rfl _ _ w.heap.size #[.int .i64 0, .int .i64 0] rfl (by simp [go_sem]) rfl) rfl ⟨rfl, junk_of_below (by (repeat' (first | (with_reducible exact Below.refl _ _) | (with_reducible assumption) | (with_reducible refine Below.alloc ?_ ?_ _) | (with_reducible refine Below.drew ?_) | (with_reducible refine below_drewN ?_ _) | (with_reducible refine below_plus ?_ ?_ _ _) | (with_reducible refine Below.setCell ?_ ?_ _) | (with_reducible refine Below.setRow ?_ ?_ _) | go_size)))⟩
    · rw [h1] at HC
      obtain rfl : r = (0, 5, 0) := by rw [HR.out]; exact if_pos (.inl (by rw [h1]; decide))
      generalize valS L = v at *
      clear hc hgood h1 h2 hr HR HM
      go_enter Try.func39, Try.ntmps39
      go_wp2_with fail
      refine (HS.out _ hl).mono ?_; rintro e w' ⟨rfl, rfl⟩
      go_wp2_with fail
      refine (HV.out _).mono ?_; rintro e w' ⟨rfl, rfl⟩
      go_wp2_with fail
      refine (HC.out _).mono ?_; rintro e w' ⟨rfl, rfl⟩
      go_wp2
      refine bodyPost_ret (results_fault rfl _ _ w.heap.size #[.int .i64 5, .int .i64 0] rfl (by simp [go_sem]) rfl) rfl ⟨rfl, junk_of_below (by (repeat' (first | (with_reducible exact Below.refl _ _) | (with_reducible assumption) | (with_reducible refine Below.alloc ?_ ?_ _) | (with_reducible refine Below.drew ?_) | (with_reducible refine below_drewN ?_ _) | (with_reducible refine below_plus ?_ ?_ _ _) | (with_reducible refine Below.setCell ?_ ?_ _) | (with_reducible refine Below.setRow ?_ ?_ _) | go_size)))⟩
end Go.Proofs.Ytgnmoneiiogoaaa

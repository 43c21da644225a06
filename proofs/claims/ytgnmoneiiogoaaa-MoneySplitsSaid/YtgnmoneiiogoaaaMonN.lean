/- Contracts of money's isDigit, next, scan and value. Conditions: bytes are bytes, states are states, the text is at most 20 bytes long. -/
import Derived.Test.YtgnmoneiiogoaaaMonB0
import Derived.Test.YtgnmoneiiogoaaaMonW
namespace Go.Proofs.Ytgnmoneiiogoaaa
set_option linter.unusedVariables false
set_option linter.unusedSimpArgs false
open Go.RowKit

def isDig (b : Nat) : Bool := decide (48 ≤ b) && decide (b ≤ 57)

theorem n_isDigit (b : Nat) (w : World) : Calls Try.prog 61 #[.int .u8 b] w fun e w' => e = .returned (.bool (isDig b)) ∧ w = w' := by
  unfold isDig
  by_cases h1 : 48 ≤ b
  · by_cases h2 : b ≤ 57
    · rw [decide_eq_true h1, decide_eq_true h2]
      go_enter Try.func61, Try.ntmps61
      go_wp2
      go_ret
      exact ⟨by first | (simp [*]; done) | (simp [*]; omega), rfl⟩
    · rw [decide_eq_true h1, decide_eq_false h2]
      go_enter Try.func61, Try.ntmps61
      go_wp2
      go_ret
      exact ⟨by first | (simp [*]; done) | (simp [*]; omega), rfl⟩
  · rw [decide_eq_false h1]
    go_enter Try.func61, Try.ntmps61
    go_wp2
    go_ret
    exact ⟨by first | (simp [*]; done) | (simp [*]; omega), rfl⟩

/-- The state behind a byte. -/
def nextS (s b : Nat) : Nat :=
  if s = 0 then (if b = 45 then 1 else if b = 48 then 2 else if isDig b then 3 else 7)
  else if s = 1 then (if b = 48 then 2 else if isDig b then 3 else 7)
  else if s = 2 then (if b = 46 then 4 else 7)
  else if s = 3 then (if b = 46 then 4 else if isDig b then 3 else 7)
  else if s = 4 then (if isDig b then 5 else 7)
  else if s = 5 then (if isDig b then 6 else 7)
  else 7

theorem n_next_core (s b : Nat) (hs : s ≤ 6) (g : Bool) (hg : g = isDig b) (r : Nat) (hr : r = nextS s b) (w : World) (H : Hid (∀ w, Calls Try.prog 61 #[.int .u8 b] w fun e w' => e = .returned (.bool g) ∧ w = w')) :
    Calls Try.prog 60 #[.int .i64 s, .int .u8 b] w fun e w' => e = .returned (.int .i64 r) ∧ w = w' := by
  have HG := Lib.hid hg
  have HR := Lib.hid hr
  clear hg hr
  rcases (show s = 0 ∨ s = 1 ∨ s = 2 ∨ s = 3 ∨ s = 4 ∨ s = 5 ∨ s = 6 by omega) with rfl | rfl | rfl | rfl | rfl | rfl | rfl
  · by_cases c45 : b = 45
    · subst c45
      obtain rfl : g = false := HG.out
      obtain rfl : r = 1 := HR.out
      go_enter Try.func60, Try.ntmps60
      go_wp2_with fail
      refine (H.out _).mono ?_; rintro e w' ⟨rfl, rfl⟩
      go_wp2
      go_ret
      exact ⟨rfl, rfl⟩
    have e45 : ((b : Int) == 45) = false := by rw [beq_eq_false_iff_ne]; omega
    by_cases c48 : b = 48
    · subst c48
      obtain rfl : g = true := HG.out
      obtain rfl : r = 2 := HR.out
      go_enter Try.func60, Try.ntmps60
      go_wp2_with fail
      refine (H.out _).mono ?_; rintro e w' ⟨rfl, rfl⟩
      go_wp2
      go_ret
      exact ⟨rfl, rfl⟩
    have e48 : ((b : Int) == 48) = false := by rw [beq_eq_false_iff_ne]; omega
    by_cases cd : 48 ≤ b ∧ b ≤ 57
    · obtain rfl : g = true := by rw [HG.out]; unfold isDig; simp; omega
      obtain rfl : r = 3 := by rw [HR.out]; simp [nextS, isDig, cd, c45, c48]
      go_enter Try.func60, Try.ntmps60
      go_wp2_with fail
      refine (H.out _).mono ?_; rintro e w' ⟨rfl, rfl⟩
      go_wp2
      go_ret
      exact ⟨rfl, rfl⟩
    obtain rfl : g = false := by rw [HG.out]; unfold isDig; simp; omega
    have hd : isDig b = false := by unfold isDig; simp; omega
    obtain rfl : r = 7 := by rw [HR.out]; simp [nextS, hd, c45, c48] <;> omega
    go_enter Try.func60, Try.ntmps60
    go_wp2_with fail
    refine (H.out _).mono ?_; rintro e w' ⟨rfl, rfl⟩
    go_wp2
    go_ret
    exact ⟨rfl, rfl⟩
  · by_cases c45 : b = 45
    · subst c45
      obtain rfl : g = false := HG.out
      obtain rfl : r = 7 := HR.out
      go_enter Try.func60, Try.ntmps60
      go_wp2_with fail
      refine (H.out _).mono ?_; rintro e w' ⟨rfl, rfl⟩
      go_wp2
      go_ret
      exact ⟨rfl, rfl⟩
    have e45 : ((b : Int) == 45) = false := by rw [beq_eq_false_iff_ne]; omega
    by_cases c48 : b = 48
    · subst c48
      obtain rfl : g = true := HG.out
      obtain rfl : r = 2 := HR.out
      go_enter Try.func60, Try.ntmps60
      go_wp2_with fail
      refine (H.out _).mono ?_; rintro e w' ⟨rfl, rfl⟩
      go_wp2
      go_ret
      exact ⟨rfl, rfl⟩
    have e48 : ((b : Int) == 48) = false := by rw [beq_eq_false_iff_ne]; omega
    by_cases cd : 48 ≤ b ∧ b ≤ 57
    · obtain rfl : g = true := by rw [HG.out]; unfold isDig; simp; omega
      obtain rfl : r = 3 := by rw [HR.out]; simp [nextS, isDig, cd, c48]
      go_enter Try.func60, Try.ntmps60
      go_wp2_with fail
      refine (H.out _).mono ?_; rintro e w' ⟨rfl, rfl⟩
      go_wp2
      go_ret
      exact ⟨rfl, rfl⟩
    obtain rfl : g = false := by rw [HG.out]; unfold isDig; simp; omega
    have hd : isDig b = false := by unfold isDig; simp; omega
    obtain rfl : r = 7 := by rw [HR.out]; simp [nextS, hd, c48] <;> omega
    go_enter Try.func60, Try.ntmps60
    go_wp2_with fail
    refine (H.out _).mono ?_; rintro e w' ⟨rfl, rfl⟩
    go_wp2
    go_ret
    exact ⟨rfl, rfl⟩
  · by_cases c46 : b = 46
    · subst c46
      obtain rfl : g = false := HG.out
      obtain rfl : r = 4 := HR.out
      go_enter Try.func60, Try.ntmps60
      go_wp2_with fail
      refine (H.out _).mono ?_; rintro e w' ⟨rfl, rfl⟩
      go_wp2
      go_ret
      exact ⟨rfl, rfl⟩
    have e46 : ((b : Int) == 46) = false := by rw [beq_eq_false_iff_ne]; omega
    cases g
    · obtain rfl : r = 7 := by rw [HR.out]; simp [nextS, c46]
      go_enter Try.func60, Try.ntmps60
      go_wp2_with fail
      refine (H.out _).mono ?_; rintro e w' ⟨rfl, rfl⟩
      go_wp2
      go_ret
      exact ⟨rfl, rfl⟩
    · obtain rfl : r = 7 := by rw [HR.out]; simp [nextS, c46]
      go_enter Try.func60, Try.ntmps60
      go_wp2_with fail
      refine (H.out _).mono ?_; rintro e w' ⟨rfl, rfl⟩
      go_wp2
      go_ret
      exact ⟨rfl, rfl⟩
  · by_cases c46 : b = 46
    · subst c46
      obtain rfl : g = false := HG.out
      obtain rfl : r = 4 := HR.out
      go_enter Try.func60, Try.ntmps60
      go_wp2_with fail
      refine (H.out _).mono ?_; rintro e w' ⟨rfl, rfl⟩
      go_wp2
      go_ret
      exact ⟨rfl, rfl⟩
    have e46 : ((b : Int) == 46) = false := by rw [beq_eq_false_iff_ne]; omega
    by_cases cd : 48 ≤ b ∧ b ≤ 57
    · obtain rfl : g = true := by rw [HG.out]; unfold isDig; simp; omega
      obtain rfl : r = 3 := by rw [HR.out]; simp [nextS, isDig, cd, c46]
      go_enter Try.func60, Try.ntmps60
      go_wp2_with fail
      refine (H.out _).mono ?_; rintro e w' ⟨rfl, rfl⟩
      go_wp2
      go_ret
      exact ⟨rfl, rfl⟩
    obtain rfl : g = false := by rw [HG.out]; unfold isDig; simp; omega
    have hd : isDig b = false := by unfold isDig; simp; omega
    obtain rfl : r = 7 := by rw [HR.out]; simp [nextS, hd, c46] <;> omega
    go_enter Try.func60, Try.ntmps60
    go_wp2_with fail
    refine (H.out _).mono ?_; rintro e w' ⟨rfl, rfl⟩
    go_wp2
    go_ret
    exact ⟨rfl, rfl⟩
  · by_cases cd : 48 ≤ b ∧ b ≤ 57
    · obtain rfl : g = true := by rw [HG.out]; unfold isDig; simp; omega
      obtain rfl : r = 5 := by rw [HR.out]; simp [nextS, isDig, cd]
      go_enter Try.func60, Try.ntmps60
      go_wp2_with fail
      refine (H.out _).mono ?_; rintro e w' ⟨rfl, rfl⟩
      go_wp2
      go_ret
      exact ⟨rfl, rfl⟩
    obtain rfl : g = false := by rw [HG.out]; unfold isDig; simp; omega
    have hd : isDig b = false := by unfold isDig; simp; omega
    obtain rfl : r = 7 := by rw [HR.out]; simp [nextS, hd] <;> omega
    go_enter Try.func60, Try.ntmps60
    go_wp2_with fail
    refine (H.out _).mono ?_; rintro e w' ⟨rfl, rfl⟩
    go_wp2
    go_ret
    exact ⟨rfl, rfl⟩
  · by_cases cd : 48 ≤ b ∧ b ≤ 57
    · obtain rfl : g = true := by rw [HG.out]; unfold isDig; simp; omega
      obtain rfl : r = 6 := by rw [HR.out]; simp [nextS, isDig, cd]
      go_enter Try.func60, Try.ntmps60
      go_wp2_with fail
      refine (H.out _).mono ?_; rintro e w' ⟨rfl, rfl⟩
      go_wp2
      go_ret
      exact ⟨rfl, rfl⟩
    obtain rfl : g = false := by rw [HG.out]; unfold isDig; simp; omega
    have hd : isDig b = false := by unfold isDig; simp; omega
    obtain rfl : r = 7 := by rw [HR.out]; simp [nextS, hd] <;> omega
    go_enter Try.func60, Try.ntmps60
    go_wp2_with fail
    refine (H.out _).mono ?_; rintro e w' ⟨rfl, rfl⟩
    go_wp2
    go_ret
    exact ⟨rfl, rfl⟩
  · cases g
    · obtain rfl : r = 7 := by rw [HR.out]; simp [nextS]
      go_enter Try.func60, Try.ntmps60
      go_wp2_with fail
      refine (H.out _).mono ?_; rintro e w' ⟨rfl, rfl⟩
      go_wp2
      go_ret
      exact ⟨rfl, rfl⟩
    · obtain rfl : r = 7 := by rw [HR.out]; simp [nextS]
      go_enter Try.func60, Try.ntmps60
      go_wp2_with fail
      refine (H.out _).mono ?_; rintro e w' ⟨rfl, rfl⟩
      go_wp2
      go_ret
      exact ⟨rfl, rfl⟩

theorem n_next (s b : Nat) (hs : s ≤ 6) (w : World) : Calls Try.prog 60 #[.int .i64 s, .int .u8 b] w fun e w' => e = .returned (.int .i64 (nextS s b)) ∧ w = w' :=
  n_next_core s b hs _ rfl _ rfl w (Lib.hid (n_isDigit b))
end Go.Proofs.Ytgnmoneiiogoaaa

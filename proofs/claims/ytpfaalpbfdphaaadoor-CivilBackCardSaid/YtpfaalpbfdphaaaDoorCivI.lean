/- Texts of dates: mathematics; contracts of civil's asLaidOut, readDigits, matching. -/
import Derived.Test.YtpfaalpbfdphaaaDoorByt
import Derived.Test.YtpfaalpbfdphaaaDoorCivG
namespace Go.Proofs.YtpfaalpbfdphaaaDoor
set_option linter.unusedVariables false
set_option linter.unusedSimpArgs false
open Go.RowKit

/-- So many digits of a number. -/
def dg : Nat → Nat → List UInt8
  | 0, _ => []
  | j + 1, n => UInt8.ofNat (48 + n / 10 ^ j % 10) :: dg j n
theorem dg_len (j n : Nat) : (dg j n).length = j := by induction j <;> simp_all [dg]
/-- The text of a date. -/
def dateText (y m d : Nat) : List UInt8 := dg 4 y ++ [45] ++ dg 2 m ++ [45] ++ dg 2 d

/-- Does a byte look as a date's text has it there? -/
def okAt (L : List UInt8) (i : Nat) : Bool := decide (i < 10) && (decide (i < L.length) && (if i = 4 ∨ i = 7 then decide (byteAt L i = 45) else decide (48 ≤ byteAt L i ∧ byteAt L i ≤ 57)))
/-- How many bytes do. -/
def goodTo (L : List UInt8) : Nat := firstStop (okAt L) 11 0
theorem good_spec (L : List UInt8) : (∀ j, j < goodTo L → okAt L j = true) ∧ okAt L (goodTo L) = false ∧ goodTo L ≤ 10 ∧ goodTo L ≤ L.length := by
  obtain ⟨a, b, c, d⟩ := firstStop_spec (okAt L) 11 0 ⟨10, by omega, by omega, by unfold okAt; rfl⟩
  refine ⟨fun j hj => a j (by omega) hj, b, ?_, ?_⟩
  · by_cases h : goodTo L ≤ 10
    · exact h
    · have := a 10 (by omega) (by unfold goodTo at h; omega)
      unfold okAt at this; simp at this
  · by_cases h : goodTo L ≤ L.length
    · exact h
    · have := a L.length (by omega) (by unfold goodTo at h; omega)
      unfold okAt at this; simp at this

/-- The number that digits from a place come to. -/
def foldD (L : List UInt8) (a : Nat) : Nat → Int
  | 0 => 0
  | j + 1 => 10 * foldD L a j + ((byteAt L (a + j) : Int) - 48)

def parseC (L : List UInt8) : Int × Int × Int :=
  if goodTo L < 10 ∨ 10 < L.length then (0, 4, (goodTo L : Nat)) else
  ((dayRes (foldD L 0 4) (foldD L 5 2) (foldD L 8 2)).1, (dayRes (foldD L 0 4) (foldD L 5 2) (foldD L 8 2)).2, 0)

theorem ok_digit {L : List UInt8} {i : Nat} (h : okAt L i = true) (h4 : i ≠ 4) (h7 : i ≠ 7) : i < 10 ∧ i < L.length ∧ 48 ≤ byteAt L i ∧ byteAt L i ≤ 57 := by
  unfold okAt at h; rw [if_neg (by omega)] at h; simp at h; omega
theorem ok_dash {L : List UInt8} {i : Nat} (h : okAt L i = true) (h4 : i = 4 ∨ i = 7) : i < 10 ∧ i < L.length ∧ byteAt L i = 45 := by
  unfold okAt at h; rw [if_pos h4] at h; simp at h; omega

def laid (b : Nat) : Nat := if 48 ≤ b ∧ b ≤ 57 then 48 else b
theorem n_asLaidOut (b : Nat) (w : World) : Calls Tryd.prog 36 #[.int .u8 b] w fun e w' => e = .returned (.int .u8 (laid b)) ∧ w = w' := by
  unfold laid
  by_cases c1 : 48 ≤ b
  · by_cases c2 : b ≤ 57
    · rw [if_pos ⟨c1, c2⟩]
      go_enter Tryd.func36, Tryd.ntmps36
      go_wp2
      go_ret
      exact ⟨rfl, rfl⟩
    · rw [if_neg (by omega)]
      go_enter Tryd.func36, Tryd.ntmps36
      go_wp2
      go_ret
      exact ⟨rfl, rfl⟩
  · rw [if_neg (by omega)]
    go_enter Tryd.func36, Tryd.ntmps36
    go_wp2
    go_ret
    exact ⟨rfl, rfl⟩

theorem foldD_bd (L : List UInt8) (a n : Nat) (h : ∀ i, i < n → 48 ≤ byteAt L (a + i) ∧ byteAt L (a + i) ≤ 57) (hn : n ≤ 4) (k : Nat) (hk : k ≤ n) : 0 ≤ foldD L a k ∧ foldD L a k ≤ 9999 ∧ (k ≤ 3 → foldD L a k ≤ 999) ∧ (k ≤ 2 → foldD L a k ≤ 99) ∧ (k ≤ 1 → foldD L a k ≤ 9) ∧ (k = 0 → foldD L a k = 0) := by
  induction k with
  | zero => simp [foldD]
  | succ k ih =>
    have h1 := ih (by omega)
    have h2 := h k (by omega)
    unfold foldD
    refine ⟨by omega, by omega, fun _ => by omega, fun _ => by omega, fun _ => by omega, fun _ => by omega⟩

set_option maxHeartbeats 1000000 in
theorem n_readDigits (L : List UInt8) (hl : L.length ≤ 4) (hd : ∀ i, i < L.length → 48 ≤ byteAt L i ∧ byteAt L i ≤ 57) (w : World) :
    Calls Tryd.prog 35 #[.string ⟨L.toArray⟩] w fun e w' => e = .returned (.int .i64 (foldD L 0 L.length)) ∧ w = w' := by
  have HF := Lib.hid (foldD_bd L 0 L.length (by simpa using hd) hl)
  have HD := Lib.hid hd
  clear hd
  go_enter Tryd.func35, Tryd.ntmps35
  go_wp2_with fail
  go_loopw [3, 4, 7] (fun s x i wr => ∃ k : Nat, i = .int .i64 k ∧ k ≤ L.length ∧ s = .int .i64 (foldD L 0 k) ∧ wr = w) (fun _ _ i _ => L.length - (intOf i).toNat)
  case atStart => exact ⟨0, rfl, Nat.zero_le _, rfl, rfl⟩
  case round =>
    obtain ⟨k, rfl, hk, rfl, rfl⟩ := hrel
    by_cases hlt : k < L.length
    · obtain ⟨b0, b1⟩ := HD.out k hlt
      obtain ⟨f0, f1, _⟩ := HF.out k hk
      have HS := Lib.hid (show foldD L 0 (k + 1) = 10 * foldD L 0 k + ((byteAt L k : Int) - 48) by rw [foldD, Nat.zero_add])
      generalize foldD L 0 k = s at *
      have e1 : IntKind.u8.wrap ((byteAt L k : Int) - 48) = (byteAt L k : Int) - 48 := by simp [IntKind.wrap, IntKind.signed, IntKind.bits]; omega
      go_wp2_with fail
      go_roundw
      case rel => exact ⟨k + 1, by go_num, by omega, by rw [HS.out], trivial⟩
      case measure => simp [intOf]; omega
    · obtain rfl : k = L.length := by omega
      generalize hs : foldD L 0 L.length = s at *
      have HS := Lib.hid hs
      clear hs
      go_wp2_with fail
      go_ret
      exact ⟨ret1 HS.out.symm, rfl⟩

def layL : List UInt8 := [48, 48, 48, 48, 45, 48, 48, 45, 48, 48]
theorem lay_ok (L : List UInt8) (k : Nat) (hk : k < 10) (hl : k < L.length) : okAt L k = decide (laid (byteAt L k) = byteAt layL k) := by
  unfold okAt
  rw [decide_eq_true hk, decide_eq_true hl, Bool.true_and, Bool.true_and]
  have hcase : ∀ k < 10, byteAt layL k = if k = 4 ∨ k = 7 then 45 else 48 := by decide
  rw [hcase k hk]
  unfold laid
  by_cases h4 : k = 4 ∨ k = 7
  · rw [if_pos h4, if_pos h4]
    apply decide_eq_decide.2
    split <;> omega
  · rw [if_neg h4, if_neg h4]
    apply decide_eq_decide.2
    split <;> omega

theorem Junk.drewN {w w' : World} (h : Junk w w') (n : Nat) : Junk w (w'.drewN n) := by
  obtain ⟨J, d, rfl⟩ := h
  exact ⟨J, d + n, rfl⟩

set_option maxHeartbeats 1000000 in
theorem n_matching (L : List UInt8) (hl : L.length ≤ 1000) (w : World) :
    Calls Tryd.prog 34 #[.string ⟨L.toArray⟩] w fun e w' => e = .returned (.int .i64 (goodTo L : Nat)) ∧ Junk w w' := by
  obtain ⟨g1, g2, g3, g4⟩ := good_spec L
  have G1 := Lib.hid g1; have G2 := Lib.hid g2
  have HA := Lib.hid n_asLaidOut
  generalize goodTo L = M at *
  clear g1 g2
  go_enter Tryd.func34, Tryd.ntmps34
  go_wp2_with fail
  go_loopw [3, 4] (fun x i wr => ∃ k : Nat, i = .int .i64 k ∧ k ≤ M ∧ Junk w wr) (fun _ i _ => 10 - (intOf i).toNat)
  case atStart => exact ⟨0, rfl, Nat.zero_le _, Junk.refl w⟩
  case round =>
    obtain ⟨k, rfl, hk, hj⟩ := hrel
    by_cases h10 : k < 10
    · by_cases hlt : k < L.length
      · have hne : ((k : Int) == (L.length : Int)) = false := by rw [beq_eq_false_iff_ne]; omega
        have HO := Lib.hid (lay_ok L k h10 hlt)
        by_cases hM : k < M
        · have h1 := G1.out k hM
          rw [HO.out] at h1
          have h1 := of_decide_eq_true h1
          have e1 : ((laid (byteAt L k) : Int) != (byteAt [48, 48, 48, 48, 45, 48, 48, 45, 48, 48] k : Int)) = false := by rw [h1]; unfold layL; simp
          clear h1
          go_upto_region 4 with fail
          go_quiet (refine Calls.quiet_of_same ((HA.out _ _).mono (fun _ _ h => ⟨h.1, h.2.symm⟩)))
          go_wp2_with fail
          go_roundw
          case rel => exact ⟨k + 1, by go_num, by omega, hj.drewN _⟩
          case measure => simp [intOf]; omega
        · obtain rfl : k = M := by omega
          have h1 := G2.out
          rw [HO.out] at h1
          have h1 := of_decide_eq_false h1
          have e1 : ((laid (byteAt L k) : Int) != (byteAt [48, 48, 48, 48, 45, 48, 48, 45, 48, 48] k : Int)) = true := by rw [bne_iff_ne]; unfold layL at h1; omega
          clear h1
          go_upto_region 4 with fail
          go_quiet (refine Calls.quiet_of_same ((HA.out _ _).mono (fun _ _ h => ⟨h.1, h.2.symm⟩)))
          go_wp2_with fail
          go_ret
          exact ⟨rfl, hj.drewN _⟩
      · obtain rfl : k = L.length := by omega
        obtain rfl : L.length = M := by omega
        have hne : ((L.length : Int) == (L.length : Int)) = true := by simp
        go_upto_region 4 with fail
        go_quiet (fail)
        go_wp2_with fail
        go_ret
        exact ⟨rfl, hj.drewN _⟩
    · obtain rfl : k = 10 := by omega
      obtain rfl : M = 10 := by omega
      go_wp2_with fail
      go_ret
      exact ⟨rfl, hj⟩
end Go.Proofs.YtpfaalpbfdphaaaDoor

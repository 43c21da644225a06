/- What Parse reads of a period's text: mathematics. -/
import Derived.Test.YtlbbampmonkleaaDoorPerT1
namespace Go.Proofs.YtlbbampmonkleaaDoor
set_option linter.unusedVariables false
set_option linter.unusedSimpArgs false
open Go.RowKit

/-- The kind of a letter; 0: it is none's. How many periods a year has; how many digits stand behind the letter. -/
def kd (b : Nat) : Nat := if b = 77 then 1 else if b = 81 then 2 else if b = 72 then 3 else 0
def perY (k : Nat) : Nat := if k = 1 then 12 else if k = 2 then 4 else if k = 3 then 2 else 1
def dOf (k : Nat) : Nat := if k = 1 then 2 else 1
def Dig (b : Nat) : Prop := 48 ≤ b ∧ b ≤ 57
instance (b : Nat) : Decidable (Dig b) := inferInstanceAs (Decidable (_ ∧ _))

/-- May the byte at a place stand there, if those before it may? -/
def Good (L : List UInt8) (i : Nat) : Prop :=
  if i < 4 then Dig (byteAt L i) else if i = 4 then byteAt L i = 45 else if i = 5 then kd (byteAt L i) ≠ 0
  else i < 6 + dOf (kd (byteAt L 5)) ∧ Dig (byteAt L i) ∧ (kd (byteAt L 5) = 1 ∨ (49 ≤ byteAt L i ∧ byteAt L i - 48 ≤ perY (kd (byteAt L 5))))
instance (L : List UInt8) (i : Nat) : Decidable (Good L i) := by unfold Good; infer_instance

def okP (L : List UInt8) (i : Nat) : Bool := decide (i < L.length ∧ Good L i)
/-- How many bytes begin the text of a period. -/
def stop (L : List UInt8) : Nat := firstStop (okP L) 9 0
def Compl (L : List UInt8) : Prop := stop L = L.length ∧ (L.length = 4 ∨ (6 ≤ L.length ∧ L.length = 6 + dOf (kd (byteAt L 5))))
instance (L : List UInt8) : Decidable (Compl L) := inferInstanceAs (Decidable (_ ∧ _))

def foldP (L : List UInt8) (a : Nat) : Nat → Int
  | 0 => 0
  | k + 1 => 10 * foldP L a k + ((byteAt L (a + k) : Int) - 48)

/-- The kind, the number within the year, and what Parse answers: kind, period, fault and place. -/
def kOf (L : List UInt8) : Nat := if L.length = 4 then 4 else kd (byteAt L 5)
def nOf (L : List UInt8) : Int := if L.length = 4 then 1 else foldP L 6 (dOf (kd (byteAt L 5)))
def parseP (L : List UInt8) : Int × Int × Int × Int :=
  if Compl L then
    (if foldP L 0 4 < 1 ∨ nOf L < 1 ∨ perY (kOf L) < nOf L then (0, 0, 5, 0) else (kOf L, (foldP L 0 4 - 1) * perY (kOf L) + nOf L - 1, 0, 0))
  else (0, 0, 4, stop L)

theorem dOf_bd (k : Nat) : 1 ≤ dOf k ∧ dOf k ≤ 2 := by unfold dOf; split <;> omega
theorem good8 (L : List UInt8) (i : Nat) (h : 8 ≤ i) : ¬ Good L i := by
  unfold Good
  rw [if_neg (by omega), if_neg (by omega), if_neg (by omega)]
  have := (dOf_bd (kd (byteAt L 5))).2
  omega
theorem stop_spec (L : List UInt8) : (∀ j, j < stop L → j < L.length ∧ Good L j) ∧ ¬ (stop L < L.length ∧ Good L (stop L)) ∧ stop L ≤ 8 ∧ stop L ≤ L.length := by
  have h8 : okP L 8 = false := by unfold okP; exact decide_eq_false fun h => good8 L 8 (by omega) h.2
  obtain ⟨a, b, c, d⟩ := firstStop_spec (okP L) 9 0 ⟨8, by omega, by omega, h8⟩
  have a' : ∀ j, j < stop L → j < L.length ∧ Good L j := fun j hj => of_decide_eq_true (a j (by omega) hj)
  refine ⟨a', of_decide_eq_false b, ?_, ?_⟩
  · apply Nat.le_of_not_lt
    intro h
    exact good8 L 8 (by omega) (a' 8 h).2
  · by_cases h : stop L = 0
    · omega
    · have := (a' (stop L - 1) (by omega)).1
      omega
theorem stop_eq {L : List UInt8} {i : Nat} (h1 : ∀ j, j < i → j < L.length ∧ Good L j) (h2 : ¬ (i < L.length ∧ Good L i)) : stop L = i := by
  obtain ⟨a, b, _, _⟩ := stop_spec L
  rcases Nat.lt_trichotomy (stop L) i with h | h | h
  · exact absurd (h1 _ h) b
  · exact h
  · exact absurd (a _ h) h2
theorem parse_bad {L : List UInt8} {i : Nat} (h1 : ∀ j, j < i → j < L.length ∧ Good L j) (h2 : ¬ (i < L.length ∧ Good L i)) (h3 : ¬ (i = L.length ∧ (i = 4 ∨ (6 ≤ i ∧ i = 6 + dOf (kd (byteAt L 5)))))) : parseP L = (0, 0, 4, (i : Int)) := by
  have hs := stop_eq h1 h2
  have hc : ¬ Compl L := by
    rintro ⟨e, h⟩
    rw [hs] at e
    exact h3 ⟨e, e ▸ h⟩
  unfold parseP
  rw [if_neg hc, hs]
theorem parse_ok {L : List UInt8} {i : Nat} (h1 : ∀ j, j < i → j < L.length ∧ Good L j) (h2 : i = L.length) (h3 : i = 4 ∨ (6 ≤ i ∧ i = 6 + dOf (kd (byteAt L 5)))) :
    parseP L = (if foldP L 0 4 < 1 ∨ nOf L < 1 ∨ perY (kOf L) < nOf L then (0, 0, 5, 0) else ((kOf L : Int), (foldP L 0 4 - 1) * perY (kOf L) + nOf L - 1, 0, 0)) := by
  have hs := stop_eq h1 (fun h => by omega)
  have hc : Compl L := ⟨by rw [hs]; exact h2, h2 ▸ h3⟩
  unfold parseP
  rw [if_pos hc]

theorem good_lt4 {L : List UInt8} {i : Nat} (h : i < 4) : Good L i ↔ Dig (byteAt L i) := by unfold Good; rw [if_pos h]
theorem good_4 {L : List UInt8} : Good L 4 ↔ byteAt L 4 = 45 := by unfold Good; rw [if_neg (by omega), if_pos rfl]
theorem good_5 {L : List UInt8} : Good L 5 ↔ kd (byteAt L 5) ≠ 0 := by unfold Good; rw [if_neg (by omega), if_neg (by omega), if_pos rfl]
theorem good_6 {L : List UInt8} {i : Nat} (h : 6 ≤ i) : Good L i ↔ i < 6 + dOf (kd (byteAt L 5)) ∧ Dig (byteAt L i) ∧ (kd (byteAt L 5) = 1 ∨ (49 ≤ byteAt L i ∧ byteAt L i - 48 ≤ perY (kd (byteAt L 5)))) := by
  unfold Good; rw [if_neg (by omega), if_neg (by omega), if_neg (by omega)]

theorem foldP_bd (L : List UInt8) (a n : Nat) (h : ∀ i, i < n → Dig (byteAt L (a + i))) (hn : n ≤ 4) (k : Nat) (hk : k ≤ n) : 0 ≤ foldP L a k ∧ foldP L a k ≤ 9999 ∧ (k ≤ 3 → foldP L a k ≤ 999) ∧ (k ≤ 2 → foldP L a k ≤ 99) ∧ (k ≤ 1 → foldP L a k ≤ 9) ∧ (k = 0 → foldP L a k = 0) := by
  induction k with
  | zero => simp [foldP]
  | succ k ih =>
    have h1 := ih (by omega)
    have h2 := h k (by omega)
    unfold Dig at h2
    unfold foldP
    refine ⟨by omega, by omega, fun _ => by omega, fun _ => by omega, fun _ => by omega, fun _ => by omega⟩
end Go.Proofs.YtlbbampmonkleaaDoor

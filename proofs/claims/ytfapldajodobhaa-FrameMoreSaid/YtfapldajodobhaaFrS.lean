/- Frames and how bytes are scanned: mathematics. No program. -/
import Derived.Test.YtfapldajodobhaaFrM
namespace Go.Proofs.Ytfapldajodobhaa
set_option linter.unusedVariables false
set_option linter.unusedSimpArgs false

def sumF (L : List UInt8) : Nat := 4294967295 - crcL 4294967295 L
theorem sumF_lt (L : List UInt8) : sumF L < 4294967296 := by unfold sumF; omega
/-- The number with which bytes begin; a number as bytes. -/
def num4 (L : List UInt8) : Nat := byteAt L 0 + 256 * byteAt L 1 + 65536 * byteAt L 2 + 16777216 * byteAt L 3
def bytes4 (n : Nat) : List UInt8 := [UInt8.ofNat n, UInt8.ofNat (n / 256), UInt8.ofNat (n / 65536), UInt8.ofNat (n / 16777216)]
@[simp] theorem bytes4_len (n : Nat) : (bytes4 n).length = 4 := rfl
theorem num4_lt (L : List UInt8) : num4 L < 4294967296 := by
  have := byte_lt L 0; have := byte_lt L 1; have := byte_lt L 2; have := byte_lt L 3
  unfold num4; omega
theorem num4_bytes4 (n : Nat) (h : n < 4294967296) (T : List UInt8) : num4 (bytes4 n ++ T) = n := by
  simp [num4, bytes4, byteAt]
  omega
theorem num4_app (L M T : List UInt8) (h : 4 ≤ M.length) : num4 (M ++ T) = num4 M := by
  have e : ∀ i, i < 4 → byteAt (M ++ T) i = byteAt M i := fun i hi => by simp [byteAt, List.getD_eq_getElem?_getD, List.getElem?_append_left (show i < M.length by omega)]
  unfold num4
  rw [e 0 (by omega), e 1 (by omega), e 2 (by omega), e 3 (by omega)]
theorem bytes4_num4 : ∀ (L : List UInt8), L.length = 4 → bytes4 (num4 L) = L
  | [a, b, c, d], _ => by
    have ha := UInt8.toNat_lt a; have hb := UInt8.toNat_lt b; have hc := UInt8.toNat_lt c; have hd := UInt8.toNat_lt d
    simp only [bytes4, num4, byteAt, List.getD_cons_zero, List.getD_cons_succ]
    have e : ∀ (x : UInt8) (n : Nat), n % 256 = x.toNat → UInt8.ofNat n = x := fun x n h => by apply UInt8.toNat_inj.1; rw [UInt8.toNat_ofNat']; exact h
    rw [e a _ (by omega), e b _ (by omega), e c _ (by omega), e d _ (by omega)]
theorem num4_leNum : ∀ (L : List UInt8), L.length = 4 → num4 L = leNum L
  | [a, b, c, d], _ => by simp [num4, byteAt, leNum]; omega
theorem drop_num4 (L : List UInt8) (h : 4 ≤ L.length) : L = bytes4 (num4 L) ++ L.drop 4 := by
  have h1 : num4 L = num4 (L.take 4) := by
    conv => lhs; rw [← List.take_append_drop 4 L]
    exact num4_app [] _ _ (by simp; omega)
  rw [h1, bytes4_num4 _ (by simp; omega), List.take_append_drop]

/-- A record's frame. -/
def frameF (r : List UInt8) : List UInt8 := bytes4 r.length ++ (bytes4 (4294967295 - r.length) ++ (r ++ bytes4 (sumF r)))
@[simp] theorem frameF_len (r : List UInt8) : (frameF r).length = r.length + 12 := by simp [frameF]; omega
/-- Do bytes begin with a length and its turned bits? -/
def formF (L : List UInt8) : Bool := num4 L + num4 (L.drop 4) == 4294967295 && decide (num4 L ≤ 65536)
def tornF (L : List UInt8) : Bool := decide (L.length < 8) || (formF L && decide (L.length < num4 L + 12))
def goodF (L : List UInt8) : Bool := sumF ((L.drop 8).take (num4 L)) == num4 (L.drop (8 + num4 L))
/-- The first record, and what lies behind its frame. -/
def splitF (L : List UInt8) : Option (List UInt8 × List UInt8) :=
  if tornF L then none else if formF L && goodF L then some ((L.drop 8).take (num4 L), L.drop (12 + num4 L)) else none
/-- The state of a rest. -/
def stateF (L : List UInt8) : Nat := if L.length = 0 then 0 else if tornF L then 1 else 2

theorem split_lt {L R T : List UInt8} (h : splitF L = some (R, T)) : T.length < L.length := by
  unfold splitF at h
  by_cases ht : tornF L = true
  · rw [if_pos ht] at h; cases h
  · rw [if_neg ht] at h
    split at h
    · injection h with h; injection h with h1 h2
      subst h2
      have : ¬ L.length < 8 := fun h => ht (by simp [tornF, h])
      simp; omega
    · cases h
def scanF (L : List UInt8) : List (List UInt8) × List UInt8 :=
  match h : splitF L with
  | none => ([], L)
  | some (R, T) => (R :: (scanF T).1, (scanF T).2)
termination_by L.length
decreasing_by all_goals exact split_lt h
theorem scan_none {L : List UInt8} (h : splitF L = none) : scanF L = ([], L) := by
  rw [scanF]; split
  · rfl
  · rename_i R T h2; rw [h] at h2; cases h2
theorem scan_some {L R T : List UInt8} (h : splitF L = some (R, T)) : scanF L = (R :: (scanF T).1, (scanF T).2) := by
  rw [scanF]; split
  · rename_i h2; rw [h] at h2; cases h2
  · rename_i R2 T2 h2; rw [h] at h2; injection h2 with h2; injection h2 with h3 h4; subst h3; subst h4; rfl

theorem frame_head (r T : List UInt8) (h : r.length ≤ 65536) : num4 (frameF r ++ T) = r.length ∧ num4 ((frameF r ++ T).drop 4) = 4294967295 - r.length ∧ (frameF r ++ T).drop 8 = r ++ (bytes4 (sumF r) ++ T) := by
  have e : frameF r ++ T = bytes4 r.length ++ (bytes4 (4294967295 - r.length) ++ (r ++ (bytes4 (sumF r) ++ T))) := by simp [frameF]
  rw [e]
  refine ⟨num4_bytes4 _ (by omega) _, ?_, ?_⟩
  · rw [List.drop_left' (by rfl)]
    exact num4_bytes4 _ (by omega) _
  · rw [← List.append_assoc, List.drop_left' (by rfl)]
theorem form_frame (r T : List UInt8) (h : r.length ≤ 65536) : formF (frameF r ++ T) = true := by
  obtain ⟨h1, h2, _⟩ := frame_head r T h
  unfold formF; rw [h1, h2]; simp; omega
theorem split_frame (r T : List UInt8) (h : r.length ≤ 65536) : splitF (frameF r ++ T) = some (r, T) := by
  obtain ⟨h1, h2, h3⟩ := frame_head r T h
  have ht : tornF (frameF r ++ T) = false := by
    unfold tornF
    rw [h1, List.length_append, frameF_len]
    simp
    omega
  have hg : goodF (frameF r ++ T) = true := by
    unfold goodF
    rw [h1, ← List.drop_drop, h3, List.take_left' rfl, List.drop_left' rfl, num4_bytes4 _ (sumF_lt r)]
    simp
  unfold splitF
  have e2 : (frameF r ++ T).drop (12 + r.length) = T := List.drop_left' (by simp; omega)
  rw [if_neg (by rw [ht]; decide), form_frame r T h, hg, h1, h3, List.take_left' rfl, e2]
  rfl
theorem split_canon {L R T : List UInt8} (h : splitF L = some (R, T)) : L = frameF R ++ T ∧ R.length ≤ 65536 := by
  unfold splitF at h
  by_cases ht : tornF L = true
  · rw [if_pos ht] at h; cases h
  rw [if_neg ht] at h
  by_cases hfg : (formF L && goodF L) = true
  · rw [if_pos hfg] at h
    injection h with h; injection h with h1 h2
    rw [Bool.and_eq_true] at hfg
    obtain ⟨hf, hg⟩ := hfg
    have h8 : 8 ≤ L.length := Nat.le_of_not_lt fun h => ht (by simp [tornF, h])
    have h12 : num4 L + 12 ≤ L.length := Nat.le_of_not_lt fun h => ht (by simp [tornF, hf, h])
    unfold formF at hf
    rw [Bool.and_eq_true, beq_iff_eq, decide_eq_true_eq] at hf
    unfold goodF at hg
    rw [beq_iff_eq] at hg
    have hRl : R.length = num4 L := by rw [← h1]; simp; omega
    refine ⟨?_, by omega⟩
    have e1 := drop_num4 L (by omega)
    have e2 := drop_num4 (L.drop 4) (by simp; omega)
    rw [List.drop_drop] at e2
    have e3 : L.drop 8 = R ++ L.drop (8 + num4 L) := by
      rw [← h1, ← List.drop_drop, List.take_append_drop]
    have e4 := drop_num4 (L.drop (8 + num4 L)) (by simp; omega)
    rw [List.drop_drop, ← hg, h1] at e4
    rw [show 8 + num4 L + 4 = 12 + num4 L by omega, h2] at e4
    rw [e1, e2, e3, e4]
    unfold frameF
    rw [hRl, show 4294967295 - num4 L = num4 (L.drop 4) by omega]
    simp
  · rw [if_neg hfg] at h; cases h

/-- Frames, one behind the other. -/
def framesF (l : List (List UInt8)) : List UInt8 := l.flatMap frameF
theorem scan_frames (l : List (List UInt8)) (T : List UInt8) (h : ∀ r ∈ l, r.length ≤ 65536) : scanF (framesF l ++ T) = (l ++ (scanF T).1, (scanF T).2) := by
  induction l with
  | nil => rfl
  | cons r l ih =>
    have e : framesF (r :: l) ++ T = frameF r ++ (framesF l ++ T) := by simp [framesF]
    rw [e, scan_some (split_frame r _ (h r List.mem_cons_self)), ih (fun r' hr' => h r' (List.mem_cons_of_mem _ hr'))]
    rfl
theorem scan_canon (L : List UInt8) : L = framesF (scanF L).1 ++ (scanF L).2 ∧ splitF (scanF L).2 = none ∧ ∀ r ∈ (scanF L).1, r.length ≤ 65536 := by
  induction hn : L.length using Nat.strongRecOn generalizing L with
  | ind n ih =>
    cases hs : splitF L with
    | none =>
      rw [scan_none hs]
      exact ⟨rfl, hs, fun r hr => by cases hr⟩
    | some p =>
      obtain ⟨R, T⟩ := p
      rw [scan_some hs]
      obtain ⟨h1, h2, h3⟩ := ih T.length (by rw [← hn]; exact split_lt hs) T rfl
      obtain ⟨c1, c2⟩ := split_canon hs
      refine ⟨?_, h2, ?_⟩
      · have e : framesF (R :: (scanF T).1) = frameF R ++ framesF (scanF T).1 := rfl
        rw [e, List.append_assoc, ← h1]
        exact c1
      · intro r hr
        rcases List.mem_cons.1 hr with rfl | hr
        · exact c2
        · exact h3 r hr
theorem scan_len (L : List UInt8) : (scanF L).2.length ≤ L.length := by
  have h := congrArg List.length (scan_canon L).1
  rw [List.length_append] at h; omega
end Go.Proofs.Ytfapldajodobhaa

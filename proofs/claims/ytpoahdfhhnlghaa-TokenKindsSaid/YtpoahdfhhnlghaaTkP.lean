/- Tokens: mathematics: where the tokens of a line begin; its fault. -/
import Derived.Test.YtpoahdfhhnlghaaTkO
namespace Go.Proofs.Ytpoahdfhhnlghaa
set_option linter.unusedVariables false
set_option linter.unusedSimpArgs false

/-- Where a part that is under way begins. -/
def flushP (b : Option Nat) : List Nat := match b with
  | none => []
  | some i => [i]
def sepP (c : UInt8) (i : Nat) : List Nat := if c = 44 ∨ c = 35 then [i] else []
/-- Where the tokens of what is left begin: behind a byte, at a place, within a part or not. -/
def posL : UInt8 → List UInt8 → Nat → Option Nat → List Nat
  | _, [], _, b => flushP b
  | p, c :: r, i, b => if wdB p c r then posL c r (i + 1) (some (b.getD i)) else flushP b ++ (sepP c i ++ posL c r (i + 1) none)
def plcT (s : List UInt8) : List Nat := posL 0 s 0 none
theorem pos_len : ∀ (s : List UInt8) (p : UInt8) (i : Nat) (b : Option Nat) (cur : List UInt8), (b = none ↔ cur = []) → (posL p s i b).length = (tokL p s cur).length
  | [], p, i, b, cur, h => by
    unfold posL tokL flushT flushP
    by_cases e : cur = []
    · rw [if_pos e, h.2 e]; rfl
    · rw [if_neg e]
      cases b with
      | none => exact absurd (h.1 rfl) e
      | some j => rfl
  | c :: r, p, i, b, cur, h => by
    have hf : (flushP b).length = (flushT cur).length := by
      unfold flushT flushP
      by_cases e : cur = []
      · rw [if_pos e, h.2 e]; rfl
      · rw [if_neg e]
        cases b with
        | none => exact absurd (h.1 rfl) e
        | some j => rfl
    have hs : (sepP c i).length = (sepT c).length := by
      unfold sepP sepT
      by_cases h1 : c = 44
      · rw [if_pos (.inl h1), if_pos h1]; rfl
      · by_cases h2 : c = 35
        · rw [if_pos (.inr h2), if_neg h1, if_pos h2]; rfl
        · rw [if_neg (fun e => e.elim h1 h2), if_neg h1, if_neg h2]; rfl
    unfold posL tokL
    split
    · exact pos_len r c (i + 1) _ _ ⟨(fun e => nomatch e), (fun e => by simp at e)⟩
    · rw [List.length_append, List.length_append, List.length_append, List.length_append, hf, hs, pos_len r c (i + 1) none [] ⟨fun _ => rfl, fun _ => rfl⟩]
theorem plc_len (s : List UInt8) : (plcT s).length = (toks s).length := pos_len s 0 0 none [] ⟨fun _ => rfl, fun _ => rfl⟩
theorem pos_flush {p c : UInt8} {r : List UInt8} (h : wdB p c r = false) (i : Nat) (b : Option Nat) : posL p (c :: r) i b = flushP b ++ posL p (c :: r) i none := by
  conv => lhs; unfold posL
  conv => rhs; unfold posL
  rw [h]
  rfl
theorem pos_run {s : List UInt8} : ∀ (m i : Nat) (b : Option Nat), 0 < m → i + m ≤ s.length → (∀ j, i ≤ j → j < i + m → wdAt s j = true) → posL (prevB s i) (s.drop i) i b = posL (prevB s (i + m)) (s.drop (i + m)) (i + m) (some (b.getD i))
  | 0, _, _, h0, _, _ => absurd h0 (Nat.lt_irrefl _)
  | m + 1, i, b, _, h, hw => by
    have hi : i < s.length := by omega
    have e1 : s.drop i = s.getD i 0 :: s.drop (i + 1) := by
      rw [List.drop_eq_getElem_cons hi, List.getD_eq_getElem?_getD, List.getElem?_eq_getElem hi]; rfl
    have w := hw i (Nat.le_refl _) (by omega)
    rw [wd_at hi] at w
    have e2 : prevB s (i + 1) = s.getD i 0 := by unfold prevB; rw [if_neg (by omega)]; rfl
    rw [e1]
    conv => lhs; unfold posL
    rw [w, if_pos rfl]
    by_cases h0 : m = 0
    · subst h0
      rw [e2]
    · have ih := pos_run (s := s) m (i + 1) (some (b.getD i)) (by omega) (by omega) fun j h1 h2 => hw j (by omega) (by omega)
      rw [e2] at ih
      rw [ih, show i + 1 + m = i + (m + 1) by omega]
      rfl
theorem pos_next {s : List UInt8} {i m : Nat} (h0 : 0 < m) (h : i + m ≤ s.length) (hw : ∀ j, i ≤ j → j < i + m → wdAt s j = true) (he : i + m < s.length → wdAt s (i + m) = false) :
    posL (prevB s i) (s.drop i) i none = i :: posL (prevB s (i + m)) (s.drop (i + m)) (i + m) none := by
  rw [pos_run m i none h0 h hw]
  by_cases hl : i + m < s.length
  · have e1 : s.drop (i + m) = s.getD (i + m) 0 :: s.drop (i + m + 1) := by
      rw [List.drop_eq_getElem_cons hl, List.getD_eq_getElem?_getD, List.getElem?_eq_getElem hl]; rfl
    have w := he hl
    rw [wd_at hl] at w
    rw [e1, pos_flush w]
    rfl
  · rw [List.drop_eq_nil_of_le (by omega)]
    rfl
theorem pos_skip {s : List UInt8} {i : Nat} (h : i < s.length) (hw : wdAt s i = false) : posL (prevB s i) (s.drop i) i none = sepP (s.getD i 0) i ++ posL (prevB s (i + 1)) (s.drop (i + 1)) (i + 1) none := by
  have e1 : s.drop i = s.getD i 0 :: s.drop (i + 1) := by
    rw [List.drop_eq_getElem_cons h, List.getD_eq_getElem?_getD, List.getElem?_eq_getElem h]; rfl
  have e2 : prevB s (i + 1) = s.getD i 0 := by unfold prevB; rw [if_neg (by omega)]; rfl
  rw [wd_at h] at hw
  rw [e1, e2]
  conv => lhs; unfold posL
  rw [hw]
  rfl
/-- What is said of a line. -/
def faultT (s : List UInt8) : Int × Nat :=
  if 200 < s.length then (3, 0) else match (List.range s.length).find? fun i => !lineB (s.getD i 0) with
    | some i => (4, i)
    | none => if 40 < (toks s).length then (8, (plcT s).getD 40 0) else (0, 0)
/-- The tokens that are told. -/
def toldT (s : List UInt8) : List Tk := if (faultT s).1 = 0 then toks s else []
theorem fault_long {s : List UInt8} (h : 200 < s.length) : faultT s = (3, 0) := by unfold faultT; rw [if_pos h]
theorem fault_byte {s : List UInt8} {k : Nat} (h : s.length ≤ 200) (hk : k < s.length) (h1 : ∀ j, j < k → lineB (s.getD j 0) = true) (h2 : lineB (s.getD k 0) = false) : faultT s = (4, k) := by
  unfold faultT
  rw [if_neg (by omega)]
  have : ((List.range s.length).find? fun i => !lineB (s.getD i 0)) = some k := by
    rw [List.find?_range_eq_some]
    refine ⟨by rw [h2]; rfl, List.mem_range.2 hk, fun j hj => ?_⟩
    rw [h1 j hj]; rfl
  rw [this]
theorem fault_rest {s : List UInt8} (h : s.length ≤ 200) (h1 : ∀ j, j < s.length → lineB (s.getD j 0) = true) : faultT s = if 40 < (toks s).length then (8, (plcT s).getD 40 0) else (0, 0) := by
  unfold faultT
  rw [if_neg (by omega)]
  have : ((List.range s.length).find? fun i => !lineB (s.getD i 0)) = none := by
    rw [List.find?_eq_none]
    intro i hi
    rw [h1 i (List.mem_range.1 hi)]; simp
  rw [this]
theorem fault_none {s : List UInt8} : (faultT s).1 = 0 ↔ s.length ≤ 200 ∧ (∀ j, j < s.length → lineB (s.getD j 0) = true) ∧ (toks s).length ≤ 40 := by
  constructor
  · intro h
    by_cases h1 : 200 < s.length
    · rw [fault_long h1] at h; exact absurd h (by decide)
    · have h2 : ∀ j, j < s.length → lineB (s.getD j 0) = true := by
        unfold faultT at h
        rw [if_neg h1] at h
        cases e : (List.range s.length).find? fun i => !lineB (s.getD i 0) with
        | some i => rw [e] at h; exact absurd (show (4 : Int) = 0 from h) (by decide)
        | none =>
          rw [List.find?_eq_none] at e
          intro j hj
          have := e j (List.mem_range.2 hj)
          simpa using this
      rw [fault_rest (by omega) h2] at h
      refine ⟨by omega, h2, ?_⟩
      by_cases h3 : 40 < (toks s).length
      · rw [if_pos h3] at h; exact absurd (show (8 : Int) = 0 from h) (by decide)
      · omega
  · rintro ⟨h1, h2, h3⟩
    rw [fault_rest h1 h2, if_neg (by omega)]
end Go.Proofs.Ytpoahdfhhnlghaa

/- Tokens: mathematics: each token of a line is the only one of its own text; the text of tokens has these tokens. -/
import Derived.Test.YtpoahdfhhnlghaaTkM
namespace Go.Proofs.Ytpoahdfhhnlghaa
set_option linter.unusedVariables false
set_option linter.unusedSimpArgs false

/-- Are all bytes a word's, from one byte to another? -/
def pwA : UInt8 → List UInt8 → UInt8 → Bool
  | _, [], _ => true
  | p, [c], n => sndB c || (joinB c && sndB p && sndB n)
  | p, c :: d :: r, n => (sndB c || (joinB c && sndB p && sndB d)) && pwA c (d :: r) n
/-- A byte more: what followed is what stands there now. -/
theorem pw_snoc {c n : UInt8} : ∀ (q : List UInt8) (p : UInt8), pwA p q c = true → (sndB c || (joinB c && sndB (q.getLastD p) && sndB n)) = true → pwA p (q ++ [c]) n = true
  | [], p, _, h => by
    rw [List.nil_append]
    unfold pwA
    simpa using h
  | [x], p, h1, h2 => by
    unfold pwA at h1
    show pwA p [x, c] n = true
    unfold pwA
    rw [Bool.and_eq_true]
    refine ⟨h1, ?_⟩
    unfold pwA
    simpa using h2
  | x :: y :: q, p, h1, h2 => by
    unfold pwA at h1
    rw [Bool.and_eq_true] at h1
    show pwA p (x :: y :: (q ++ [c])) n = true
    unfold pwA
    rw [Bool.and_eq_true]
    refine ⟨h1.1, ?_⟩
    have h2' : (sndB c || (joinB c && sndB ((y :: q).getLastD x) && sndB n)) = true := by
      simpa [List.getLastD] using h2
    exact pw_snoc (y :: q) x h1.2 h2'
theorem pw_next {n m : UInt8} (h : sndB n = sndB m) : ∀ (q : List UInt8) (p : UInt8), pwA p q n = pwA p q m
  | [], _ => rfl
  | [c], p => by unfold pwA; rw [h]
  | c :: d :: r, p => by unfold pwA; rw [pw_next h (d :: r) c]
theorem pw_up (n : UInt8) : ∀ (q : List UInt8) (p : UInt8), pwA (upB p) (q.map upB) (upB n) = pwA p q n
  | [], _ => rfl
  | [c], p => by
    show pwA (upB p) [upB c] (upB n) = _
    unfold pwA
    rw [snd_up, join_up, snd_up, snd_up]
  | c :: d :: r, p => by
    show pwA (upB p) (upB c :: upB d :: r.map upB) (upB n) = _
    unfold pwA
    rw [snd_up, join_up, snd_up, snd_up]
    have := pw_up n (d :: r) c
    rw [List.map_cons] at this
    rw [this]
/-- What is all a word's is one token. -/
theorem tok_all : ∀ (q : List UInt8) (p : UInt8) (cur : List UInt8), pwA p q 0 = true → tokL p q cur = flushT (cur ++ q.map upB)
  | [], _, cur, _ => by rw [List.map_nil, List.append_nil]; rfl
  | [c], p, cur, h => by
    unfold pwA at h
    unfold tokL
    have hw : wdB p c [] = true := by unfold wdB; simpa using h
    rw [hw, if_pos rfl]
    rfl
  | c :: d :: r, p, cur, h => by
    unfold pwA at h
    rw [Bool.and_eq_true] at h
    unfold tokL
    have hw : wdB p c (d :: r) = true := by unfold wdB; simpa using h.1
    rw [hw, if_pos rfl, tok_all (d :: r) c _ h.2, List.append_assoc]
    rfl
/-- A token that is the only one of its text. -/
def goodT (t : Tk) : Prop := toks t.2 = [t]
theorem good_flush {q : List UInt8} (h : pwA 0 q 0 = true) : ∀ t ∈ flushT (q.map upB), goodT t := by
  intro t ht
  unfold flushT at ht
  split at ht
  · cases ht
  · rename_i hne
    rw [List.mem_singleton] at ht
    subst ht
    show toks (q.map upB) = _
    rw [toks_up]
    unfold toks
    rw [tok_all q 0 [] h, List.nil_append]
    unfold flushT
    rw [if_neg hne]
theorem good_sep (c : UInt8) : ∀ t ∈ sepT c, goodT t := by
  intro t ht
  unfold sepT at ht
  split at ht
  · rw [List.mem_singleton] at ht; subst ht; rfl
  · split at ht
    · rw [List.mem_singleton] at ht; subst ht; rfl
    · cases ht
theorem tok_good : ∀ (s q : List UInt8) (p : UInt8), pwA 0 q (s.headD 0) = true → (q = [] → sndB p = false) → (q ≠ [] → q.getLastD 0 = p) → ∀ t ∈ tokL p s (q.map upB), goodT t
  | [], q, p, h, _, _ => good_flush h
  | c :: r, q, p, h, h1, h2 => by
    intro t ht
    rw [List.headD_cons] at h
    have hp : sndB (q.getLastD 0) = sndB p := by
      by_cases e : q = []
      · rw [e, h1 e]; exact snd_0
      · rw [h2 e]
    unfold tokL at ht
    split at ht
    · rename_i hw
      have e : q.map upB ++ [upB c] = (q ++ [c]).map upB := by rw [List.map_append]; rfl
      rw [e] at ht
      refine tok_good r (q ++ [c]) c (pw_snoc q 0 h ?_) (fun e => by simp at e) (fun _ => by simp) t ht
      unfold wdB at hw
      rw [hp]
      exact hw
    · rename_i hw
      have hc : sndB c = false := by
        cases e : sndB c with
        | false => rfl
        | true => exact absurd (by unfold wdB; rw [e]; rfl) hw
      rcases List.mem_append.1 ht with ht | ht
      · exact good_flush (by rw [pw_next (show sndB 0 = sndB c by rw [hc, snd_0])]; exact h) t ht
      · rcases List.mem_append.1 ht with ht | ht
        · exact good_sep c t ht
        · exact tok_good r [] c rfl (fun _ => hc) (fun e => absurd rfl e) t ht
/-- Each token of a line is the only one of its own text. -/
theorem toks_good (s : List UInt8) : ∀ t ∈ toks s, goodT t := tok_good s [] 0 rfl (fun _ => snd_0) (fun e => absurd rfl e)
theorem kind_few (t : List UInt8) : kindT t = 1 ∨ kindT t = 2 ∨ kindT t = 3 := by
  unfold kindT
  split
  · exact .inl rfl
  · split
    · exact .inr (.inl rfl)
    · exact .inr (.inr rfl)
/-- Of which form a token is. -/
theorem tok_form : ∀ (s : List UInt8) (p : UInt8) (cur : List UInt8), ∀ t ∈ tokL p s cur, (t.1 = kindT t.2 ∧ t.2 ≠ []) ∨ t = (4, [44]) ∨ t = (5, [35])
  | [], p, cur, t, ht => by
    unfold tokL flushT at ht
    split at ht
    · cases ht
    · rename_i hne
      rw [List.mem_singleton] at ht; subst ht; exact .inl ⟨rfl, hne⟩
  | c :: r, p, cur, t, ht => by
    unfold tokL at ht
    split at ht
    · exact tok_form r _ _ t ht
    · rcases List.mem_append.1 ht with ht | ht
      · unfold flushT at ht
        split at ht
        · cases ht
        · rename_i hne
          rw [List.mem_singleton] at ht; subst ht; exact .inl ⟨rfl, hne⟩
      · rcases List.mem_append.1 ht with ht | ht
        · unfold sepT at ht
          split at ht
          · rw [List.mem_singleton] at ht; exact .inr (.inl ht)
          · split at ht
            · rw [List.mem_singleton] at ht; exact .inr (.inr ht)
            · cases ht
        · exact tok_form r _ _ t ht
theorem good_form {t : Tk} (h : goodT t) : (t.1 = kindT t.2 ∧ t.2 ≠ []) ∨ t = (4, [44]) ∨ t = (5, [35]) :=
  tok_form t.2 0 [] t (by unfold goodT toks at h; rw [h]; exact List.mem_singleton.2 rfl)
theorem good_comma {t : Tk} (h : goodT t) (h4 : t.1 = 4) : t = (4, [44]) := by
  rcases good_form h with h2 | h2 | h2
  · have := kind_few t.2
    omega
  · exact h2
  · rw [h2] at h4; exact absurd h4 (by decide)
theorem good_hash {t : Tk} (h : goodT t) (h5 : t.1 = 5) : t = (5, [35]) := by
  rcases good_form h with h2 | h2 | h2
  · have := kind_few t.2
    omega
  · rw [h2] at h5; exact absurd h5 (by decide)
  · exact h2

/-- Does a blank stand between? -/
def gapT (a b : Tk) : List UInt8 := if b.1 ≠ 4 ∧ a.1 ≠ 5 then [32] else []
/-- The text of tokens. -/
def txT : List Tk → List UInt8
  | [] => []
  | [t] => t.2
  | a :: b :: r => a.2 ++ (gapT a b ++ txT (b :: r))
theorem toks_txt : ∀ (l : List Tk), (∀ t ∈ l, goodT t) → toks (txT l) = l
  | [], _ => rfl
  | [t], h => h t (List.mem_singleton.2 rfl)
  | a :: b :: r, h => by
    have ha := h a (List.mem_cons_self ..)
    have ih := toks_txt (b :: r) fun t ht => h t (List.mem_cons_of_mem _ ht)
    unfold txT
    by_cases h5 : a.1 = 5
    · have e := good_hash ha h5
      subst e
      have hg : gapT (5, [35]) b = [] := by unfold gapT; rw [if_neg (by simp)]
      rw [hg, List.nil_append]
      show toks (35 :: txT (b :: r)) = _
      rw [toks_sep (c := 35) (by decide), ih]
      rfl
    · by_cases h4 : b.1 = 4
      · have e := good_comma (h b (List.mem_cons_of_mem _ (List.mem_cons_self ..))) h4
        subst e
        have hg : gapT a (4, [44]) = [] := by unfold gapT; rw [if_neg (by simp)]
        rw [hg, List.nil_append]
        have ht : ∃ z, txT ((4, [44]) :: r) = 44 :: z := by
          cases r with
          | nil => exact ⟨[], rfl⟩
          | cons b' r' => exact ⟨_, rfl⟩
        obtain ⟨z, hz⟩ := ht
        rw [hz] at ih ⊢
        rw [toks_sep (c := 44) (by decide)] at ih
        rw [toks_hard (c := 44) (by decide), ih]
        unfold goodT at ha
        rw [ha]
        rfl
      · have hg : gapT a b = [32] := by unfold gapT; rw [if_pos ⟨h4, h5⟩]
        rw [hg]
        show toks (a.2 ++ 32 :: txT (b :: r)) = _
        rw [toks_parts, ih]
        unfold goodT at ha
        rw [ha]
        rfl
/-- The text of a line's tokens has the same tokens, and is its own text. -/
theorem toks_back (s : List UInt8) : toks (txT (toks s)) = toks s := toks_txt _ (toks_good s)
end Go.Proofs.Ytpoahdfhhnlghaa

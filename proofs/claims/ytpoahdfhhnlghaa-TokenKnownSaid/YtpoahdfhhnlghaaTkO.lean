/- Tokens: mathematics: sizes, bytes, kinds; the places of tokens; a part from its beginning to its end. -/
import Derived.Test.YtpoahdfhhnlghaaTkN
namespace Go.Proofs.Ytpoahdfhhnlghaa
set_option linter.unusedVariables false
set_option linter.unusedSimpArgs false

/-- A part of a line: bytes of a word, the first and the last a letter or a digit. -/
theorem tok_part : ∀ (s q : List UInt8) (p : UInt8), pwA 0 q (s.headD 0) = true → (q = [] → sndB p = false) → (q ≠ [] → q.getLastD 0 = p) → ∀ t ∈ tokL p s (q.map upB), (∃ q', q' ≠ [] ∧ pwA 0 q' 0 = true ∧ t = (kindT (q'.map upB), q'.map upB)) ∨ t = (4, [44]) ∨ t = (5, [35]) := by
  have fl : ∀ q, pwA 0 q 0 = true → ∀ t ∈ flushT (q.map upB), ∃ q', q' ≠ [] ∧ pwA 0 q' 0 = true ∧ t = (kindT (q'.map upB), q'.map upB) := by
    intro q h t ht
    unfold flushT at ht
    split at ht
    · cases ht
    · rename_i hne
      rw [List.mem_singleton] at ht
      exact ⟨q, fun e => hne (by rw [e]; rfl), h, ht⟩
  intro s
  induction s with
  | nil => intro q p h _ _ t ht; exact .inl (fl q h t ht)
  | cons c r ih =>
    intro q p h h1 h2 t ht
    rw [List.headD_cons] at h
    have hp : sndB (q.getLastD 0) = sndB p := by
      by_cases e : q = []
      · rw [e, h1 e]; exact snd_0
      · rw [h2 e]
    unfold tokL at ht
    split at ht
    · rename_i hw
      have e : q.map upB ++ [upB c] = (q ++ [c]).map upB := by rw [List.map_append]; rfl
      rw [e] at ht
      refine ih (q ++ [c]) c (pw_snoc q 0 h ?_) (fun e => by simp at e) (fun _ => by simp) t ht
      unfold wdB at hw
      rw [hp]
      exact hw
    · rename_i hw
      have hc : sndB c = false := by
        cases e : sndB c with
        | false => rfl
        | true => exact absurd (by unfold wdB; rw [e]; rfl) hw
      rcases List.mem_append.1 ht with ht | ht
      · exact .inl (fl q (by rw [pw_next (show sndB 0 = sndB c by rw [hc, snd_0])]; exact h) t ht)
      · rcases List.mem_append.1 ht with ht | ht
        · unfold sepT at ht
          split at ht
          · rw [List.mem_singleton] at ht; exact .inr (.inl ht)
          · split at ht
            · rw [List.mem_singleton] at ht; exact .inr (.inr ht)
            · cases ht
        · exact ih [] c rfl (fun _ => hc) (fun e => absurd rfl e) t ht
theorem toks_part (s : List UInt8) : ∀ t ∈ toks s, (∃ q', q' ≠ [] ∧ pwA 0 q' 0 = true ∧ t = (kindT (q'.map upB), q'.map upB)) ∨ t = (4, [44]) ∨ t = (5, [35]) := tok_part s [] 0 rfl (fun _ => snd_0) (fun e => absurd rfl e)
theorem pw_first {c n : UInt8} {q : List UInt8} (h : pwA 0 (c :: q) n = true) : sndB c = true := by
  cases q with
  | nil => unfold pwA at h; rw [snd_0] at h; simpa using h
  | cons d r => unfold pwA at h; rw [snd_0] at h; simp at h; exact h.1
theorem pw_last : ∀ (q : List UInt8) (p : UInt8), q ≠ [] → pwA p q 0 = true → sndB (q.getLastD 0) = true
  | [], _, h, _ => absurd rfl h
  | [c], p, _, h => by unfold pwA at h; rw [snd_0] at h; simpa using h
  | c :: d :: r, p, _, h => by
    unfold pwA at h
    rw [Bool.and_eq_true] at h
    have := pw_last (d :: r) c (by simp) h.2
    simpa [List.getLastD] using this
theorem pw_bytes : ∀ (q : List UInt8) (p n : UInt8), pwA p q n = true → ∀ c ∈ q, sndB c = true ∨ joinB c = true
  | [], _, _, _, c, hc => by cases hc
  | [x], p, n, h, c, hc => by
    rw [List.mem_singleton] at hc
    subst hc
    unfold pwA at h
    rw [Bool.or_eq_true] at h
    rcases h with h | h
    · exact .inl h
    · simp at h; exact .inr h.1.1
  | x :: d :: r, p, n, h, c, hc => by
    unfold pwA at h
    rw [Bool.and_eq_true] at h
    rcases List.mem_cons.1 hc with rfl | hc
    · rcases Bool.or_eq_true _ _ ▸ h.1 with h | h
      · exact .inl h
      · simp at h; exact .inr h.1.1
    · exact pw_bytes (d :: r) x n h.2 c hc
/-- A byte of a line. -/
def lineB (c : UInt8) : Bool := decide (c.toNat = 9 ∨ (32 ≤ c.toNat ∧ c.toNat ≤ 126))
theorem line_word {c : UInt8} (h : sndB c = true ∨ joinB c = true) : lineB c = true ∧ c.toNat ≠ 9 ∧ c.toNat ≠ 32 := by
  unfold sndB letB digB joinB lineB at *
  simp only [Bool.or_eq_true, decide_eq_true_eq] at *
  omega
theorem up_word {c : UInt8} (h : sndB c = true ∨ joinB c = true) : sndB (upB c) = true ∨ joinB (upB c) = true := by rwa [snd_up, join_up]
/-- The bytes of a line's tokens. -/
theorem toks_bytes {s : List UInt8} {t : Tk} (h : t ∈ toks s) : t.2 ≠ [] ∧ t.2.map upB = t.2 ∧ ∀ c ∈ t.2, lineB c = true ∧ c.toNat ≠ 9 ∧ c.toNat ≠ 32 := by
  rcases toks_part s t h with ⟨q, h1, h2, rfl⟩ | rfl | rfl
  · refine ⟨fun e => h1 (List.map_eq_nil_iff.1 e), ?_, fun c hc => ?_⟩
    · rw [List.map_map]; exact List.map_congr_left fun c _ => up_up c
    · obtain ⟨d, hd, rfl⟩ := List.mem_map.1 hc
      exact line_word (up_word (pw_bytes q 0 0 h2 d hd))
  · exact ⟨by simp, by decide, fun c hc => by rw [List.mem_singleton] at hc; subst hc; decide⟩
  · exact ⟨by simp, by decide, fun c hc => by rw [List.mem_singleton] at hc; subst hc; decide⟩
theorem lastD_map (f : UInt8 → UInt8) : ∀ (l : List UInt8) (d : UInt8), (l.map f).getLastD (f d) = f (l.getLastD d)
  | [], _ => rfl
  | x :: l, d => by rw [List.map_cons, List.getLastD_cons, List.getLastD_cons]; exact lastD_map f l x
/-- The kinds of parts. -/
theorem part_kind {q : List UInt8} (h1 : q ≠ []) (h2 : pwA 0 q 0 = true) : let t := q.map upB
    sndB (t.headD 0) = true ∧ sndB (t.getLastD 0) = true ∧ ((kindT t = 1 ∧ letB (t.headD 0) = true) ∨ (kindT t = 2 ∧ letB (t.headD 0) = false ∧ t.all digB = true) ∨ (kindT t = 3 ∧ letB (t.headD 0) = false ∧ t.all digB = false)) := by
  refine ⟨?_, ?_, ?_⟩
  · cases q with
    | nil => exact absurd rfl h1
    | cons c r => rw [List.map_cons, List.headD_cons, snd_up]; exact pw_first h2
  · have hl := pw_last q 0 h1 h2
    have e : (q.map upB).getLastD 0 = upB (q.getLastD 0) := by
      have := lastD_map upB q 0
      rw [up_0] at this
      exact this
    rw [e, snd_up]; exact hl
  · unfold kindT
    cases a : letB ((q.map upB).headD 0) with
    | true => exact .inl ⟨rfl, rfl⟩
    | false =>
      cases b : (q.map upB).all digB with
      | true => exact .inr (.inl ⟨rfl, rfl, rfl⟩)
      | false => exact .inr (.inr ⟨rfl, rfl, rfl⟩)

/-- How many bytes tokens have together. -/
def sizT (l : List Tk) : Nat := (l.map fun t => t.2.length).sum
theorem siz_app (a b : List Tk) : sizT (a ++ b) = sizT a + sizT b := by unfold sizT; rw [List.map_append, List.sum_append]
theorem siz_tok : ∀ (s : List UInt8) (p : UInt8) (cur : List UInt8), sizT (tokL p s cur) ≤ cur.length + s.length
  | [], p, cur => by
    unfold tokL flushT
    split
    · simp [sizT]
    · simp [sizT]
  | c :: r, p, cur => by
    unfold tokL
    split
    · have := siz_tok r c (cur ++ [upB c])
      rw [List.length_append, List.length_singleton] at this
      rw [List.length_cons]
      omega
    · have h1 := siz_tok r c []
      have h2 : sizT (flushT cur) ≤ cur.length := by
        unfold flushT
        split
        · simp [sizT]
        · simp [sizT]
      have h3 : sizT (sepT c) ≤ 1 := by
        unfold sepT
        split
        · simp [sizT]
        · split
          · simp [sizT]
          · simp [sizT]
      rw [siz_app, siz_app, List.length_cons]
      rw [List.length_nil] at h1
      omega
theorem len_siz : ∀ l : List Tk, (∀ t ∈ l, t.2 ≠ []) → l.length ≤ sizT l
  | [], _ => Nat.le_refl _
  | t :: l, h => by
    have h1 := len_siz l fun x hx => h x (List.mem_cons_of_mem _ hx)
    have h2 := List.length_pos_iff.2 (h t (List.mem_cons_self ..))
    unfold sizT at *
    rw [List.map_cons, List.sum_cons, List.length_cons]
    omega
theorem txt_len : ∀ l : List Tk, (txT l).length ≤ sizT l + l.length
  | [] => Nat.le_refl _
  | [t] => by simp [txT, sizT]
  | a :: b :: r => by
    have h := txt_len (b :: r)
    have hg : (gapT a b).length ≤ 1 := by unfold gapT; split <;> simp
    unfold txT
    rw [List.length_append, List.length_append]
    unfold sizT at *
    rw [List.map_cons, List.sum_cons, List.length_cons]
    omega
/-- A text of a line's tokens is at most twice as long as the line. -/
theorem back_len (s : List UInt8) : (txT (toks s)).length ≤ 2 * s.length := by
  have h1 := siz_tok s 0 []
  have h2 := len_siz (toks s) fun t ht => (toks_bytes ht).1
  have h3 := txt_len (toks s)
  rw [List.length_nil, Nat.zero_add] at h1
  have h4 : sizT (toks s) ≤ s.length := h1
  omega
theorem txt_bytes : ∀ l : List Tk, (∀ t ∈ l, ∀ c ∈ t.2, lineB c = true) → ∀ c ∈ txT l, lineB c = true
  | [], _, c, hc => by cases hc
  | [t], h, c, hc => h t (List.mem_singleton.2 rfl) c hc
  | a :: b :: r, h, c, hc => by
    unfold txT at hc
    rcases List.mem_append.1 hc with hc | hc
    · exact h a (List.mem_cons_self ..) c hc
    · rcases List.mem_append.1 hc with hc | hc
      · unfold gapT at hc
        split at hc
        · rw [List.mem_singleton] at hc; subst hc; decide
        · cases hc
      · exact txt_bytes (b :: r) (fun t ht => h t (List.mem_cons_of_mem _ ht)) c hc

/-- A part ends: what comes is no word's byte. -/
theorem tok_flush {p c : UInt8} {r : List UInt8} (h : wdB p c r = false) (cur : List UInt8) : tokL p (c :: r) cur = flushT cur ++ tokL p (c :: r) [] := by
  conv => lhs; unfold tokL
  conv => rhs; unfold tokL
  rw [h]
  rfl
theorem tok_end (p : UInt8) (cur : List UInt8) : tokL p [] cur = flushT cur ++ tokL p [] [] := by
  show flushT cur = flushT cur ++ flushT []
  unfold flushT
  rw [if_pos rfl, List.append_nil]
/-- Is the byte at a place a word's? -/
def wdAt (s : List UInt8) (i : Nat) : Bool := sndB (s.getD i 0) || (joinB (s.getD i 0) && decide (0 < i) && decide (i + 1 < s.length) && sndB (s.getD (i - 1) 0) && sndB (s.getD (i + 1) 0))
def prevB (s : List UInt8) (i : Nat) : UInt8 := if i = 0 then 0 else s.getD (i - 1) 0
theorem wd_at {s : List UInt8} {i : Nat} (h : i < s.length) : wdAt s i = wdB (prevB s i) (s.getD i 0) (s.drop (i + 1)) := by
  unfold wdAt wdB prevB
  have e : (s.drop (i + 1)).headD 0 = s.getD (i + 1) 0 := by
    rw [List.headD_eq_head?_getD, List.head?_drop, List.getD_eq_getElem?_getD]
  rw [e]
  by_cases h0 : i = 0
  · subst h0
    rw [if_pos rfl, snd_0]
    simp
  · rw [if_neg h0, decide_eq_true (show 0 < i by omega)]
    by_cases h1 : i + 1 < s.length
    · rw [decide_eq_true h1]; simp [Bool.and_assoc]
    · have : s.getD (i + 1) 0 = 0 := by rw [List.getD_eq_getElem?_getD, List.getElem?_eq_none (by omega)]; rfl
      rw [decide_eq_false h1, this, snd_0]
      simp
/-- A part from its beginning to its end. -/
theorem tok_run {s : List UInt8} : ∀ (m i : Nat) (cur : List UInt8), i + m ≤ s.length → (∀ j, i ≤ j → j < i + m → wdAt s j = true) → tokL (prevB s i) (s.drop i) cur = tokL (prevB s (i + m)) (s.drop (i + m)) (cur ++ ((s.drop i).take m).map upB)
  | 0, i, cur, _, _ => by simp
  | m + 1, i, cur, h, hw => by
    have hi : i < s.length := by omega
    have e1 : s.drop i = s.getD i 0 :: s.drop (i + 1) := by
      rw [List.drop_eq_getElem_cons hi, List.getD_eq_getElem?_getD, List.getElem?_eq_getElem hi]; rfl
    have w := hw i (Nat.le_refl _) (by omega)
    rw [wd_at hi] at w
    have ih := tok_run (s := s) m (i + 1) (cur ++ [upB (s.getD i 0)]) (by omega) fun j h1 h2 => hw j (by omega) (by omega)
    have e2 : prevB s (i + 1) = s.getD i 0 := by unfold prevB; rw [if_neg (by omega)]; rfl
    rw [e1]
    conv => lhs; unfold tokL
    rw [w, if_pos rfl]
    rw [e2] at ih
    rw [ih, show i + 1 + m = i + (m + 1) by omega, List.append_assoc, List.take_succ_cons, List.map_cons]
    rfl
/-- The token at a place, and what is behind it. -/
theorem tok_next {s : List UInt8} {i m : Nat} (h0 : 0 < m) (h : i + m ≤ s.length) (hw : ∀ j, i ≤ j → j < i + m → wdAt s j = true) (he : i + m < s.length → wdAt s (i + m) = false) :
    tokL (prevB s i) (s.drop i) [] = (kindT (((s.drop i).take m).map upB), ((s.drop i).take m).map upB) :: tokL (prevB s (i + m)) (s.drop (i + m)) [] := by
  rw [tok_run m i [] h hw, List.nil_append]
  have hne : ((s.drop i).take m).map upB ≠ [] := by
    intro e
    have := congrArg List.length e
    rw [List.length_map, List.length_take, List.length_drop, List.length_nil] at this
    omega
  have hfl : flushT (((s.drop i).take m).map upB) = [(kindT (((s.drop i).take m).map upB), ((s.drop i).take m).map upB)] := by unfold flushT; rw [if_neg hne]
  by_cases hl : i + m < s.length
  · have e1 : s.drop (i + m) = s.getD (i + m) 0 :: s.drop (i + m + 1) := by
      rw [List.drop_eq_getElem_cons hl, List.getD_eq_getElem?_getD, List.getElem?_eq_getElem hl]; rfl
    have w := he hl
    rw [wd_at hl] at w
    rw [e1, tok_flush w, hfl]
    rfl
  · rw [List.drop_eq_nil_of_le (by omega), tok_end, hfl]
    rfl
/-- No token there: a byte that is no word's. -/
theorem tok_skip {s : List UInt8} {i : Nat} (h : i < s.length) (hw : wdAt s i = false) : tokL (prevB s i) (s.drop i) [] = sepT (s.getD i 0) ++ tokL (prevB s (i + 1)) (s.drop (i + 1)) [] := by
  have e1 : s.drop i = s.getD i 0 :: s.drop (i + 1) := by
    rw [List.drop_eq_getElem_cons h, List.getD_eq_getElem?_getD, List.getElem?_eq_getElem h]; rfl
  have e2 : prevB s (i + 1) = s.getD i 0 := by unfold prevB; rw [if_neg (by omega)]; rfl
  rw [wd_at h] at hw
  rw [e1, e2]
  conv => lhs; unfold tokL
  rw [hw]
  rfl
end Go.Proofs.Ytpoahdfhhnlghaa

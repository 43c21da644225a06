/- Tokens: mathematics: a line divided by a state that receives each byte. -/
import Derived.Test.YtpoahdfhhnlghaaTkQ
namespace Go.Proofs.Ytpoahdfhhnlghaa
set_option linter.unusedVariables false
set_option linter.unusedSimpArgs false

/-- What a line has been divided into: the state (0 outside, 1 inside, 2 behind a joint), where the part begins, the tokens, where they begin. -/
structure MT where
  st : Nat
  start : Nat
  out : List Tk
  pos : List Nat
def partT (s : List UInt8) (a b : Nat) : List UInt8 := ((s.drop a).take (b - a)).map upB
def addP (s : List UInt8) (M : MT) (e : Nat) : MT := ⟨0, M.start, M.out ++ [(kindT (partT s M.start e), partT s M.start e)], M.pos ++ [M.start]⟩
def outS (M : MT) (i : Nat) (c : UInt8) : MT := if sndB c then ⟨1, i, M.out, M.pos⟩ else ⟨0, M.start, M.out ++ sepT c, M.pos ++ sepP c i⟩
def stepT (s : List UInt8) (M : MT) (i : Nat) (c : UInt8) : MT :=
  if M.st = 0 then outS M i c
  else if M.st = 1 then (if sndB c then M else if joinB c then ⟨2, M.start, M.out, M.pos⟩ else outS (addP s M i) i c)
  else (if sndB c then ⟨1, M.start, M.out, M.pos⟩ else outS (addP s M (i - 1)) i c)
/-- How a line stands, behind so many bytes. -/
def InvT (s : List UInt8) (i : Nat) (M : MT) : Prop :=
  (M.st = 0 ∧ sndB (prevB s i) = false ∧ M.out ++ tokL (prevB s i) (s.drop i) [] = toks s ∧ M.pos ++ posL (prevB s i) (s.drop i) i none = plcT s) ∨
  (M.st = 1 ∧ M.start < i ∧ sndB (prevB s i) = true ∧ M.out ++ tokL (prevB s i) (s.drop i) (partT s M.start i) = toks s ∧ M.pos ++ posL (prevB s i) (s.drop i) i (some M.start) = plcT s) ∨
  (M.st = 2 ∧ M.start + 1 < i ∧ joinB (prevB s i) = true ∧ sndB (prevB s (i - 1)) = true ∧ M.out ++ tokL (prevB s (i - 1)) (s.drop (i - 1)) (partT s M.start (i - 1)) = toks s ∧ M.pos ++ posL (prevB s (i - 1)) (s.drop (i - 1)) (i - 1) (some M.start) = plcT s)
theorem inv_start (s : List UInt8) (x : Nat) : InvT s 0 ⟨0, x, [], []⟩ := .inl ⟨rfl, snd_0, rfl, rfl⟩
theorem drop_at {s : List UInt8} {i : Nat} (h : i < s.length) : s.drop i = s.getD i 0 :: s.drop (i + 1) := by
  rw [List.drop_eq_getElem_cons h, List.getD_eq_getElem?_getD, List.getElem?_eq_getElem h]; rfl
theorem prev_at (s : List UInt8) (i : Nat) : prevB s (i + 1) = s.getD i 0 := by unfold prevB; rw [if_neg (by omega)]; rfl
theorem part_len {s : List UInt8} {a b : Nat} (hb : b ≤ s.length) : (partT s a b).length = b - a := by
  unfold partT; rw [List.length_map, List.length_take, List.length_drop]; omega
theorem part_ne {s : List UInt8} {a b : Nat} (h : a < b) (hb : b ≤ s.length) : partT s a b ≠ [] := by
  intro e
  have := part_len (a := a) hb
  rw [e, List.length_nil] at this
  omega
theorem part_snoc {s : List UInt8} {a i : Nat} (h : a ≤ i) (hi : i < s.length) : partT s a (i + 1) = partT s a i ++ [upB (s.getD i 0)] := by
  unfold partT
  rw [show i + 1 - a = i - a + 1 by omega, List.take_add_one, List.map_append]
  congr 1
  rw [List.getElem?_drop, show a + (i - a) = i by omega, List.getElem?_eq_getElem hi, List.getD_eq_getElem?_getD, List.getElem?_eq_getElem hi]
  rfl
theorem part_one {s : List UInt8} {i : Nat} (hi : i < s.length) : partT s i (i + 1) = [upB (s.getD i 0)] := by
  rw [part_snoc (Nat.le_refl _) hi]; unfold partT; rw [Nat.sub_self]; rfl
theorem join_snd {c : UInt8} (h : joinB c = true) : sndB c = false := by
  unfold joinB at h
  unfold sndB letB digB
  rw [decide_eq_true_eq] at h
  simp only [Bool.or_eq_false_iff, decide_eq_false_iff_not]
  omega
theorem join_sep {c : UInt8} (h : joinB c = true) : sepT c = [] := by
  unfold joinB at h
  rw [decide_eq_true_eq] at h
  unfold sepT
  rw [if_neg (by rintro rfl; exact absurd h (by decide)), if_neg (by rintro rfl; exact absurd h (by decide))]
theorem join_pos {c : UInt8} (h : joinB c = true) (i : Nat) : sepP c i = [] := by
  unfold joinB at h
  rw [decide_eq_true_eq] at h
  unfold sepP
  rw [if_neg (by rintro (rfl | rfl) <;> exact absurd h (by decide))]
theorem wd_snd {c : UInt8} (h : sndB c = true) (p : UInt8) (r : List UInt8) : wdB p c r = true := by unfold wdB; rw [h]; rfl
theorem wd_no {c : UInt8} (h : sndB c = false) (h2 : joinB c = false) (p : UInt8) (r : List UInt8) : wdB p c r = false := by unfold wdB; rw [h, h2]; rfl
theorem wd_prev {p c : UInt8} (h : sndB c = false) (h2 : sndB p = false) (r : List UInt8) : wdB p c r = false := by unfold wdB; rw [h, h2]; simp
theorem flush_part {s : List UInt8} {a b : Nat} (h : a < b) (hb : b ≤ s.length) : flushT (partT s a b) = [(kindT (partT s a b), partT s a b)] := by unfold flushT; rw [if_neg (part_ne h hb)]
theorem tok_yes {p c : UInt8} {r cur : List UInt8} (h : wdB p c r = true) : tokL p (c :: r) cur = tokL c r (cur ++ [upB c]) := by
  conv => lhs; unfold tokL
  rw [h, if_pos rfl]
theorem tok_no {p c : UInt8} {r cur : List UInt8} (h : wdB p c r = false) : tokL p (c :: r) cur = flushT cur ++ (sepT c ++ tokL c r []) := by
  conv => lhs; unfold tokL
  rw [h, if_neg (by decide)]
theorem pos_yes {p c : UInt8} {r : List UInt8} {i : Nat} {b : Option Nat} (h : wdB p c r = true) : posL p (c :: r) i b = posL c r (i + 1) (some (b.getD i)) := by
  conv => lhs; unfold posL
  rw [h, if_pos rfl]
theorem pos_no {p c : UInt8} {r : List UInt8} {i : Nat} {b : Option Nat} (h : wdB p c r = false) : posL p (c :: r) i b = flushP b ++ (sepP c i ++ posL c r (i + 1) none) := by
  conv => lhs; unfold posL
  rw [h, if_neg (by decide)]
/-- Outside: the next byte. -/
theorem inv_out {s : List UInt8} {i : Nat} {M : MT} (hi : i < s.length) (p : UInt8) (hp : sndB (s.getD i 0) = false → wdB p (s.getD i 0) (s.drop (i + 1)) = false) (h3 : M.out ++ tokL p (s.drop i) [] = toks s) (h4 : M.pos ++ posL p (s.drop i) i none = plcT s) : InvT s (i + 1) (outS M i (s.getD i 0)) := by
  rw [drop_at hi] at h3 h4
  unfold outS
  cases hc : sndB (s.getD i 0) with
  | true =>
    rw [if_pos rfl]
    rw [tok_yes (wd_snd hc _ _)] at h3
    rw [pos_yes (wd_snd hc _ _)] at h4
    exact .inr (.inl ⟨rfl, Nat.lt_succ_self _, by rw [prev_at]; exact hc, by rw [prev_at, part_one hi]; exact h3, by rw [prev_at]; exact h4⟩)
  | false =>
    rw [if_neg (by decide)]
    rw [tok_no (hp hc)] at h3
    rw [pos_no (hp hc)] at h4
    refine .inl ⟨rfl, by rw [prev_at]; exact hc, ?_, ?_⟩
    · rw [prev_at, List.append_assoc]; exact h3
    · rw [prev_at, List.append_assoc]; exact h4
theorem inv_step {s : List UInt8} {i : Nat} {M : MT} (hi : i < s.length) (h : InvT s i M) : InvT s (i + 1) (stepT s M i (s.getD i 0)) := by
  unfold stepT
  rcases h with ⟨h0, h1, h3, h4⟩ | ⟨h0, hs, h1, h3, h4⟩ | ⟨h0, hs, hj, h1, h3, h4⟩
  · rw [if_pos h0]
    exact inv_out hi _ (fun hc => wd_prev hc h1 _) h3 h4
  · rw [if_neg (by omega), if_pos h0]
    have h3' := h3
    have h4' := h4
    rw [drop_at hi] at h3' h4'
    cases hc : sndB (s.getD i 0) with
    | true =>
      rw [if_pos rfl]
      rw [tok_yes (wd_snd hc _ _)] at h3'
      rw [pos_yes (wd_snd hc _ _)] at h4'
      exact .inr (.inl ⟨h0, by omega, by rw [prev_at]; exact hc, by rw [prev_at, part_snoc (by omega) hi]; exact h3', by rw [prev_at]; exact h4'⟩)
    | false =>
      rw [if_neg (by decide)]
      cases hj : joinB (s.getD i 0) with
      | true =>
        rw [if_pos rfl]
        exact .inr (.inr ⟨rfl, by simp only; omega, by rw [prev_at]; exact hj, h1, h3, h4⟩)
      | false =>
        rw [if_neg (by decide)]
        have hw := wd_no hc hj (prevB s i) (s.drop (i + 1))
        rw [tok_flush hw, flush_part hs (by omega)] at h3'
        rw [pos_flush hw] at h4'
        refine inv_out hi (prevB s i) (fun _ => hw) ?_ ?_
        · rw [drop_at hi]; unfold addP; rw [List.append_assoc]; exact h3'
        · rw [drop_at hi]; unfold addP; rw [List.append_assoc]; exact h4'
  · rw [if_neg (by omega), if_neg (by omega)]
    obtain ⟨k, rfl⟩ : ∃ k, i = k + 1 := ⟨i - 1, by omega⟩
    rw [show k + 1 - 1 = k by omega] at h1 h3 h4 ⊢
    rw [prev_at] at hj
    have hk : k < s.length := by omega
    rw [drop_at hk] at h3 h4
    have hjs := join_snd hj
    cases hc : sndB (s.getD (k + 1) 0) with
    | true =>
      rw [if_pos rfl]
      have hw : wdB (prevB s k) (s.getD k 0) (s.drop (k + 1)) = true := by
        unfold wdB; rw [hj, h1, drop_at hi, List.headD_cons, hc]; simp
      rw [tok_yes hw, drop_at hi, tok_yes (wd_snd hc _ _)] at h3
      rw [pos_yes hw, drop_at hi, pos_yes (wd_snd hc _ _)] at h4
      refine .inr (.inl ⟨rfl, by simp only; omega, by rw [prev_at]; exact hc, ?_, by rw [prev_at]; exact h4⟩)
      rw [prev_at]; show M.out ++ tokL _ _ (partT s M.start (k + 1 + 1)) = _; rw [part_snoc (by omega) hi, part_snoc (by omega) hk]; exact h3
    | false =>
      rw [if_neg (by decide)]
      have hw : wdB (prevB s k) (s.getD k 0) (s.drop (k + 1)) = false := by
        unfold wdB; rw [hjs, drop_at hi, List.headD_cons, hc]; simp
      rw [tok_no hw, flush_part (by omega) (by omega), join_sep hj, List.nil_append] at h3
      rw [pos_no hw, join_pos hj, List.nil_append] at h4
      refine inv_out hi (s.getD k 0) (fun hc => wd_prev hc hjs _) ?_ ?_
      · unfold addP; rw [List.append_assoc]; exact h3
      · unfold addP; rw [List.append_assoc]; exact h4
/-- A gap behind the end. -/
theorem inv_end {s : List UInt8} {M : MT} (h : InvT s s.length M) : (stepT s M s.length 32).out = toks s ∧ (stepT s M s.length 32).pos = plcT s := by
  have e1 : sepT 32 = [] := by decide
  have e2 : ∀ i, sepP 32 i = [] := fun _ => rfl
  have e3 : sndB 32 = false := by decide
  have e4 : joinB 32 = false := by decide
  unfold stepT outS
  rw [e1, e2, e3, e4]
  simp only [Bool.false_eq_true, if_false, List.append_nil]
  rcases h with ⟨h0, h1, h3, h4⟩ | ⟨h0, hs, h1, h3, h4⟩ | ⟨h0, hs, hj, h1, h3, h4⟩
  · rw [if_pos h0]
    rw [List.drop_length] at h3 h4
    have a : tokL (prevB s s.length) [] [] = [] := rfl
    have b : posL (prevB s s.length) [] s.length none = [] := rfl
    rw [a, List.append_nil] at h3
    rw [b, List.append_nil] at h4
    exact ⟨h3, h4⟩
  · rw [if_neg (by omega), if_pos h0]
    rw [List.drop_length] at h3 h4
    have a : tokL (prevB s s.length) [] (partT s M.start s.length) = flushT (partT s M.start s.length) := rfl
    rw [a, flush_part hs (Nat.le_refl _)] at h3
    exact ⟨h3, h4⟩
  · rw [if_neg (by omega), if_neg (by omega)]
    obtain ⟨k, hk⟩ : ∃ k, s.length = k + 1 := ⟨s.length - 1, by omega⟩
    have hk1 : s.length - 1 = k := by omega
    rw [hk1] at h1 h3 h4
    rw [hk] at hj hs
    rw [hk1]
    rw [prev_at] at hj
    have hjs := join_snd hj
    rw [drop_at (by omega), List.drop_eq_nil_of_le (by omega)] at h3 h4
    have hw : wdB (prevB s k) (s.getD k 0) [] = false := by unfold wdB; rw [hjs, List.headD_nil, snd_0]; simp
    rw [tok_no hw, flush_part (by omega) (by omega), join_sep hj] at h3
    rw [pos_no hw, join_pos hj] at h4
    exact ⟨h3, h4⟩
theorem step_len {s : List UInt8} {M : MT} (i : Nat) (c : UInt8) (h : M.out.length = M.pos.length) : (stepT s M i c).out.length = (stepT s M i c).pos.length ∧ (stepT s M i c).out.length ≤ M.out.length + 2 := by
  have hs : (sepP c i).length = (sepT c).length ∧ (sepT c).length ≤ 1 := by
    unfold sepP sepT
    by_cases h1 : c = 44
    · rw [if_pos (.inl h1), if_pos h1]; exact ⟨rfl, Nat.le_refl _⟩
    · by_cases h2 : c = 35
      · rw [if_pos (.inr h2), if_neg h1, if_pos h2]; exact ⟨rfl, Nat.le_refl _⟩
      · rw [if_neg (fun e => e.elim h1 h2), if_neg h1, if_neg h2]; exact ⟨rfl, Nat.zero_le _⟩
  have ho : ∀ X : MT, X.out.length = X.pos.length → (outS X i c).out.length = (outS X i c).pos.length ∧ (outS X i c).out.length ≤ X.out.length + 1 := by
    intro X hX
    unfold outS
    split
    · exact ⟨hX, by simp only; omega⟩
    · have h1 := hs.1; have h2 := hs.2; simp only [List.length_append]; exact ⟨by rw [hX, h1], Nat.add_le_add_left h2 _⟩
  have ha : ∀ e, (addP s M e).out.length = (addP s M e).pos.length ∧ (addP s M e).out.length = M.out.length + 1 := by
    intro e
    refine ⟨?_, ?_⟩ <;> simp [addP, h]
  unfold stepT
  repeat' split
  all_goals first
    | exact ⟨h, Nat.le_add_right _ _⟩
    | exact ⟨h, by simp only; omega⟩
    | exact ⟨(ho M h).1, by have := (ho M h).2; omega⟩
    | exact ⟨(ho _ (ha i).1).1, by have := (ho _ (ha i).1).2; have := (ha i).2; omega⟩
    | exact ⟨(ho _ (ha (i - 1)).1).1, by have := (ho _ (ha (i - 1)).1).2; have := (ha (i - 1)).2; omega⟩
end Go.Proofs.Ytpoahdfhhnlghaa

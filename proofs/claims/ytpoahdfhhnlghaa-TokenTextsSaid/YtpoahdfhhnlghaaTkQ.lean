/- Tokens: mathematics: what is said of the text of tokens; there and back; two lines; what does not matter. -/
import Derived.Test.YtpoahdfhhnlghaaTkP
namespace Go.Proofs.Ytpoahdfhhnlghaa
set_option linter.unusedVariables false
set_option linter.unusedSimpArgs false

/-- May a token be? -/
def mayT (t : Tk) : Bool := decide ((faultT t.2).1 = 0) && decide (toks t.2 = [t])
theorem getD_all {s : List UInt8} {f : UInt8 → Bool} : (∀ j, j < s.length → f (s.getD j 0) = true) ↔ ∀ c ∈ s, f c = true := by
  constructor
  · intro h c hc
    obtain ⟨j, hj, rfl⟩ := List.mem_iff_getElem.1 hc
    have := h j hj
    rwa [List.getD_eq_getElem?_getD, List.getElem?_eq_getElem hj, Option.getD_some] at this
  · intro h j hj
    refine h _ ?_
    rw [List.getD_eq_getElem?_getD, List.getElem?_eq_getElem hj]
    exact List.getElem_mem hj
theorem fine_iff {s : List UInt8} : (faultT s).1 = 0 ↔ s.length ≤ 200 ∧ (∀ c ∈ s, lineB c = true) ∧ (toks s).length ≤ 40 := by rw [fault_none, getD_all]
theorem good_bytes {t : Tk} (h : goodT t) : t.2 ≠ [] ∧ t.2.map upB = t.2 ∧ ∀ c ∈ t.2, lineB c = true ∧ c.toNat ≠ 9 ∧ c.toNat ≠ 32 := toks_bytes (s := t.2) (by unfold goodT at h; rw [h]; exact List.mem_singleton.2 rfl)
theorem may_iff {t : Tk} : mayT t = true ↔ goodT t ∧ t.2.length ≤ 200 := by
  unfold mayT
  rw [Bool.and_eq_true, decide_eq_true_eq, decide_eq_true_eq, fine_iff]
  constructor
  · rintro ⟨⟨h1, _, _⟩, h2⟩; exact ⟨h2, h1⟩
  · rintro ⟨h1, h2⟩
    refine ⟨⟨h2, fun c hc => ((good_bytes h1).2.2 c hc).1, ?_⟩, h1⟩
    unfold goodT at h1
    rw [h1]; exact Nat.succ_le_succ (Nat.zero_le 39)
/-- What is said of the text of tokens. -/
def errT (l : List Tk) : Int := if 40 < l.length then 8 else if l.all mayT then (if 200 < (txT l).length then 3 else 0) else 2
theorem err_none {l : List Tk} : errT l = 0 ↔ l.length ≤ 40 ∧ (∀ t ∈ l, mayT t = true) ∧ (txT l).length ≤ 200 := by
  unfold errT
  by_cases h1 : 40 < l.length
  · rw [if_pos h1]
    exact ⟨fun h => absurd h (by decide), fun h => by omega⟩
  · rw [if_neg h1]
    by_cases h2 : l.all mayT = true
    · rw [if_pos h2]
      have h3 := List.all_eq_true.1 h2
      by_cases h4 : 200 < (txT l).length
      · rw [if_pos h4]
        exact ⟨fun h => absurd h (by decide), fun h => by omega⟩
      · rw [if_neg h4]
        exact ⟨fun _ => ⟨by omega, h3, by omega⟩, fun _ => rfl⟩
    · rw [if_neg h2]
      exact ⟨fun h => absurd h (by decide), fun h => absurd (List.all_eq_true.2 h.2.1) h2⟩
/-- The tokens of a text of tokens. -/
theorem text_back {l : List Tk} (h : errT l = 0) : (faultT (txT l)).1 = 0 ∧ toks (txT l) = l := by
  obtain ⟨h1, h2, h3⟩ := err_none.1 h
  have hg : ∀ t ∈ l, goodT t := fun t ht => (may_iff.1 (h2 t ht)).1
  have ht := toks_txt l hg
  refine ⟨fine_iff.2 ⟨h3, txt_bytes l (fun t ht c hc => ((good_bytes (hg t ht)).2.2 c hc).1), by rw [ht]; exact h1⟩, ht⟩
theorem siz_mem {l : List Tk} {t : Tk} (h : t ∈ l) : t.2.length ≤ sizT l := by
  induction l with
  | nil => cases h
  | cons a l ih =>
    unfold sizT
    rw [List.map_cons, List.sum_cons]
    rcases List.mem_cons.1 h with rfl | h
    · omega
    · have := ih h
      unfold sizT at this
      omega
/-- The text of a line's tokens. -/
theorem line_back {s : List UInt8} (h : (faultT s).1 = 0) : (errT (toks s) = 0 ∨ (errT (toks s) = 3 ∧ 100 < s.length)) ∧ (errT (toks s) = 0 → (faultT (txT (toks s))).1 = 0 ∧ toks (txT (toks s)) = toks s) := by
  obtain ⟨h1, h2, h3⟩ := fine_iff.1 h
  refine ⟨?_, text_back⟩
  have hm : ∀ t ∈ toks s, mayT t = true := fun t ht => may_iff.2 ⟨toks_good s t ht, by
    have a := siz_mem ht
    have b := siz_tok s 0 []
    rw [List.length_nil, Nat.zero_add] at b
    have c : sizT (toks s) ≤ s.length := b
    omega⟩
  have hl := back_len s
  unfold errT
  rw [if_neg (by omega), if_pos (List.all_eq_true.2 hm)]
  by_cases h4 : 200 < (txT (toks s)).length
  · rw [if_pos h4]; exact .inr ⟨rfl, by omega⟩
  · rw [if_neg h4]; exact .inl rfl
/-- Two lines with a blank between. -/
theorem parts_fault {a b : List UInt8} (ha : a.length ≤ 90) (hb : b.length ≤ 90) : (faultT (a ++ 32 :: b)).1 = 0 ↔ (faultT a).1 = 0 ∧ (faultT b).1 = 0 ∧ (toks a).length + (toks b).length ≤ 40 := by
  rw [fine_iff, fine_iff, fine_iff, toks_parts, List.length_append, List.length_append, List.length_cons]
  constructor
  · rintro ⟨_, h2, h3⟩
    exact ⟨⟨by omega, fun c hc => h2 c (List.mem_append.2 (.inl hc)), by omega⟩, ⟨by omega, fun c hc => h2 c (List.mem_append.2 (.inr (List.mem_cons_of_mem _ hc))), by omega⟩, h3⟩
  · rintro ⟨⟨_, h2, _⟩, ⟨_, h3, _⟩, h4⟩
    refine ⟨by omega, fun c hc => ?_, h4⟩
    rcases List.mem_append.1 hc with hc | hc
    · exact h2 c hc
    · rcases List.mem_cons.1 hc with rfl | hc
      · decide
      · exact h3 c hc
theorem fault_kind {s : List UInt8} (h : s.length ≤ 200) : (faultT s).1 = 0 ∨ ((faultT s).1 = 4 ∧ ∃ c ∈ s, lineB c = false) ∨ ((faultT s).1 = 8 ∧ (∀ c ∈ s, lineB c = true) ∧ 40 < (toks s).length) := by
  by_cases h1 : ∀ c ∈ s, lineB c = true
  · rw [fault_rest h (getD_all.2 h1)]
    by_cases h2 : 40 < (toks s).length
    · rw [if_pos h2]; exact .inr (.inr ⟨rfl, h1, h2⟩)
    · rw [if_neg h2]; exact .inl rfl
  · refine .inr (.inl ?_)
    have hc : ∃ c ∈ s, lineB c = false := Classical.byContradiction fun hn => h1 fun c hc => by
      cases e : lineB c with
      | true => rfl
      | false => exact absurd ⟨c, hc, e⟩ hn
    refine ⟨?_, hc⟩
    unfold faultT
    rw [if_neg (by omega)]
    cases e : (List.range s.length).find? fun i => !lineB (s.getD i 0) with
    | some i => rfl
    | none =>
      rw [List.find?_eq_none] at e
      exact absurd (getD_all.1 fun j hj => by have := e j (List.mem_range.2 hj); simpa using this) h1
/-- Lines of the same tokens and kinds of bytes have the same fault's kind. -/
theorem fault_same {s t : List UInt8} (hs : s.length ≤ 200) (ht : t.length ≤ 200) (hb : (∀ c ∈ s, lineB c = true) ↔ ∀ c ∈ t, lineB c = true) (hk : (toks s).length = (toks t).length) : (faultT s).1 = (faultT t).1 := by
  rcases fault_kind hs with h | ⟨h, c, hc, hcb⟩ | ⟨h, h1, h2⟩
  · rw [h]
    obtain ⟨_, h2, h3⟩ := fine_iff.1 h
    exact (fine_iff.2 ⟨ht, hb.1 h2, by omega⟩).symm
  · rw [h]
    rcases fault_kind ht with h' | ⟨h', _⟩ | ⟨h', h1, _⟩
    · have := hb.2 (fine_iff.1 h').2.1 c hc
      rw [hcb] at this; cases this
    · exact h'.symm
    · have := hb.2 h1 c hc
      rw [hcb] at this; cases this
  · rw [h]
    rcases fault_kind ht with h' | ⟨h', c, hc, hcb⟩ | ⟨h', _, _⟩
    · have := (fine_iff.1 h').2.2; omega
    · have := hb.1 h1 c hc
      rw [hcb] at this; cases this
    · exact h'.symm
theorem line_up (c : UInt8) : lineB (upB c) = lineB c := by
  unfold lineB
  rw [up_nat, decide_eq_decide]
  split <;> omega
theorem dbl_len : ∀ s : List UInt8, (dblB s).length ≤ 2 * s.length
  | [] => Nat.le_refl _
  | c :: r => by
    have := dbl_len r
    unfold dblB
    split
    · simp only [List.length_cons]; omega
    · simp only [List.length_cons]; omega
theorem dbl_bytes : ∀ s : List UInt8, (∀ c ∈ dblB s, lineB c = true) ↔ ∀ c ∈ s, lineB c = true
  | [] => Iff.rfl
  | c :: r => by
    have ih := dbl_bytes r
    unfold dblB
    split
    · rename_i e
      subst e
      constructor
      · intro h d hd
        rcases List.mem_cons.1 hd with rfl | hd
        · decide
        · exact ih.1 (fun x hx => h x (List.mem_cons_of_mem _ (List.mem_cons_of_mem _ hx))) d hd
      · intro h d hd
        rcases List.mem_cons.1 hd with rfl | hd
        · decide
        · rcases List.mem_cons.1 hd with rfl | hd
          · decide
          · exact ih.2 (fun x hx => h x (List.mem_cons_of_mem _ hx)) d hd
    · constructor
      · intro h d hd
        rcases List.mem_cons.1 hd with rfl | hd
        · exact h _ (List.mem_cons_self ..)
        · exact ih.1 (fun x hx => h x (List.mem_cons_of_mem _ hx)) d hd
      · intro h d hd
        rcases List.mem_cons.1 hd with rfl | hd
        · exact h _ (List.mem_cons_self ..)
        · exact ih.2 (fun x hx => h x (List.mem_cons_of_mem _ hx)) d hd
end Go.Proofs.Ytpoahdfhhnlghaa

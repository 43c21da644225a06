/- Tokens: mathematics: the tokens of a line, by a state; what does not matter to them; the text of tokens. -/
namespace Go.Proofs.Ytpoahdfhhnlghaa
set_option linter.unusedVariables false
set_option linter.unusedSimpArgs false

def letB (c : UInt8) : Bool := decide (65 ≤ c.toNat ∧ c.toNat ≤ 90) || decide (97 ≤ c.toNat ∧ c.toNat ≤ 122)
def digB (c : UInt8) : Bool := decide (48 ≤ c.toNat ∧ c.toNat ≤ 57)
def joinB (c : UInt8) : Bool := decide (c.toNat = 45 ∨ c.toNat = 47 ∨ c.toNat = 39 ∨ c.toNat = 46)
def sndB (c : UInt8) : Bool := letB c || digB c
def upB (c : UInt8) : UInt8 := if 97 ≤ c.toNat ∧ c.toNat ≤ 122 then UInt8.ofNat (c.toNat - 32) else c
theorem up_nat (c : UInt8) : (upB c).toNat = if 97 ≤ c.toNat ∧ c.toNat ≤ 122 then c.toNat - 32 else c.toNat := by
  have := UInt8.toNat_lt c
  unfold upB
  split
  · rw [UInt8.toNat_ofNat']
    omega
  · rfl
theorem up_up (c : UInt8) : upB (upB c) = upB c := by
  apply UInt8.toNat_inj.1
  rw [up_nat (upB c), if_neg]
  rw [up_nat]
  split <;> omega
theorem snd_up (c : UInt8) : sndB (upB c) = sndB c := by
  have := UInt8.toNat_lt c
  unfold sndB letB digB
  rw [up_nat, Bool.eq_iff_iff]
  simp only [Bool.or_eq_true, decide_eq_true_eq]
  split <;> omega
theorem join_up (c : UInt8) : joinB (upB c) = joinB c := by
  unfold joinB
  rw [up_nat, decide_eq_decide]
  split <;> omega
/-- Is a byte a word's, between the one before and what comes? -/
def wdB (p c : UInt8) (r : List UInt8) : Bool := sndB c || (joinB c && sndB p && sndB (r.headD 0))
abbrev Tk := Int × List UInt8
def kindT (t : List UInt8) : Int := if letB (t.headD 0) then 1 else if t.all digB then 2 else 3
def flushT (cur : List UInt8) : List Tk := if cur = [] then [] else [(kindT cur, cur)]
def sepT (c : UInt8) : List Tk := if c = 44 then [(4, [44])] else if c = 35 then [(5, [35])] else []
/-- The tokens of what is left of a line, behind a byte, within a part (in capital letters). -/
def tokL : UInt8 → List UInt8 → List UInt8 → List Tk
  | _, [], cur => flushT cur
  | p, c :: r, cur => if wdB p c r then tokL c r (cur ++ [upB c]) else flushT cur ++ (sepT c ++ tokL c r [])
def toks (s : List UInt8) : List Tk := tokL 0 s []
theorem snd_0 : sndB 0 = false := by decide
theorem tok_prev {p q : UInt8} (h : sndB p = sndB q) (b cur : List UInt8) : tokL p b cur = tokL q b cur := by
  cases b with
  | nil => rfl
  | cons c r => unfold tokL wdB; rw [h]
/-- Bytes that are in no word. -/
def hardB (c : UInt8) : Bool := !sndB c && !joinB c
theorem hard_iff {c : UInt8} : hardB c = true ↔ sndB c = false ∧ joinB c = false := by unfold hardB; simp
theorem tok_hard {c : UInt8} (hc : hardB c = true) (b : List UInt8) : ∀ (a : List UInt8) (p : UInt8) (cur : List UInt8), tokL p (a ++ c :: b) cur = tokL p a cur ++ (sepT c ++ toks b) := by
  obtain ⟨h1, h2⟩ := hard_iff.1 hc
  intro a
  induction a with
  | nil =>
    intro p cur
    have hw : wdB p c b = false := by unfold wdB; rw [h1, h2]; rfl
    rw [List.nil_append]
    unfold tokL
    rw [hw]
    rw [if_neg (by decide), tok_prev (q := 0) (by rw [h1, snd_0])]
    rfl
  | cons x a ih =>
    intro p cur
    have hw : wdB p x (a ++ c :: b) = wdB p x a := by
      unfold wdB
      cases a with
      | nil => rw [List.nil_append, List.headD_cons, List.headD_nil, h1, snd_0]
      | cons y a => rfl
    rw [List.cons_append]
    unfold tokL
    rw [hw]
    split
    · exact ih _ _
    · rw [ih, List.append_assoc, List.append_assoc]
theorem toks_hard {c : UInt8} (hc : hardB c = true) (a b : List UInt8) : toks (a ++ c :: b) = toks a ++ (sepT c ++ toks b) := tok_hard hc b a 0 []
theorem toks_sep {c : UInt8} (hc : hardB c = true) (b : List UInt8) : toks (c :: b) = sepT c ++ toks b := by
  have := toks_hard hc [] b
  rw [List.nil_append] at this
  rw [this]; rfl
/-- Two lines with a blank between. -/
theorem toks_parts (a b : List UInt8) : toks (a ++ 32 :: b) = toks a ++ toks b := toks_hard (c := 32) (by decide) a b
theorem toks_blank (b : List UInt8) : toks (32 :: b) = toks b := toks_sep (c := 32) (by decide) b
/-- Capital letters. -/
theorem tok_up : ∀ (s : List UInt8) (p : UInt8) (cur : List UInt8), tokL (upB p) (s.map upB) cur = tokL p s cur
  | [], _, _ => rfl
  | c :: r, p, cur => by
    have hw : wdB (upB p) (upB c) (r.map upB) = wdB p c r := by
      unfold wdB
      rw [snd_up, join_up, snd_up]
      cases r with
      | nil => rfl
      | cons d r => rw [List.map_cons, List.headD_cons, List.headD_cons, snd_up]
    have hs : sepT (upB c) = sepT c := by
      have h1 : upB c = 44 ↔ c = 44 := by
        constructor
        · intro h
          have := congrArg UInt8.toNat h
          rw [up_nat] at this
          apply UInt8.toNat_inj.1
          rw [show (44 : UInt8).toNat = 44 from rfl] at this ⊢
          split at this <;> omega
        · rintro rfl; rfl
      have h2 : upB c = 35 ↔ c = 35 := by
        constructor
        · intro h
          have := congrArg UInt8.toNat h
          rw [up_nat] at this
          apply UInt8.toNat_inj.1
          rw [show (35 : UInt8).toNat = 35 from rfl] at this ⊢
          split at this <;> omega
        · rintro rfl; rfl
      unfold sepT
      simp only [h1, h2]
    rw [List.map_cons]
    unfold tokL
    rw [hw, hs, up_up, tok_up r c, tok_up r c]
theorem up_0 : upB 0 = 0 := by decide
theorem toks_up (s : List UInt8) : toks (s.map upB) = toks s := by
  have := tok_up s 0 []
  rw [up_0] at this
  exact this
theorem toks_same {s t : List UInt8} (h : s.map upB = t.map upB) : toks s = toks t := by rw [← toks_up s, h, toks_up]
/-- A tab behind each blank. -/
def dblB : List UInt8 → List UInt8
  | [] => []
  | c :: r => if c = 32 then 32 :: 9 :: dblB r else c :: dblB r
theorem tok_dbl : ∀ (s : List UInt8) (p : UInt8) (cur : List UInt8), tokL p (dblB s) cur = tokL p s cur
  | [], _, _ => rfl
  | c :: r, p, cur => by
    unfold dblB
    by_cases h : c = 32
    · subst h
      rw [if_pos rfl]
      have e : ∀ (q : UInt8) (b cur' : List UInt8), tokL q (32 :: b) cur' = flushT cur' ++ toks b := fun q b cur' => by
        have := tok_hard (c := 32) (by decide) b [] q cur'
        rw [List.nil_append] at this
        rw [this]; rfl
      rw [e, e, toks_sep (c := 9) (by decide)]
      show flushT cur ++ ([] ++ tokL 0 (dblB r) []) = _
      rw [List.nil_append, tok_dbl r 0 []]
      rfl
    · rw [if_neg h]
      have hw : wdB p c (dblB r) = wdB p c r := by
        unfold wdB
        cases r with
        | nil => rfl
        | cons d r =>
          have : (dblB (d :: r)).headD 0 = d := by
            unfold dblB
            by_cases e : d = 32
            · rw [if_pos e, e]; rfl
            · rw [if_neg e]; rfl
          rw [this]; rfl
      unfold tokL
      rw [hw, tok_dbl r, tok_dbl r]
theorem toks_dbl (s : List UInt8) : toks (dblB s) = toks s := tok_dbl s 0 []
/-- A point and a blank behind. -/
theorem tok_point : ∀ (s : List UInt8) (p : UInt8) (cur : List UInt8), tokL p (s ++ [46, 32]) cur = tokL p s cur
  | [], p, cur => by
    have h1 : wdB p 46 [32] = false := by
      unfold wdB
      rw [List.headD_cons, show sndB 32 = false by decide, show sndB 46 = false by decide, Bool.and_false]; rfl
    have h2 : wdB 46 32 [] = false := by decide
    rw [List.nil_append]
    unfold tokL
    rw [h1]
    rw [if_neg (by decide)]
    unfold tokL
    rw [h2]
    rw [if_neg (by decide)]
    unfold tokL
    show flushT cur ++ ([] ++ ([] ++ ([] ++ []))) = flushT cur
    simp
  | c :: r, p, cur => by
    have hw : wdB p c (r ++ [46, 32]) = wdB p c r := by
      unfold wdB
      cases r with
      | nil => rw [List.nil_append, List.headD_cons, List.headD_nil, snd_0, show sndB 46 = false by decide]
      | cons d r => rfl
    rw [List.cons_append]
    unfold tokL
    rw [hw, tok_point r, tok_point r]
theorem toks_point (s : List UInt8) : toks (s ++ [46, 32]) = toks s := tok_point s 0 []
end Go.Proofs.Ytpoahdfhhnlghaa

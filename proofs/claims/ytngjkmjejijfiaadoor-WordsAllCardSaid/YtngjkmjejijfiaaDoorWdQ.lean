/- Words: mathematics: the table of a kind as a map from texts to pairs of texts. -/
import Derived.Test.YtngjkmjejijfiaaDoorWdA
import Derived.Maps.RangeWalk
namespace Go.Proofs.YtngjkmjejijfiaaDoor
set_option linter.unusedVariables false
set_option linter.unusedSimpArgs false
open Go.RowKit Go.Maps

/-- A pair of texts as a struct's value, and how an element of the map reads. -/
def eV (p : Wd) : Value := .agg #[sV p.1, sV p.2]
theorem eV_inj {p q : Wd} (h : eV p = eV q) : p = q := by
  obtain ⟨a, b⟩ := p
  obtain ⟨c, d⟩ := q
  simp [eV] at h
  rw [h.1, h.2]
open Classical in
noncomputable def Rv (v : Value) : Option (DataW Value × List MemPlace) := if ∃ p, v = eV p then some (.held v, []) else none
theorem rv_at (p : Wd) : Rv (eV p) = some (.held (eV p), []) := if_pos ⟨p, rfl⟩
theorem rv_inv {v : Value} {y : DataW Value × List MemPlace} (h : Rv v = some y) : ∃ p, v = eV p ∧ y = (.held v, []) := by
  unfold Rv at h
  split at h
  case isTrue hx => obtain ⟨p, hp⟩ := hx; exact ⟨p, hp, (Option.some.inj h).symm⟩
  case isFalse => cases h
abbrev kL (x : Tx) : Lit := .string x
def put2 (D : DataW Value) (p : Wd) : DataW Value := (D.put (kL p.1) (.held (eV p))).put (kL p.2) (.held (eV p))
def tabD (T : List Wd) : DataW Value := T.foldl put2 (.map [])
def stepL (x : Tx) (o : Option Wd) (p : Wd) : Option Wd := if p.1 = x ∨ p.2 = x then some p else o
theorem stepL_yes {x : Tx} {o : Option Wd} {p : Wd} (h : p.1 = x ∨ p.2 = x) : stepL x o p = some p := if_pos h
theorem stepL_no {x : Tx} {o : Option Wd} {p : Wd} (h : ¬ (p.1 = x ∨ p.2 = x)) : stepL x o p = o := if_neg h
def lastW (T : List Wd) (x : Tx) : Option Wd := T.foldl (stepL x) none
theorem put2_map {D : DataW Value} (h : IsMap D) (p : Wd) : IsMap (put2 D p) := by
  obtain ⟨es, rfl⟩ := h
  exact ⟨_, rfl⟩
theorem fold_at (x : Tx) : ∀ (T : List Wd) (D : DataW Value) (o : Option Wd), IsMap D → (∀ z, D.atKey (kL x) z = match (generalizing := false) o with | some p => .held (eV p) | none => z) →
    ∀ z, (T.foldl put2 D).atKey (kL x) z = match (generalizing := false) T.foldl (stepL x) o with | some p => .held (eV p) | none => z
  | [], D, o, _, h => h
  | p :: T, D, o, hD, h => by
    refine fold_at x T (put2 D p) _ (put2_map hD p) fun z => ?_
    have hD1 : IsMap (D.put (kL p.1) (.held (eV p))) := by obtain ⟨es, rfl⟩ := hD; exact ⟨_, rfl⟩
    unfold put2
    by_cases h2 : p.2 = x
    · rw [stepL_yes (.inr h2), ← h2, atKey_put_same hD1 (k := kL p.2) trivial]
    · rw [atKey_put_other (fun e => h2 (by injection e with e; exact e.symm))]
      by_cases h1 : p.1 = x
      · rw [stepL_yes (.inl h1), ← h1, atKey_put_same hD (k := kL p.1) trivial]
      · rw [atKey_put_other (fun e => h1 (by injection e with e; exact e.symm)), stepL_no (by rintro (e | e) <;> contradiction)]
        exact h z
theorem tab_at (T : List Wd) (x : Tx) (z : DataW Value) : (tabD T).atKey (kL x) z = match (generalizing := false) lastW T x with | some p => .held (eV p) | none => z :=
  fold_at x T (.map []) none ⟨[], rfl⟩ (fun _ => rfl) z
theorem last_mem (x : Tx) : ∀ (T : List Wd) (o : Option Wd) (p : Wd), T.foldl (stepL x) o = some p → (p ∈ T ∧ (p.1 = x ∨ p.2 = x)) ∨ o = some p
  | [], o, p, h => .inr h
  | q :: T, o, p, h => by
    rcases last_mem x T _ p h with ⟨a, b⟩ | h1
    · exact .inl ⟨List.mem_cons_of_mem _ a, b⟩
    · by_cases hq : q.1 = x ∨ q.2 = x
      · rw [stepL_yes hq] at h1; cases h1; exact .inl ⟨List.mem_cons_self, hq⟩
      · rw [stepL_no hq] at h1; exact .inr h1
theorem last_none (x : Tx) : ∀ (T : List Wd) (o : Option Wd), T.foldl (stepL x) o = none → o = none ∧ ∀ p ∈ T, ¬ (p.1 = x ∨ p.2 = x)
  | [], o, h => ⟨h, fun _ hp => nomatch hp⟩
  | q :: T, o, h => by
    obtain ⟨h1, h2⟩ := last_none x T _ h
    by_cases hq : q.1 = x ∨ q.2 = x
    · rw [stepL_yes hq] at h1; cases h1
    · rw [stepL_no hq] at h1
      refine ⟨h1, fun p hp => ?_⟩
      rcases List.mem_cons.1 hp with rfl | hp
      · exact hq
      · exact h2 p hp
/-- In the tables of the four kinds no text is two pairs'. -/
theorem last_short (k : Int) (x : Tx) : lastW (wdT k) x = shortW (wdT k) x := by
  cases h : lastW (wdT k) x with
  | none =>
    have h1 := (last_none x (wdT k) none h).2
    unfold shortW
    symm
    rw [List.find?_eq_none]
    intro p hp
    simpa using h1 p hp
  | some p =>
    rcases last_mem x (wdT k) none p h with ⟨hm, hx⟩ | h1
    · obtain ⟨a, b, _⟩ := fine_at hm
      rcases hx with rfl | rfl
      · exact a.symm
      · exact b.symm
    · cases h1
/-- What the map holds at a text. -/
theorem tab_short (k : Int) (x : Tx) (z : DataW Value) : (tabD (wdT k)).atKey (kL x) z = match (generalizing := false) shortW (wdT k) x with | some p => .held (eV p) | none => z := by
  rw [tab_at, last_short]
theorem tab_has {k : Int} {x : Tx} : has (tabD (wdT k)) (kL x) = (shortW (wdT k) x).isSome := by
  have h := tab_short k x
  cases hs : shortW (wdT k) x with
  | none => rw [hs] at h; exact has_false_of_atKey h
  | some p => rw [hs] at h; exact has_true_of_atKey h
end Go.Proofs.YtngjkmjejijfiaaDoor

/- Package words: All. -/
import Derived.Test.YtngjkmjejijfiaaDoorWdR
import Derived.Sort.Walk0
namespace Go.Proofs.YtngjkmjejijfiaaDoor
set_option linter.unusedVariables false
set_option linter.unusedSimpArgs false
open Go.RowKit Go.Maps

/-- What has been collected. -/
def HasP (D : DataW Value) (x : Tx) (p : Wd) : Prop := ∀ z, D.atKey (kL x) z = .held (eV p)
theorem hasp_one {D : DataW Value} {x : Tx} {p q : Wd} (h : HasP D x p) (h' : HasP D x q) : p = q := eV_inj (DataW.held.inj ((h .nil).symm.trans (h' .nil)))
def InvA (D : DataW Value) (left : Lit → Bool) (K : List Tx) : Prop := K.Nodup ∧ ∀ x, x ∈ K ↔ ((∃ p, HasP D x p ∧ p.2 = x) ∧ left (kL x) = false)
theorem inva_start (D : DataW Value) : InvA D (has D) [] := by
  refine ⟨List.nodup_nil, fun x => ?_⟩
  refine Iff.intro (fun h => by cases h) ?_
  rintro ⟨⟨p, hp, _⟩, h⟩
  rw [has_true_of_atKey hp] at h
  cases h
theorem inva_yes {D : DataW Value} {left : Lit → Bool} {K : List Tx} (h : InvA D left K) {x : Tx} {p : Wd} (hl : left (kL x) = true) (hat : HasP D x p) (hx : p.2 = x) : InvA D (fun z => left z && !z.sameKey (kL x)) (K ++ [x]) := by
  refine ⟨?_, fun y => ?_⟩
  · rw [List.nodup_append]
    refine ⟨h.1, by simp, fun a ha b hb e => ?_⟩
    rw [List.mem_singleton.1 hb] at e
    rw [e] at ha
    have := ((h.2 x).1 ha).2
    rw [hl] at this
    cases this
  · rw [List.mem_append, List.mem_singleton]
    constructor
    · rintro (hy | rfl)
      · obtain ⟨h1, h2⟩ := (h.2 y).1 hy
        exact ⟨h1, by simp [h2]⟩
      · exact ⟨⟨p, hat, hx⟩, by simp [Lit.sameKey]⟩
    · rintro ⟨h1, h2⟩
      by_cases hy : y = x
      · exact .inr hy
      · refine .inl ((h.2 y).2 ⟨h1, ?_⟩)
        have hs : (kL y).sameKey (kL x) = false := by simpa [Lit.sameKey] using hy
        simpa [hs] using h2
theorem inva_no {D : DataW Value} {left : Lit → Bool} {K : List Tx} (h : InvA D left K) {x : Tx} {p : Wd} (hat : HasP D x p) (hx : p.2 ≠ x) : InvA D (fun z => left z && !z.sameKey (kL x)) K := by
  refine ⟨h.1, fun y => ?_⟩
  constructor
  · intro hy
    obtain ⟨h1, h2⟩ := (h.2 y).1 hy
    exact ⟨h1, by simp [h2]⟩
  · rintro ⟨⟨q, hq, hqy⟩, h2⟩
    by_cases hy : y = x
    · subst hy
      exact absurd ((hasp_one hat hq) ▸ hqy) hx
    · refine (h.2 y).2 ⟨⟨q, hq, hqy⟩, ?_⟩
      have hs : (kL y).sameKey (kL x) = false := by simpa [Lit.sameKey] using hy
      simpa [hs] using h2
theorem all_pair (k : Int) : (allW (wdT k)).Pairwise (fun a b => ltW a b = true) := by
  unfold wdT
  split
  · decide +kernel
  · split
    · decide +kernel
    · split
      · decide +kernel
      · split
        · decide +kernel
        · decide +kernel
theorem ltW_lt {a b : Tx} (h : ltW a b = true) : a < b := by
  have := Go.Proofs.bytesLess_eq a b
  rw [show Op.bytesLess a b = true from h] at this
  exact of_decide_eq_true this.symm
theorem inva_end {k : Int} {K : List Tx} {left : Lit → Bool} (h : InvA (tabD (wdT k)) left K) (hl : ∀ kl, left kl = false) : K.mergeSort leB = allW (wdT k) := by
  have hp := all_pair k
  have hnd : (allW (wdT k)).Nodup := hp.imp fun {a b} hab e => by
    have h1 := ltW_lt hab
    rw [e] at h1
    exact List.lt_irrefl b h1
  have hperm : K.Perm (allW (wdT k)) := (List.perm_ext_iff_of_nodup h.1 hnd).2 fun x => by
    rw [h.2 x]
    unfold allW
    rw [sort_mem, List.mem_map]
    constructor
    · rintro ⟨⟨p, hp, hx⟩, _⟩
      cases hs : shortW (wdT k) x with
      | none => have := (at_none hs .nil).symm.trans (hp .nil); cases this
      | some q =>
        have : q = p := hasp_one (at_some hs) hp
        subst this
        exact ⟨q, (short_mem hs).1, hx⟩
    · rintro ⟨p, hp, rfl⟩
      exact ⟨⟨p, at_some (fine_at hp).2.1, rfl⟩, hl _⟩
  rw [mergeSort_of_perm hperm]
  exact List.mergeSort_of_pairwise (hp.imp fun {a b} hab => decide_eq_true (List.le_of_lt (ltW_lt hab)))
end Go.Proofs.YtngjkmjejijfiaaDoor

/- Package words: the sort of a row of texts of the call's own. -/
import Derived.Test.YtngjkmjejijfiaaDoorWdW
import Derived.Sort.KeysCollected
import Derived.Sort.OwnSorted
namespace Go.Proofs.YtngjkmjejijfiaaDoor
set_option linter.unusedVariables false
set_option linter.unusedSimpArgs false
open Go.RowKit Go.Maps Go.Sort

/-- The row stays what it is while other blocks are written and new ones are made. -/
theorem SFull.kept {w w' : World} {base : Nat} {v : Value} {K : List Tx} {row : Option Nat} (h : SFull w base v K) (hg : w.grownBy w' row) (hne : ∀ k, v.ownBlock = some k → some k ≠ row) : SFull w' base v K := by
  obtain ⟨h1, h2, h3⟩ := h
  refine ⟨?_, ?_, h3⟩
  · have hlt := h1.block
    rcases h1 with ⟨hl, hn | ⟨g, cap, cur, rfl, hb, hc, rest⟩⟩
    · exact ⟨hl, .inl hn⟩
    · refine ⟨hl, .inr ⟨g, cap, cur, rfl, hb, ?_, rest⟩⟩
      rw [hg.block g (hlt g rfl).2 (hne g rfl)]
      exact hc
  · intro g n cap hv
    obtain ⟨cur, hc, hu⟩ := h2 g n cap hv
    subst hv
    exact ⟨cur, by rw [hg.block g (Array.getElem?_eq_some_iff.1 hc).1 (hne g rfl)]; exact hc, hu⟩
theorem s_Sort (base : Nat) (v : Value) (K : List Tx) (w : World) (h : SFull w base v K) (hl : K.length ≤ 1000) : Calls Tryd.prog 20 #[v] w fun e w' =>
    e = .returned (.tuple #[]) ∧ SFull w' base v (K.mergeSort leB) ∧ w.grownBy w' v.ownBlock := by
  obtain ⟨hs, ha, hsh⟩ := h
  have hs' := hs
  rcases hs' with ⟨hl1, ⟨rfl, hn⟩ | ⟨g, cap, cur, rfl, hbase, hb, h1, h2, h3, h4⟩⟩
  · have hK : K = [] := by simpa [scells] using hn
    subst hK
    refine (Tryd.slices_Sort_string_none none 0 w).mono ?_
    rintro e w' ⟨rfl, rfl⟩
    exact ⟨rfl, by rw [List.mergeSort_nil]; exact sfull_nil _ _, ⟨rfl, rfl, rfl, Nat.le_refl _, fun _ _ _ => rfl⟩⟩
  · have hg : g < w.heap.size := (Array.getElem?_eq_some_iff.1 hb).1
    have hlen : (K.mergeSort leB).length = K.length := List.length_mergeSort K
    refine (Tryd.slices_Sort_string g 0 cap K w (holds_of_block hb (by rw [Nat.mul_one] at h4; exact h4)) hg (by omega)).mono ?_
    rintro e w' ⟨rfl, n, os, rfl⟩
    refine ⟨rfl, ⟨?_, ?_, ?_⟩, grownBy_sorted _⟩
    · have := ownsRow_sorted (n := n) (os := os) (ts := K.mergeSort leB) hlen hbase hb h1 h2 h3
      unfold SOwns
      rw [hlen]
      exact this
    · intro g' n' cap' e
      cases e
      refine ⟨_, heap_sorted _ hb, fun u hu => ?_⟩
      obtain ⟨cur', hc', hu'⟩ := ha g _ _ rfl
      rw [hb] at hc'
      cases hc'
      unfold putCells at hu
      rw [Array.mem_toList_iff] at hu
      obtain ⟨i, hi, rfl⟩ := Array.mem_mapIdx.1 hu
      by_cases hc : 0 ≤ i ∧ i < 0 + (K.mergeSort leB).toArray.size
      · rw [if_pos hc]
        have hi2 : i < (K.mergeSort leB).length := by simpa using hc.2
        refine ⟨(K.mergeSort leB)[i], hsh _ (List.mem_mergeSort.1 (List.getElem_mem hi2)), ?_⟩
        have hi3 : i < (K.mergeSort fun x y => decide (x ≤ y)).length := hi2
        simp [encStr]
        rw [List.getElem?_eq_getElem hi3]
        rfl
      · rw [if_neg hc]
        exact hu' _ (by simp)
    · intro x hx
      exact hsh x (List.mem_mergeSort.1 hx)
end Go.Proofs.YtngjkmjejijfiaaDoor

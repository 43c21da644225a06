/- The law RegionBoxes: the walk. -/
import Derived.Test.YtfkhefiilmdhmaaGreatReTwo
import Derived.Test.YtfkhefiilmdhmaaGreatPtThree
namespace Go.Proofs.YtfkhefiilmdhmaaGreat
set_option linter.unusedVariables false
set_option linter.unusedSimpArgs false
open Go.RowKit

theorem alln_flat (R : List (List Pt)) : R.flatten.length = allN R := by unfold allN; rw [List.length_flatten]
theorem le_alln {R : List (List Pt)} {K : List Pt} (hK : K ∈ R) : K.length ≤ allN R := by
  unfold allN
  induction R with
  | nil => cases hK
  | cons M R ih =>
    rw [List.map_cons, List.sum_cons]
    rcases List.mem_cons.1 hK with rfl | h
    · omega
    · have := ih h; omega
theorem fine_bnd {R : List (List Pt)} (h : (checkR R).1 = 0) : bndOk R.flatten = true := by
  have hf := checkR_fine.1 h
  unfold bndOk
  rw [Bool.and_eq_true]
  constructor
  · rw [decide_eq_true_eq, alln_flat]
    have h0 := hf.few
    have := le_alln (List.getElem_mem h0)
    have := (hf.each _ (List.getElem_mem h0)).few
    omega
  · unfold allOk
    rw [List.all_eq_true]
    intro p hp
    obtain ⟨K, hK, hp⟩ := List.mem_flatten.1 hp
    obtain ⟨i, hi, e⟩ := List.mem_iff_getElem.1 hp
    have := (hf.each K hK).ok i hi
    rw [List.getD_eq_getElem?_getD, List.getElem?_eq_getElem hi, Option.getD_some, e] at this
    exact this
theorem flat_ok {K : List Pt} (h : bndOk K = true) : ∀ a ∈ K, okC a = true := by
  have hb2 : 0 < K.length ∧ allOk K = true := by simpa [bndOk] using h
  intro a ha
  have := hb2.2
  unfold allOk at this
  exact List.all_eq_true.1 this a ha

end Go.Proofs.YtfkhefiilmdhmaaGreat

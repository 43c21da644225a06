/- Facts of RegionKnown: what is so of the chapter's regions. -/
import Derived.Test.YtfkhefiilmdhmaaGreatReTwo
import Derived.Test.YtfkhefiilmdhmaaGreatReThree
namespace Go.Proofs.YtfkhefiilmdhmaaGreat
set_option linter.unusedVariables false
set_option linter.unusedSimpArgs false
open Go.RowKit

def tsR : List (List Pt) := [boxR 2 2 4 4, boxR 0 0 9 9]
def ssR : List (List Pt) := [boxR 0 0 9 9, boxR 0 0 9 9]
def s2R : List (List Pt) := [boxR 0 0 9 9, [(2, 2), (4, 2)]]
theorem kn_ss : checkR ssR = (210, 0) := by decide +kernel
theorem kn_none : checkR [] = (2, 0) := by decide +kernel
theorem kn_few : checkR s2R = (190, 1) := by decide +kernel
theorem kn_st : checkR stR = (0, 0) := by decide +kernel
theorem kn_ts : checkR tsR = (0, 0) := by decide +kernel
theorem kn_s : checkR [boxR 0 0 9 9] = (0, 0) := by decide +kernel
theorem kn_t : checkR [boxR 2 2 4 4] = (0, 0) := by decide +kernel
theorem kn_box : bndOk stR.flatten = true ∧ boxF stR.flatten = (0, 0, 10, 10) := by decide +kernel
theorem kn_boxV : boxV stR.flatten = bxV 0 0 10 10 := by unfold boxV; rw [kn_box.2]
theorem kn_same : sameG stR tsR = true := by
  unfold sameG
  rw [kn_st, kn_ts]
  simp only [decide_true, Bool.true_and]
  rw [List.isPerm_iff]
  exact List.Perm.swap _ _ _
theorem rot_in (K : List Pt) (s : Int) (a : Pt) : a ∈ rotF K s ↔ a ∈ K := by
  by_cases hn : 0 < K.length
  · obtain ⟨k, hk, _, hm⟩ := cyc_at (K := K) hn s
    rw [rot_mod (show s % (K.length : Int) = (k : Int) % (K.length : Int) by rw [hm]; exact (Int.emod_eq_of_lt (by omega) (by omega)).symm), rot_dt K k (by omega)]
    conv => rhs; rw [← List.take_append_drop k K]
    simp only [List.mem_append]
    exact Or.comm
  · have : K = [] := List.eq_nil_of_length_eq_zero (by omega)
    subst this
    simp [rotF]
theorem norm_mem {K : List Pt} (h : fineQ K) {a : Pt} : a ∈ normF K ↔ a ∈ K := by
  obtain ⟨s, e | e⟩ := (norm_is h).of
  · rw [e]; exact rot_in K s a
  · rw [e, rot_in K.reverse s a, List.mem_reverse]
theorem kn_diff : sameG [boxR 0 0 9 9] [boxR 2 2 4 4] = false := by
  unfold sameG
  rw [kn_s, kn_t]
  simp only [decide_true, Bool.true_and]
  rw [← Bool.not_eq_true, List.isPerm_iff]
  intro h
  have h1 : fineQ (boxR 0 0 9 9) := (checkR_fine.1 (show (checkR [boxR 0 0 9 9]).1 = 0 by rw [kn_s])).each _ (by simp)
  have h2 : fineQ (boxR 2 2 4 4) := (checkR_fine.1 (show (checkR [boxR 2 2 4 4]).1 = 0 by rw [kn_t])).each _ (by simp)
  have e : normF (boxR 0 0 9 9) = normF (boxR 2 2 4 4) := by
    have := h.mem_iff (a := normF (boxR 0 0 9 9))
    simpa using this
  have m : ((0, 0) : Pt) ∈ normF (boxR 0 0 9 9) := (norm_mem h1).2 (by simp [boxR])
  rw [e] at m
  have := (norm_mem h2).1 m
  simp [boxR] at this
end Go.Proofs.YtfkhefiilmdhmaaGreat

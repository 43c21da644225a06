/- The least box holds all points, and no lesser one does: mathematics for PointBounds. No program. -/
import Derived.Test.YthjjhfopmianoaaPtJ
import Derived.Test.YthjjhfopmianoaaKitTwo
import Derived.Test.YthjjhfopmianoaaKitOne
namespace Go.Proofs.Ythjjhfopmianoaa
set_option linter.unusedVariables false
set_option linter.unusedSimpArgs false
open Go.RowKit

theorem min_fold (f : Int × Int → Int) : ∀ (L : List (Int × Int)) (s : Int), L.foldl (fun s p => min s (f p)) s ≤ s ∧ (∀ p ∈ L, L.foldl (fun s p => min s (f p)) s ≤ f p) ∧ (L.foldl (fun s p => min s (f p)) s = s ∨ ∃ p ∈ L, f p = L.foldl (fun s p => min s (f p)) s)
  | [], s => ⟨Int.le_refl _, fun p hp => (by cases hp), .inl rfl⟩
  | q :: L, s => by
    obtain ⟨h1, h2, h3⟩ := min_fold f L (min s (f q))
    simp only [List.foldl_cons]
    refine ⟨by omega, fun p hp => ?_, ?_⟩
    · rcases List.mem_cons.1 hp with rfl | hp
      · omega
      · exact h2 p hp
    · rcases h3 with h3 | ⟨p, hp, h3⟩
      · rcases Int.le_total s (f q) with h | h
        · exact .inl (by omega)
        · exact .inr ⟨q, by simp, by omega⟩
      · exact .inr ⟨p, by simp [hp], h3⟩
theorem max_fold (f : Int × Int → Int) : ∀ (L : List (Int × Int)) (s : Int), s ≤ L.foldl (fun s p => max s (f p)) s ∧ (∀ p ∈ L, f p ≤ L.foldl (fun s p => max s (f p)) s) ∧ (L.foldl (fun s p => max s (f p)) s = s ∨ ∃ p ∈ L, f p = L.foldl (fun s p => max s (f p)) s)
  | [], s => ⟨Int.le_refl _, fun p hp => (by cases hp), .inl rfl⟩
  | q :: L, s => by
    obtain ⟨h1, h2, h3⟩ := max_fold f L (max s (f q))
    simp only [List.foldl_cons]
    refine ⟨by omega, fun p hp => ?_, ?_⟩
    · rcases List.mem_cons.1 hp with rfl | hp
      · omega
      · exact h2 p hp
    · rcases h3 with h3 | ⟨p, hp, h3⟩
      · rcases Int.le_total s (f q) with h | h
        · exact .inr ⟨q, by simp, by omega⟩
        · exact .inl (by omega)
      · exact .inr ⟨p, by simp [hp], h3⟩
theorem take_all (K : List (Int × Int)) : K.take K.length = K := List.take_length
section
variable {K : List (Int × Int)} (h0 : 0 < K.length)
include h0
omit h0 in
theorem lx_low {p : Int × Int} (hp : p ∈ K) : lxF K K.length ≤ p.1 := by unfold lxF; rw [take_all]; exact (min_fold (fun p => p.1) K _).2.1 p hp
omit h0 in
theorem ly_low {p : Int × Int} (hp : p ∈ K) : lyF K K.length ≤ p.2 := by unfold lyF; rw [take_all]; exact (min_fold (fun p => p.2) K _).2.1 p hp
omit h0 in
theorem hx_high {p : Int × Int} (hp : p ∈ K) : p.1 ≤ hxF K K.length := by unfold hxF; rw [take_all]; exact (max_fold (fun p => p.1) K _).2.1 p hp
omit h0 in
theorem hy_high {p : Int × Int} (hp : p ∈ K) : p.2 ≤ hyF K K.length := by unfold hyF; rw [take_all]; exact (max_fold (fun p => p.2) K _).2.1 p hp
theorem lx_at : ∃ p ∈ K, p.1 = lxF K K.length := by
  unfold lxF; rw [take_all]
  rcases (min_fold (fun p => p.1) K (K.getD 0 (0, 0)).1).2.2 with h | h
  · exact ⟨_, mem0 h0, h.symm⟩
  · exact h
theorem ly_at : ∃ p ∈ K, p.2 = lyF K K.length := by
  unfold lyF; rw [take_all]
  rcases (min_fold (fun p => p.2) K (K.getD 0 (0, 0)).2).2.2 with h | h
  · exact ⟨_, mem0 h0, h.symm⟩
  · exact h
theorem hx_at : ∃ p ∈ K, p.1 = hxF K K.length := by
  unfold hxF; rw [take_all]
  rcases (max_fold (fun p => p.1) K (K.getD 0 (0, 0)).1).2.2 with h | h
  · exact ⟨_, mem0 h0, h.symm⟩
  · exact h
theorem hy_at : ∃ p ∈ K, p.2 = hyF K K.length := by
  unfold hyF; rw [take_all]
  rcases (max_fold (fun p => p.2) K (K.getD 0 (0, 0)).2).2.2 with h | h
  · exact ⟨_, mem0 h0, h.symm⟩
  · exact h
end

/-- The box of points, and the four that are less by one on a side. -/
def sdF (a b c d : Int) : Nat → Int × Int × Int × Int
  | 0 => (a + 1, b, c, d)
  | 1 => (a, b + 1, c, d)
  | 2 => (a, b, c - 1, d)
  | _ => (a, b, c, d - 1)
def outF (s : Int × Int × Int × Int) (p : Int × Int) : Bool := !inF p.1 p.2 s.1 s.2.1 s.2.2.1 s.2.2.2
/-- Is one of the first so many not in a box? -/
def lostF (K : List (Int × Int)) (s : Int × Int × Int × Int) (i : Nat) : Bool := (K.take i).any (outF s)
theorem lost_0 (K : List (Int × Int)) (s : Int × Int × Int × Int) : lostF K s 0 = false := by simp [lostF]
theorem lost_step {K : List (Int × Int)} {i : Nat} {x y : Int} (hi : i < K.length) (h : K.getD i (0, 0) = (x, y)) (s : Int × Int × Int × Int) : lostF K s (i + 1) = (lostF K s i || !inF x y s.1 s.2.1 s.2.2.1 s.2.2.2) := by
  unfold lostF
  rw [List.take_succ_eq_append_getElem hi, List.any_append]
  rw [List.getD_eq_getElem?_getD, List.getElem?_eq_getElem hi] at h
  simp at h
  simp [h, outF]
theorem getD_mem {K : List (Int × Int)} {i : Nat} {x y : Int} (hi : i < K.length) (h : K.getD i (0, 0) = (x, y)) : (x, y) ∈ K := by
  rw [← h, List.getD_eq_getElem?_getD, List.getElem?_eq_getElem hi]
  exact List.getElem_mem hi
theorem in_box {K : List (Int × Int)} {i : Nat} {x y : Int} (hi : i < K.length) (h : K.getD i (0, 0) = (x, y)) : inF x y (lxF K K.length) (lyF K K.length) (hxF K K.length + 1) (hyF K K.length + 1) = true := by
  have hm := getD_mem hi h
  have h0 : 0 < K.length := by omega
  have h1 := lx_low hm
  have h2 := ly_low hm
  have h3 := hx_high hm
  have h4 := hy_high hm
  unfold inF
  simp only at h1 h2 h3 h4
  exact decide_eq_true ⟨by omega, by omega, by omega, by omega⟩
theorem lost_end {K : List (Int × Int)} (h0 : 0 < K.length) (k : Nat) : lostF K (sdF (lxF K K.length) (lyF K K.length) (hxF K K.length + 1) (hyF K K.length + 1) k) K.length = true := by
  unfold lostF
  rw [take_all, List.any_eq_true]
  match k with
  | 0 =>
    obtain ⟨p, hp, e⟩ := lx_at h0
    exact ⟨p, hp, by unfold outF sdF inF; simp; omega⟩
  | 1 =>
    obtain ⟨p, hp, e⟩ := ly_at h0
    exact ⟨p, hp, by unfold outF sdF inF; simp; omega⟩
  | 2 =>
    obtain ⟨p, hp, e⟩ := hx_at h0
    exact ⟨p, hp, by unfold outF sdF inF; simp; omega⟩
  | k + 3 =>
    obtain ⟨p, hp, e⟩ := hy_at h0
    exact ⟨p, hp, by unfold outF sdF inF; simp; omega⟩
theorem box_meets {K : List (Int × Int)} (h0 : 0 < K.length) : meetF (lxF K K.length) (lyF K K.length) (hxF K K.length + 1) (hyF K K.length + 1) (lxF K K.length) (lyF K K.length) (hxF K K.length + 1) (hyF K K.length + 1) = true := by
  have h1 := lx_low (mem0 h0)
  have h2 := ly_low (mem0 h0)
  have h3 := hx_high (mem0 h0)
  have h4 := hy_high (mem0 h0)
  unfold meetF
  exact decide_eq_true ⟨by omega, by omega⟩
end Go.Proofs.Ythjjhfopmianoaa

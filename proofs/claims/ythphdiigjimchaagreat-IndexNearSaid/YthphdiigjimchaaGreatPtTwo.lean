/- The least box holds all points, and no lesser one does: mathematics for PointBounds. No program. Slices of points copied by append: append([]api.Point{}, l...). -/
import Derived.Test.YthphdiigjimchaaGreatPtJ
import Derived.Test.YthphdiigjimchaaGreatKitTwo
import Derived.Test.YthphdiigjimchaaGreatKitOne
import Derived.Deep.DeepCutAuto
namespace Go.Proofs.YthphdiigjimchaaGreat
section
set_option linter.unusedVariables false
set_option linter.unusedSimpArgs false
open Go.RowKit
theorem min_fold (f : Int × Int → Int) : ∀ (L : List (Int × Int)) (s : Int), L.foldl (fun s p => min s (f p)) s ≤ s ∧ (∀ p ∈ L, L.foldl (fun s p => min s (f p)) s ≤ f p) ∧ (L.foldl (fun s p => min s (f p)) s = s ∨ ∃ p ∈ L, f p = L.foldl (fun s p => min s (f p)) s)
  | [], s => ⟨Int.le_refl _, fun p hp => (by cases hp), .inl rfl⟩
  | q :: L, s => by
    obtain ⟨h1, h2, h3⟩ := min_fold f L (min s (f q))
    simp only [List.foldl_cons]
    refine ⟨by omega, fun p hp => ?_, ?_⟩
    · rcases List.mem_cons.1 hp with rfl | hp
      · omega
      · exact h2 p hp
    · rcases h3 with h3 | ⟨p, hp, h3⟩
      · rcases Int.le_total s (f q) with h | h
        · exact .inl (by omega)
        · exact .inr ⟨q, by simp, by omega⟩
      · exact .inr ⟨p, by simp [hp], h3⟩
theorem max_fold (f : Int × Int → Int) : ∀ (L : List (Int × Int)) (s : Int), s ≤ L.foldl (fun s p => max s (f p)) s ∧ (∀ p ∈ L, f p ≤ L.foldl (fun s p => max s (f p)) s) ∧ (L.foldl (fun s p => max s (f p)) s = s ∨ ∃ p ∈ L, f p = L.foldl (fun s p => max s (f p)) s)
  | [], s => ⟨Int.le_refl _, fun p hp => (by cases hp), .inl rfl⟩
  | q :: L, s => by
    obtain ⟨h1, h2, h3⟩ := max_fold f L (max s (f q))
    simp only [List.foldl_cons]
    refine ⟨by omega, fun p hp => ?_, ?_⟩
    · rcases List.mem_cons.1 hp with rfl | hp
      · omega
      · exact h2 p hp
    · rcases h3 with h3 | ⟨p, hp, h3⟩
      · rcases Int.le_total s (f q) with h | h
        · exact .inr ⟨q, by simp, by omega⟩
        · exact .inl (by omega)
      · exact .inr ⟨p, by simp [hp], h3⟩
theorem take_all (K : List (Int × Int)) : K.take K.length = K := List.take_length
section
variable {K : List (Int × Int)} (h0 : 0 < K.length)
include h0
omit h0 in
theorem lx_low {p : Int × Int} (hp : p ∈ K) : lxF K K.length ≤ p.1 := by unfold lxF; rw [take_all]; exact (min_fold (fun p => p.1) K _).2.1 p hp
omit h0 in
theorem ly_low {p : Int × Int} (hp : p ∈ K) : lyF K K.length ≤ p.2 := by unfold lyF; rw [take_all]; exact (min_fold (fun p => p.2) K _).2.1 p hp
omit h0 in
theorem hx_high {p : Int × Int} (hp : p ∈ K) : p.1 ≤ hxF K K.length := by unfold hxF; rw [take_all]; exact (max_fold (fun p => p.1) K _).2.1 p hp
omit h0 in
theorem hy_high {p : Int × Int} (hp : p ∈ K) : p.2 ≤ hyF K K.length := by unfold hyF; rw [take_all]; exact (max_fold (fun p => p.2) K _).2.1 p hp
end
def sdF (a b c d : Int) : Nat → Int × Int × Int × Int
  | 0 => (a + 1, b, c, d)
  | 1 => (a, b + 1, c, d)
  | 2 => (a, b, c - 1, d)
  | _ => (a, b, c, d - 1)
def outF (s : Int × Int × Int × Int) (p : Int × Int) : Bool := !inF p.1 p.2 s.1 s.2.1 s.2.2.1 s.2.2.2
def lostF (K : List (Int × Int)) (s : Int × Int × Int × Int) (i : Nat) : Bool := (K.take i).any (outF s)
end

section
set_option linter.unusedVariables false
set_option linter.unusedSimpArgs false
open Go.RowKit
def pcells : List (Int × Int) → List Value
  | [] => []
  | p :: K => .int .i64 p.1 :: .int .i64 p.2 :: pcells K
theorem pcells_len : ∀ K : List (Int × Int), (pcells K).length = K.length * 2
  | [] => rfl
  | p :: K => by simp [pcells, pcells_len K]; omega
theorem pcells_one : ∀ (K : List (Int × Int)) (u : Value), u ∈ pcells K → u.oneCell' = true
  | [], u, h => by cases h
  | p :: K, u, h => by
    unfold pcells at h
    rcases List.mem_cons.1 h with rfl | h
    · rfl
    · rcases List.mem_cons.1 h with rfl | h
      · rfl
      · exact pcells_one K u h
theorem pcells_at : ∀ (K : List (Int × Int)) (i : Nat), i < K.length → (pcells K)[i * 2]? = some (.int .i64 (K.getD i (0, 0)).1) ∧ (pcells K)[i * 2 + 1]? = some (.int .i64 (K.getD i (0, 0)).2)
  | [], i, h => by cases h
  | p :: K, 0, h => by simp [pcells]
  | p :: K, i + 1, h => by
    have := pcells_at K i (by simpa using h)
    rw [show (i + 1) * 2 = i * 2 + 1 + 1 by omega]
    simpa [pcells] using this
theorem info_pt : ∃ i, Tryz.prog.info? 42 = some i ∧ i.zero = some (.agg #[.int .i64 0, .int .i64 0]) ∧ i.size = 2 ∧ i.bytes = 16 := by
  have h : (Tryz.prog.info? 42).map (fun i => (i.zero, i.size, i.bytes)) = some (some (.agg #[.int .i64 0, .int .i64 0]), 2, 16) := by kernel_rfl
  cases hi : Tryz.prog.info? 42 with
  | none => rw [hi] at h; cases h
  | some i =>
    rw [hi] at h
    simp at h
    exact ⟨i, rfl, h.1, h.2.1, h.2.2⟩
theorem preads_of_owns {w : World} {base : Nat} {v : Value} {n : Nat} {K : List (Int × Int)} (h : w.ownsRow base 42 2 v n (pcells K)) : ∃ a cap, v = .slice a n cap ∧ PReads w a n K := by
  obtain ⟨hl, h⟩ := h
  rw [pcells_len] at hl
  have hl' : K.length = n := by omega
  rcases h with ⟨rfl, rfl⟩ | ⟨g, cap, cur, rfl, _, hc, hnc, _, hs, ht⟩
  · exact ⟨none, 0, rfl, hl', .inl rfl⟩
  · refine ⟨_, cap, rfl, hl', .inr ⟨g, 0, rfl, fun i hi => ?_⟩⟩
    obtain ⟨h1, h2⟩ := pcells_at K i (by omega)
    rw [← ht] at h1 h2
    rw [List.getElem?_take_of_lt (by omega)] at h1 h2
    have e : ∀ k v, cur.toList[k]? = some v → w.cell? ⟨g, 0 + k, none⟩ = some v := by
      intro k v hk
      simp [World.cell?, hc]
      simpa using hk
    exact ⟨e _ _ h1, by rw [Nat.add_assoc]; exact e _ _ h2⟩
theorem PReads.cells {w : World} {a : Addr} {len : Nat} {K : List (Int × Int)} (h : PReads w (some a) len K) : ∀ j u, (pcells K)[j]? = some u → w.cell? (a.add j) = some u := by
  obtain ⟨h1, h3⟩ := h
  intro j u hu
  have hj : j < K.length * 2 := by
    have := (List.getElem?_eq_some_iff.1 hu).1
    rwa [pcells_len] at this
  rcases h3 with h3 | ⟨b, off, he, hc⟩
  · omega
  · injection he with he
    subst he
    have ha : (⟨b, off, none⟩ : Addr).add j = ⟨b, off + j, none⟩ := by unfold Addr.add; split <;> simp_all
    rw [ha]
    obtain ⟨i, hi⟩ : ∃ i, j = i * 2 ∨ j = i * 2 + 1 := ⟨j / 2, by omega⟩
    rcases hi with rfl | rfl
    · obtain ⟨g1, _⟩ := hc i (by omega)
      rw [(pcells_at K i (by omega)).1] at hu
      rw [g1]; exact hu
    · obtain ⟨_, g2⟩ := hc i (by omega)
      rw [(pcells_at K i (by omega)).2] at hu
      rw [← Nat.add_assoc, g2]; exact hu
def PCopied (w : World) (len : Nat) (K : List (Int × Int)) (v : Value) (wx : World) : Prop :=
  ∃ a' cap', v = .slice a' len cap' ∧ PReads wx a' len K ∧ Below w.heap.size w wx
theorem powns_empty (w : World) : (w.alloc (.cells #[] 42)).ownsRow w.heap.size 42 2 (.slice (some ⟨w.heap.size, 0, none⟩) 0 0) 0 (pcells []) :=
  ⟨rfl, .inr ⟨w.heap.size, 0, #[], rfl, Nat.le_refl _, by show (w.heap.push _)[w.heap.size]? = _; simp, Nat.le_refl _, Nat.zero_le _, rfl, rfl⟩⟩
end
end Go.Proofs.YthphdiigjimchaaGreat

/- BoxtreeTurned: places that are exchanged; what is found in another order; slices of numbers that come in. -/
import Derived.Test.YtnpkhhchbahcpaaBnD
import Derived.Test.YtnpkhhchbahcpaaPick
namespace Go.Proofs.Ytnpkhhchbahcpaa
set_option linter.unusedVariables false
set_option linter.unusedSimpArgs false
open Go.RowKit Go.ChangeShapes Go.WideShapes Go.ChangeAt Go.Joins

/-- Two places change. -/
def swapL (A : List Nat) (a b : Nat) : List Nat := (A.set a (A.getD b 0)).set b (A.getD a 0)
theorem tswap_len (A : List Nat) (a b : Nat) : (swapL A a b).length = A.length := by unfold swapL; rw [List.length_set, List.length_set]
theorem tswap_get {A : List Nat} {a b k : Nat} (ha : a < A.length) (hb : b < A.length) (hk : k < A.length) : (swapL A a b).getD k 0 = if k = b then A.getD a 0 else if k = a then A.getD b 0 else A.getD k 0 := by
  unfold swapL
  rw [List.getD_eq_getElem?_getD, List.getElem?_set, List.length_set]
  by_cases e : k = b
  · subst e; simp [hb]
  · have e' : ¬b = k := fun h => e h.symm
    by_cases e2 : k = a
    · subst e2; simp [e, e', hb, ha]
    · have e2' : ¬a = k := fun h => e2 h.symm
      simp [e, e', e2, e2', List.getD_eq_getElem?_getD]
theorem tswap_perm {A : List Nat} {a b : Nat} (ha : a < A.length) (hb : b < A.length) : (swapL A a b).Perm A := by
  have h := (Array.swap_perm (xs := A.toArray) (i := a) (j := b) (by simpa using ha) (by simpa using hb)).toList
  have e : (A.toArray.swap a b (by simpa using ha) (by simpa using hb)).toList = swapL A a b := by
    apply List.ext_getElem
    · rw [tswap_len]; simp
    · intro k h1 h2
      have hk : k < A.length := by rw [tswap_len] at h2; exact h2
      have e1 := tswap_get ha hb hk
      rw [List.getD_eq_getElem?_getD, List.getElem?_eq_getElem h2] at e1
      have g : ∀ i (hi : i < A.length), A.getD i 0 = A[i] := fun i hi => by rw [List.getD_eq_getElem?_getD, List.getElem?_eq_getElem hi]; rfl
      rw [g a ha, g b hb, g k hk] at e1
      have e3 : (swapL A a b)[k] = if k = b then A[a] else if k = a then A[b] else A[k] := e1
      rw [e3, Array.getElem_toList, Array.getElem_swap]
      simp only [List.getElem_toArray]
      by_cases c1 : k = a
      · subst c1
        by_cases c2 : k = b
        · subst c2; simp
        · simp [c2]
      · simp [c1]
  rw [e] at h
  simpa using h
theorem turned_hits (q : Bx → Bool) (L : List Bx) (A : List Nat) (hA : A.Perm (List.range L.length)) : ((scanB q (A.map fun j => L.getD j Bx0)).map fun i => A.getD i 0).Perm (scanB q L) := by
  have hr : (List.range A.length).map (fun i => A.getD i 0) = A := by
    apply List.ext_getElem
    · simp
    · intro i h1 h2
      simp only [List.getElem_map, List.getElem_range]
      rw [List.getD_eq_getElem?_getD, List.getElem?_eq_getElem h2]; rfl
  have h1 : scanB q (A.map fun j => L.getD j Bx0) = (List.range A.length).filter ((fun j => q (L.getD j Bx0)) ∘ fun i => A.getD i 0) := by
    unfold scanB
    rw [List.length_map]
    apply List.filter_congr
    intro i hi
    have hi' : i < A.length := by simpa using hi
    show q ((A.map fun j => L.getD j Bx0).getD i (0, 0, 0, 0)) = q (L.getD (A.getD i 0) Bx0)
    rw [List.getD_eq_getElem?_getD (l := A.map _), List.getElem?_map, List.getElem?_eq_getElem hi', List.getD_eq_getElem?_getD (l := A), List.getElem?_eq_getElem hi']
    rfl
  rw [h1, ← List.filter_map, hr]
  exact hA.filter _
/-- A box's four cells. -/
def Bc (w : World) (g k : Nat) (b : Bx) : Prop := w.cell? ⟨g, k * 4, none⟩ = some (.int .i64 b.1) ∧ w.cell? ⟨g, k * 4 + 1, none⟩ = some (.int .i64 b.2.1) ∧ w.cell? ⟨g, k * 4 + 2, none⟩ = some (.int .i64 b.2.2.1) ∧ w.cell? ⟨g, k * 4 + 3, none⟩ = some (.int .i64 b.2.2.2)
theorem Bc.keep {w w' : World} {g k : Nat} {b : Bx} (h : Bc w g k b) (hk : w'.heap[g]? = w.heap[g]?) : Bc w' g k b :=
  ⟨(World.cell?_of_block (a := ⟨g, _, none⟩) hk).trans h.1, (World.cell?_of_block (a := ⟨g, _, none⟩) hk).trans h.2.1, (World.cell?_of_block (a := ⟨g, _, none⟩) hk).trans h.2.2.1, (World.cell?_of_block (a := ⟨g, _, none⟩) hk).trans h.2.2.2⟩
theorem xreads_bc {w : World} {g n : Nat} {M : List Bx} (hl : M.length = n) (h : ∀ k, k < n → Bc w g k (M.getD k Bx0)) : XReads w (some ⟨g, 0, none⟩) n M :=
  ⟨hl, .inr ⟨g, 0, rfl, fun i hi => by
    obtain ⟨h1, h2, h3, h4⟩ := h i hi
    refine ⟨?_, ?_, ?_, ?_⟩
    · rw [Nat.zero_add]; exact h1
    · rw [Nat.zero_add]; exact h2
    · rw [Nat.zero_add]; exact h3
    · rw [Nat.zero_add]; exact h4⟩⟩
theorem made_ints (n : Nat) (hn : n ≤ 1099511627776) : ∃ Z : Array Value, (∀ w : World, (Instr.makeSlice 34 (.int .i64 n) (.int .i64 n)).run Try.prog w = .ok (.slice (some ⟨w.heap.size, 0, none⟩) n n) (w.alloc (.cells Z 3))) ∧ ∀ k, k < n → Z[k]? = some (.int .i64 0) := by
  obtain ⟨i, hi, hz, hs, hb⟩ := info_int
  refine ⟨madeCells (Value.int .i64 0).cells n, fun w => ?_, ?_⟩
  · have h := run_make (P := Try.prog) w 34 3 i (.int .i64 0) Try.underlying34 hi hz .i64 .i64 n n (by omega) (by omega) (by rw [hb]; omega) (by omega)
    rw [hs, Nat.mul_one, Int.toNat_natCast] at h
    exact h
  · intro k hk
    simp [madeCells, hk, Value.cells, Nat.mod_one]
section
variable {H : Type} {enc : TypeId × Value → H} {w : World} {base : Nat} {spare : Nat → Bool} {held : Bool}
theorem ints_open {fuel : Nat} {cs : List Value} {x : DataW H × List MemPlace} (h : DataW.trod enc Try.prog w base spare held fuel 34 cs = some x) :
    ∃ a n c K, cs = [.slice a n c] ∧ Reads w a n K ∧ n ≤ 9223372036854775807 ∧ (a = none → n = 0 ∧ c = 0) := by
  rcases Deep.open_slice Try.underlying34 h with ⟨rfl, _⟩ | ⟨a, len, cap, m, n, D, Pl, rfl, hb, hl, hm, hmm, rfl, hx⟩
  · exact ⟨none, 0, 0, [], rfl, ⟨rfl, fun i hi => by omega, .inl rfl⟩, by decide, fun _ => ⟨rfl, rfl⟩⟩
  · have hlm : len ≤ m := by rw [hmm]; split <;> omega
    have each : ∀ i, i < len → ∃ z : Int, w.cell? (a.add i) = some (.int .i64 z) ∧ (-9223372036854775808 ≤ z ∧ z ≤ 9223372036854775807) := by
      intro i hi
      obtain ⟨cs', h1, h2⟩ := hx i (by omega)
      rw [in_cells] at h1
      obtain ⟨_, hlen, hcell⟩ := World.cells?_some h1
      match cs', hlen with
      | [v0], _ =>
        obtain ⟨u, e0, _, k0⟩ := DataW.trod_int Try.underlying3 h2
        simp at e0
        subst e0
        have e1 := hcell 0 (by omega)
        rw [Deep.add_add] at e1
        exact ⟨u, by simpa using e1, bounds_i64 k0⟩
    obtain ⟨K, hK⟩ := Deep.choose_lt each
    have hg : ∀ i, i < len → ((List.range len).map K).getD i 0 = K i := fun i hi => by
      rw [List.getD_eq_getElem?_getD, List.getElem?_map, List.getElem?_range hi]; rfl
    refine ⟨some a, len, cap, (List.range len).map K, rfl, ⟨by simp, fun i hi => by rw [hg i hi]; exact (hK i hi).2, ?_⟩, Nat.le_trans hl (Nat.le_trans hm (by decide)), fun e => by cases e⟩
    by_cases hz : len = 0
    · exact .inl hz
    · right
      obtain ⟨b, off, sp⟩ := a
      have h1 := (hK 0 (by omega)).1
      have hsp : sp = none := by
        cases sp with
        | none => rfl
        | some s => unfold Addr.add World.cell? at h1; simp at h1; split at h1 <;> simp_all
      subst hsp
      refine ⟨b, off, rfl, fun i hi => ?_⟩
      have := (hK i hi).1
      have ha : (⟨b, off, none⟩ : Addr).add i = ⟨b, off + i, none⟩ := by unfold Addr.add; split <;> simp_all
      rw [ha] at this
      rw [hg i hi]
      exact this
end
end Go.Proofs.Ytnpkhhchbahcpaa

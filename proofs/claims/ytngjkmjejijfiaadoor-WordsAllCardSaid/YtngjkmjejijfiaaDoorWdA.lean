/- Words: rows of pairs of texts as they lie in memory; what they tell. -/
import Derived.Test.YtngjkmjejijfiaaDoorWdM
import Derived.Test.YtngjkmjejijfiaaDoorWdK
namespace Go.Proofs.YtngjkmjejijfiaaDoor
set_option linter.unusedVariables false
set_option linter.unusedSimpArgs false
open Go.RowKit

def dZ : Wd := ([], [])
def dcells : List Wd → List Value
  | [] => []
  | p :: T => sV p.1 :: sV p.2 :: dcells T
theorem dcells_len : ∀ T : List Wd, (dcells T).length = T.length * 2
  | [] => rfl
  | p :: T => by simp [dcells, dcells_len T]; omega
theorem dcells_at : ∀ (T : List Wd) (i : Nat), i < T.length → (dcells T)[i * 2]? = some (sV (T.getD i dZ).1) ∧ (dcells T)[i * 2 + 1]? = some (sV (T.getD i dZ).2)
  | [], i, h => by cases h
  | p :: T, 0, h => by simp [dcells]
  | p :: T, i + 1, h => by
    have := dcells_at T i (by simpa using h)
    rw [show (i + 1) * 2 = i * 2 + 1 + 1 by omega]
    simpa [dcells] using this
/-- A slice of pairs of texts that reads as a list. -/
def DReads (w : World) (a : Option Addr) (len : Nat) (T : List Wd) : Prop :=
  T.length = len ∧ (len = 0 ∨ ∃ b off, a = some ⟨b, off, none⟩ ∧ ∀ i, i < len → w.cell? ⟨b, off + i * 2, none⟩ = some (sV (T.getD i dZ).1) ∧ w.cell? ⟨b, off + i * 2 + 1, none⟩ = some (sV (T.getD i dZ).2))
theorem DReads.below {w w' : World} {a : Option Addr} {len : Nat} {T : List Wd} (h : DReads w a len T) (hb : Below w.heap.size w w') : DReads w' a len T := by
  obtain ⟨h1, h3⟩ := h
  refine ⟨h1, ?_⟩
  rcases h3 with h3 | ⟨b, off, rfl, hc⟩
  · exact .inl h3
  · by_cases hl : len = 0
    · exact .inl hl
    refine .inr ⟨b, off, rfl, fun i hi => ?_⟩
    obtain ⟨c1, c2⟩ := hc i hi
    have hbs : b < w.heap.size := World.block_lt_of_cell? _ _ c1
    exact ⟨(World.cell?_of_block (hb.block b hbs)).trans c1, (World.cell?_of_block (hb.block b hbs)).trans c2⟩
theorem dreads_nil (w : World) : DReads w none 0 [] := ⟨rfl, .inl rfl⟩
theorem dreads_new (w : World) (T : List Wd) (ty : TypeId) : DReads (w.alloc (.cells (dcells T).toArray ty)) (some ⟨w.heap.size, 0, none⟩) T.length T := by
  refine ⟨rfl, .inr ⟨w.heap.size, 0, rfl, fun i hi => ?_⟩⟩
  obtain ⟨h1, h2⟩ := dcells_at T i hi
  have e : ∀ k v, (dcells T)[k]? = some v → (w.alloc (.cells (dcells T).toArray ty)).cell? ⟨w.heap.size, k, none⟩ = some v := by
    intro k v hk
    simp [go_sem, hk]
  exact ⟨by rw [Nat.zero_add]; exact e _ _ h1, by rw [Nat.zero_add]; exact e _ _ h2⟩
/-- What a table's row tells of a word: at a place, at none. -/
def hitS (w : Tx) (p : Wd) : Bool := decide (p.1 = w) || decide (p.2 = w)
def tellS (T : List Wd) (x : Tx) : Tx × Bool := match shortW T x with | some p => (p.2, true) | none => ([], false)
def tellL (T : List Wd) (x : Tx) : Tx × Bool := match longW T x with | some p => (p.1, true) | none => ([], false)
theorem find_at {T : List Wd} {f : Wd → Bool} {k : Nat} (h : ∀ j, j < k → f (T.getD j dZ) = false) (hk : k < T.length) (hf : f (T.getD k dZ) = true) : T.find? f = some (T.getD k dZ) := by
  rw [List.find?_eq_some_iff_getElem]
  refine ⟨hf, k, hk, ?_, fun j hj => ?_⟩
  · rw [List.getD_eq_getElem?_getD, List.getElem?_eq_getElem hk]; rfl
  · have := h j hj
    rw [List.getD_eq_getElem?_getD, List.getElem?_eq_getElem (by omega)] at this
    simp at this
    simp [this]
theorem find_no {T : List Wd} {f : Wd → Bool} (h : ∀ j, j < T.length → f (T.getD j dZ) = false) : T.find? f = none := by
  rw [List.find?_eq_none]
  intro p hp
  obtain ⟨j, hj, rfl⟩ := List.mem_iff_getElem.1 hp
  have := h j hj
  rw [List.getD_eq_getElem?_getD, List.getElem?_eq_getElem hj] at this
  simp at this
  simp [this]
def DRes (T : List Wd) (w : World) (e : Ending) (w' : World) : Prop := ∃ a cap, e = .returned (.slice a T.length cap) ∧ DReads w' a T.length T ∧ Junk w w'
theorem dres_new {T : List Wd} {w w' : World} {x : Value} {ty : TypeId} (hx : x = .slice (some ⟨w.heap.size, 0, none⟩) T.length T.length) (hw : w' = w.alloc (.cells (dcells T).toArray ty)) (hj : Junk w w') : DRes T w (.returned x) w' := by
  subst hw
  exact ⟨_, _, by rw [hx], dreads_new w T ty, hj⟩
end Go.Proofs.YtngjkmjejijfiaaDoor

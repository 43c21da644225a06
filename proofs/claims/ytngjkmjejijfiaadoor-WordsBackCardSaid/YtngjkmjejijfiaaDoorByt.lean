/- Bytes of texts: which byte lies where; the first place where a test fails; struct results. -/
import Derived.Test.YtngjkmjejijfiaaDoorRow
import Derived.Test.YtngjkmjejijfiaaDoorProg
import Derived.OwnWalk
import Derived.OpenShut
import Derived.Deep.DeepCutAuto
namespace Go.Proofs.YtngjkmjejijfiaaDoor
set_option linter.unusedVariables false
set_option linter.unusedSimpArgs false
open Go.RowKit

/-- The byte at a place, as a number (0 behind the end). -/
def byteAt (L : List UInt8) (i : Nat) : Nat := (L.getD i 0).toNat
@[go_sem] theorem str_get (L : List UInt8) (i : Nat) (h : i < (⟨L.toArray⟩ : ByteArray).size) : ((⟨L.toArray⟩ : ByteArray)[i]'h).toNat = byteAt L i := by
  unfold byteAt
  have h' : i < L.length := by simpa [ByteArray.size] using h
  simp [List.getD_eq_getElem?_getD, h', ByteArray.getElem_eq_getElem_data]
theorem byte_lt (L : List UInt8) (i : Nat) : byteAt L i < 256 := UInt8.toNat_lt _
theorem byte_ext {L : List UInt8} {i : Nat} (h : i < L.length) : L[i] = UInt8.ofNat (byteAt L i) := by
  unfold byteAt
  simp [List.getD_eq_getElem?_getD, h]

/-- The first place from m on, within so many, where a test fails. -/
def firstStop (c : Nat → Bool) : Nat → Nat → Nat
  | 0, m => m
  | f + 1, m => if c m then firstStop c f (m + 1) else m
theorem firstStop_spec (c : Nat → Bool) : ∀ (f m : Nat), (∃ q, m ≤ q ∧ q < m + f ∧ c q = false) → (∀ j, m ≤ j → j < firstStop c f m → c j = true) ∧ c (firstStop c f m) = false ∧ m ≤ firstStop c f m ∧ firstStop c f m ≤ m + f
  | 0, m, ⟨q, h1, h2, _⟩ => by omega
  | f + 1, m, ⟨q, h1, h2, h3⟩ => by
    unfold firstStop
    by_cases hm : c m = true
    · rw [if_pos hm]
      have hq : q ≠ m := fun e => by rw [e, hm] at h3; cases h3
      obtain ⟨a, b, d, e⟩ := firstStop_spec c f (m + 1) ⟨q, by omega, by omega, h3⟩
      refine ⟨fun j j1 j2 => ?_, b, by omega, by omega⟩
      by_cases hj : j = m
      · rw [hj]; exact hm
      · exact a j (by omega) j2
    · rw [if_neg hm]
      exact ⟨fun j j1 j2 => by omega, by simpa using hm, Nat.le_refl _, by omega⟩

theorem ba_app (a b : Array UInt8) : (⟨a⟩ : ByteArray) ++ ⟨b⟩ = ⟨a ++ b⟩ := by
  apply ByteArray.ext
  simp [ByteArray.data_append]
theorem ret_str2 {a b : ByteArray} {k : IntKind} {z : Int} (h : a = b) : Ending.returned (.tuple #[.string a, .int k z]) = .returned (.tuple #[.string b, .int k z]) := by rw [h]
theorem ret_str {a b : ByteArray} (h : a = b) : Ending.returned (.string a) = .returned (.string b) := by rw [h]

theorem ret_pair {x y : Int} {e f a b : Int} (h : (x, e, a) = (y, f, b)) : Ending.returned (.tuple #[.int .i64 x, .agg #[.int .i64 e, .int .i64 a]]) = .returned (.tuple #[.int .i64 y, .agg #[.int .i64 f, .int .i64 b]]) := by
  injection h with h1 h2; injection h2 with h2 h3; rw [h1, h2, h3]

/-- Bytes as cells. -/
def bcells (l : List UInt8) : List Value := l.map (fun b => .int .u8 (b.toNat : Int))
@[simp] theorem bcells_len (l : List UInt8) : (bcells l).length = l.length := by simp [bcells]
theorem cell_of_row' {W : World} {b : Nat} {c : Array Value} (h : W.rowAt b = some c) (i : Nat) : W.cell? ⟨b, i, none⟩ = c[i]? := by
  obtain ⟨t, hb⟩ := rowAt_some h
  simp [World.cell?, hb]
end Go.Proofs.YtngjkmjejijfiaaDoor

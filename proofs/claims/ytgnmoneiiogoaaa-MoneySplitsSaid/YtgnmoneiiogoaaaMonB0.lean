/- What a text is read as: mathematics; a struct result. -/
import Derived.Test.YtgnmoneiiogoaaaRow
import Derived.Test.YtgnmoneiiogoaaaLists
import Derived.Deep.DeepCutAuto
namespace Go.Proofs.Ytgnmoneiiogoaaa
set_option linter.unusedVariables false
set_option linter.unusedSimpArgs false
open Go.RowKit

/-- The byte at a place, as a number (0 behind the end). -/
def byteAt (L : List UInt8) (i : Nat) : Nat := (L.getD i 0).toNat
@[go_sem] theorem str_get (L : List UInt8) (i : Nat) (h : i < (⟨L.toArray⟩ : ByteArray).size) : ((⟨L.toArray⟩ : ByteArray)[i]'h).toNat = byteAt L i := by
  unfold byteAt
  have h' : i < L.length := by simpa [ByteArray.size] using h
  simp [List.getD_eq_getElem?_getD, h', ByteArray.getElem_eq_getElem_data]

/-- Is there a digit at a place? -/
def digAt (L : List UInt8) (i : Nat) : Bool := decide (i < L.length) && (decide (48 ≤ byteAt L i) && decide (byteAt L i ≤ 57))

/-- The first place from m on, within so many, where a test fails. -/
def firstStop (c : Nat → Bool) : Nat → Nat → Nat
  | 0, m => m
  | f + 1, m => if c m then firstStop c f (m + 1) else m
theorem firstStop_spec (c : Nat → Bool) : ∀ (f m : Nat), (∃ q, m ≤ q ∧ q < m + f ∧ c q = false) → (∀ j, m ≤ j → j < firstStop c f m → c j = true) ∧ c (firstStop c f m) = false ∧ m ≤ firstStop c f m ∧ firstStop c f m ≤ m + f
  | 0, m, ⟨q, h1, h2, _⟩ => by omega
  | f + 1, m, ⟨q, h1, h2, h3⟩ => by
    unfold firstStop
    by_cases hm : c m = true
    · rw [if_pos hm]
      have hq : q ≠ m := fun e => by rw [e, hm] at h3; cases h3
      obtain ⟨a, b, d, e⟩ := firstStop_spec c f (m + 1) ⟨q, by omega, by omega, h3⟩
      refine ⟨fun j j1 j2 => ?_, b, by omega, by omega⟩
      by_cases hj : j = m
      · rw [hj]; exact hm
      · exact a j (by omega) j2
    · rw [if_neg hm]
      exact ⟨fun j j1 j2 => by omega, by simpa using hm, Nat.le_refl _, by omega⟩

/-- Does the run of whole digits from a place go on, m digits on? -/
def goOn (L : List UInt8) (z m : Nat) : Bool := digAt L (z + m) && (decide (m = 0) || decide (byteAt L z ≠ 48))
/-- How many whole digits there are from a place. -/
def intLen (L : List UInt8) (z : Nat) : Nat := firstStop (goOn L z) (L.length + 1) 0
theorem digAt_out (L : List UInt8) (i : Nat) (h : L.length ≤ i) : digAt L i = false := by
  unfold digAt; rw [decide_eq_false (by omega)]; rfl
theorem intLen_spec (L : List UInt8) (z : Nat) : (∀ j, j < intLen L z → goOn L z j = true) ∧ goOn L z (intLen L z) = false ∧ z + intLen L z ≤ z + L.length := by
  obtain ⟨a, b, c, d⟩ := firstStop_spec (goOn L z) (L.length + 1) 0 ⟨L.length, by omega, by omega, by unfold goOn; rw [digAt_out L _ (by omega)]; rfl⟩
  refine ⟨fun j hj => a j (by omega) hj, b, ?_⟩
  have : ¬ (L.length < intLen L z) := fun h => by
    have := a L.length (by omega) h
    unfold goOn at this; rw [digAt_out L _ (by omega)] at this; cases this
  omega

/-- What the first m digits from a place come to, no further than 2^50. -/
def capVal (L : List UInt8) (z : Nat) : Nat → Int
  | 0 => 0
  | m + 1 => min (10 * capVal L z m + ((byteAt L (z + m) : Int) - 48)) 1125899906842624
theorem capVal_bd (L : List UInt8) (z : Nat) (m : Nat) (h : ∀ j, j < m → goOn L z j = true) : 0 ≤ capVal L z m ∧ capVal L z m ≤ 1125899906842624 := by
  induction m with
  | zero => simp [capVal]
  | succ m ih =>
    have h1 := ih (fun j hj => h j (by omega))
    have h2 := h m (by omega)
    unfold goOn digAt at h2
    simp at h2
    unfold capVal; omega

theorem dig_bd (L : List UInt8) (i : Nat) (h : digAt L i = true) : i < L.length ∧ 48 ≤ byteAt L i ∧ byteAt L i ≤ 57 := by
  unfold digAt at h; simp at h; omega

/-- What a text is read as from its point on: z is 1 behind a '-', cv the whole digits' value. -/
def tailM (L : List UInt8) (p z : Nat) (cv : Int) : Int × Int × Int :=
  if digAt L (p + 1) = false then (0, 4, (p + 1 : Nat)) else
  if digAt L (p + 2) = false then (0, 4, (p + 2 : Nat)) else
  if p + 3 < L.length then (0, 4, (p + 3 : Nat)) else
  if 1099511627775 < 10 * (10 * cv + ((byteAt L (p + 1) : Int) - 48)) + ((byteAt L (p + 2) : Int) - 48) ∨ (z = 1 ∧ 10 * (10 * cv + ((byteAt L (p + 1) : Int) - 48)) + ((byteAt L (p + 2) : Int) - 48) = 0) then (0, 5, 0) else
  (if z = 1 then -(10 * (10 * cv + ((byteAt L (p + 1) : Int) - 48)) + ((byteAt L (p + 2) : Int) - 48)) else 10 * (10 * cv + ((byteAt L (p + 1) : Int) - 48)) + ((byteAt L (p + 2) : Int) - 48), 0, 0)

/-- What a text is read as: the amount, the fault's name, and where. -/
def parseM (L : List UInt8) : Int × Int × Int :=
  if 20 < L.length then (0, 3, 0) else
  let z := if 0 < L.length ∧ byteAt L 0 = 45 then 1 else 0
  let K := intLen L z
  let p := z + K
  if K = 0 ∨ L.length ≤ p ∨ byteAt L p ≠ 46 then (0, 4, p) else tailM L p z (capVal L z K)

/-- So many of the two digits behind the point are read. -/
def TwoV (L : List UInt8) (p : Nat) (cv : Int) (q : Nat) (v : Int) : Prop :=
  (q = 0 ∧ v = cv) ∨ (q = 1 ∧ digAt L (p + 1) = true ∧ v = 10 * cv + ((byteAt L (p + 1) : Int) - 48)) ∨
  (q = 2 ∧ digAt L (p + 1) = true ∧ digAt L (p + 2) = true ∧ v = 10 * (10 * cv + ((byteAt L (p + 1) : Int) - 48)) + ((byteAt L (p + 2) : Int) - 48))
theorem TwoV.bd {L : List UInt8} {p q : Nat} {cv v : Int} (h : TwoV L p cv q v) (h0 : 0 ≤ cv) (h1 : cv ≤ 1125899906842624) : 0 ≤ v ∧ v ≤ 112589990684262500 := by
  rcases h with ⟨_, rfl⟩ | ⟨_, h, rfl⟩ | ⟨_, h, k, rfl⟩
  · omega
  · have := dig_bd L _ h; omega
  · have := dig_bd L _ h; have := dig_bd L _ k; omega
theorem TwoV.next {L : List UInt8} {p q : Nat} {cv v : Int} (h : TwoV L p cv q v) (hq : q < 2) (hd : digAt L (p + 1 + q) = true) : TwoV L p cv (q + 1) (10 * v + ((byteAt L (p + 1 + q) : Int) - 48)) := by
  rcases h with ⟨rfl, rfl⟩ | ⟨rfl, h, rfl⟩ | ⟨rfl, _⟩
  · exact .inr (.inl ⟨rfl, hd, rfl⟩)
  · exact .inr (.inr ⟨rfl, h, hd, rfl⟩)
  · omega
theorem TwoV.bad {L : List UInt8} {p q z : Nat} {cv v : Int} (h : TwoV L p cv q v) (hq : q < 2) (hd : digAt L (p + 1 + q) = false) : tailM L p z cv = (0, 4, ((p + 1 + q : Nat) : Int)) := by
  unfold tailM
  rcases h with ⟨rfl, rfl⟩ | ⟨rfl, h, rfl⟩ | ⟨rfl, _⟩
  · rw [if_pos hd]
  · rw [if_neg (by rw [h]; simp), if_pos hd]
  · omega
theorem TwoV.done {L : List UInt8} {p z : Nat} {cv v : Int} (h : TwoV L p cv 2 v) :
    tailM L p z cv = if p + 3 < L.length then (0, 4, ((p + 3 : Nat) : Int)) else if 1099511627775 < v ∨ (z = 1 ∧ v = 0) then (0, 5, 0) else (if z = 1 then -v else v, 0, 0) := by
  unfold tailM
  rcases h with ⟨h, _⟩ | ⟨h, _⟩ | ⟨_, h, k, rfl⟩
  · omega
  · omega
  · rw [if_neg (by rw [h]; simp), if_neg (by rw [k]; simp)]

theorem results_fault {fn : Func} {p t : Tmp} (h : fn.results = #[.tmp t, .cell p 57]) (tmps : Array Value) (w : World) (g : Nat) (c : Array Value)
    (hp : tmps.getD p undef = .pointer (some ⟨g, 0, none⟩)) (hr : w.rowAt g = some c) (hc : c.size = 2) : (results fn tmps).run Try.prog w = .ok (.tuple #[tmps.getD t undef, .agg c]) w := by
  obtain ⟨ty, hg⟩ := rowAt_some hr
  have hp' : tmps[p]?.getD undef = .pointer (some ⟨g, 0, none⟩) := by simpa using hp
  simp [results, h, hp', asAddr, run_loadVar_row w g ty _ c (0, 0) _ hg Try.underlying57 rfl (by rw [hc]; kernel_rfl)]

theorem ret_pair {x y : Int} {e f a b : Int} (h : (x, e, a) = (y, f, b)) : Ending.returned (.tuple #[.int .i64 x, .agg #[.int .i64 e, .int .i64 a]]) = .returned (.tuple #[.int .i64 y, .agg #[.int .i64 f, .int .i64 b]]) := by
  injection h with h1 h2; injection h2 with h2 h3; rw [h1, h2, h3]

end Go.Proofs.Ytgnmoneiiogoaaa

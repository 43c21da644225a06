/- Contracts of apportionref09: at, twice, least, back. Contract of apportionref09.back. Contract of apportionref09.meets. Contract of apportionref09.Check. Contracts of apportionref09: Sign, Turned, From, Normal. Contract of apportionref09.From. Contract of apportionref09.Normal. Contract of apportionref09.Same. -/
import Derived.Test.YtnpkhhchbahcpaaRiMath
import Derived.Test.YtnpkhhchbahcpaaKitTwo
import Derived.Test.YtnpkhhchbahcpaaPtOne
import Derived.Test.YtnpkhhchbahcpaaPtJ
import Derived.Test.YtnpkhhchbahcpaaKitOne
import Derived.Deep.RegionHeld3
import Derived.Test.YtnpkhhchbahcpaaCrFive
namespace Go.Proofs.Ytnpkhhchbahcpaa
section
set_option linter.unusedVariables false
set_option linter.unusedSimpArgs false
open Go.RowKit

/-- A point as a value. -/
def ptv (p : Pt) : Value := pt p.1 p.2
/-- An index taken round the list. -/
theorem round_at {K : List Pt} {n : Nat} (hl : K.length = n) (h0 : 0 < n) (i : Int) : ∃ (t : Int) (k : Nat), i.tmod (n : Int) = t ∧ -(n : Int) < t ∧ t < (n : Int) ∧ (t + (n : Int)).tmod (n : Int) = (k : Int) ∧ (t + (n : Int)) % (n : Int) = (k : Int) ∧ k < n ∧ K.getD k (0, 0) = cyc K i ∧ (k : Int) = i % (n : Int) := by
  subst hl
  have a1 := Int.lt_tmod_of_pos i (b := (K.length : Int)) (by omega)
  have a2 := Int.tmod_lt_of_pos i (b := (K.length : Int)) (by omega)
  have e : (i.tmod (K.length : Int) + (K.length : Int)) % (K.length : Int) = i % (K.length : Int) := by
    rw [Int.add_emod_right]
    have := Int.mul_tdiv_add_tmod i (K.length : Int)
    conv => rhs; rw [← this]
    rw [Int.mul_add_emod_self_left]
  have b1 := Int.emod_nonneg i (b := (K.length : Int)) (by omega)
  have b2 := Int.emod_lt_of_pos i (b := (K.length : Int)) (by omega)
  refine ⟨_, (i % (K.length : Int)).toNat, rfl, a1, a2, ?_, by rw [e]; omega, by omega, rfl, by omega⟩
  rw [Int.tmod_eq_emod_of_nonneg (by omega), e]; omega
theorem not_take {K : List Pt} {i : Nat} (hi : i < K.length) (h : ∀ j, j < i → K.getD j (0, 0) ≠ K.getD i (0, 0)) : twiceAt K i = false := (twice_iff hi).2 h
theorem take_hit {K : List Pt} {i k : Nat} (hi : i < K.length) (hk : k < i) (h : K.getD k (0, 0) = K.getD i (0, 0)) : twiceAt K i = true := by
  cases e : twiceAt K i with
  | true => rfl
  | false => exact absurd h ((twice_iff hi).1 e k hk)
def TwAt (W : World) (K : List Pt) (i : Nat) (x : Value) (wr : World) : Prop := ∃ k : Nat, x = .int .i64 (k : Int) ∧ k ≤ i ∧ (∀ j, j < k → K.getD j (0, 0) ≠ K.getD i (0, 0)) ∧ Cls W wr
def LsAt (W : World) (K : List Pt) (x y : Value) (wr : World) : Prop := ∃ k : Nat, x = .int .i64 (k : Int) ∧ y = .int .i64 (leastN K k : Nat) ∧ k ≤ K.length ∧ Cls W wr
end

section
set_option linter.unusedVariables false
set_option linter.unusedSimpArgs false
open Go.RowKit

def ThreeAt (w : World) (p q r : Pt) (x y z : Value) (wx : World) : Prop :=
  ∃ g k l, x = .pointer (some ⟨g, 0, none⟩) ∧ y = .pointer (some ⟨k, 0, none⟩) ∧ z = .pointer (some ⟨l, 0, none⟩) ∧ wx.cell? ⟨g, 0, none⟩ = some (.int .i64 p.1) ∧ wx.cell? ⟨g, 1, none⟩ = some (.int .i64 p.2) ∧
    wx.cell? ⟨k, 0, none⟩ = some (.int .i64 q.1) ∧ wx.cell? ⟨k, 1, none⟩ = some (.int .i64 q.2) ∧ wx.cell? ⟨l, 0, none⟩ = some (.int .i64 r.1) ∧ wx.cell? ⟨l, 1, none⟩ = some (.int .i64 r.2) ∧ Below w.heap.size w wx
end

section
set_option linter.unusedVariables false
set_option linter.unusedSimpArgs false
open Go.RowKit

theorem meets_not {K : List Pt} {i : Nat} (h : ∀ k, i + 2 ≤ k → k < K.length → meetTwo K i k = false) : meetsAt K i = false := by
  unfold meetsAt
  rw [List.any_eq_false]
  intro k hk
  rw [List.mem_range] at hk
  by_cases h1 : i + 2 ≤ k
  · rw [h k h1 hk]; simp
  · rw [decide_eq_false h1]; simp
theorem meets_hit {K : List Pt} {i k : Nat} (h1 : i + 2 ≤ k) (hk : k < K.length) (h : meetTwo K i k = true) : meetsAt K i = true := by
  unfold meetsAt
  rw [List.any_eq_true]
  exact ⟨k, by simpa using hk, by rw [h, decide_eq_true h1]; rfl⟩
def MtAt (W : World) (K : List Pt) (i : Nat) (x : Value) (wr : World) : Prop := ∃ k : Nat, x = .int .i64 (k : Int) ∧ i + 2 ≤ k ∧ (k ≤ K.length ∨ k = i + 2) ∧ (∀ j, i + 2 ≤ j → j < k → meetTwo K i j = false) ∧ Cls W wr
end

section
set_option linter.unusedVariables false
set_option linter.unusedSimpArgs false
open Go.RowKit

/-- A fault as a value. -/
def fltV (r : Int × Nat) : Value := .agg #[.int .i64 r.1, .int .i64 (r.2 : Int)]
theorem first_some {f : Nat → Bool} {n k : Nat} (hk : k < n) (h : f k = true) (hn : ∀ j, j < k → f j = false) : firstQ f n = some k := by
  unfold firstQ
  rw [List.find?_range_eq_some]
  exact ⟨h, by simpa using hk, fun j hj => by rw [hn j hj]; rfl⟩
def F0 (K : List Pt) (i : Nat) : Bool := !okC (K.getD i (0, 0))
def F1 (K : List Pt) (i : Nat) : Bool := twiceAt K i
def F2 (K : List Pt) (i : Nat) : Bool := backAt K i
def F3 (K : List Pt) (i : Nat) : Bool := meetsAt K i
def Good (K : List Pt) : Prop := ¬ 200 < K.length ∧ ¬ K.length < 3
theorem check_0 {K : List Pt} {k : Nat} (g : Good K) (h : firstQ (F0 K) K.length = some k) : checkF K = (2, k) := by
  unfold checkF; rw [if_neg g.1, if_neg g.2]
  show orFault (firstQ (F0 K) K.length) _ _ = _
  rw [h]; rfl
theorem check_1 {K : List Pt} {k : Nat} (g : Good K) (h0 : firstQ (F0 K) K.length = none) (h : firstQ (F1 K) K.length = some k) : checkF K = (191, k) := by
  unfold checkF; rw [if_neg g.1, if_neg g.2]
  show orFault (firstQ (F0 K) K.length) _ (orFault (firstQ (F1 K) K.length) _ _) = _
  rw [h0, h]; rfl
theorem check_2 {K : List Pt} {k : Nat} (g : Good K) (h0 : firstQ (F0 K) K.length = none) (h1 : firstQ (F1 K) K.length = none) (h : firstQ (F2 K) K.length = some k) : checkF K = (192, k) := by
  unfold checkF; rw [if_neg g.1, if_neg g.2]
  show orFault (firstQ (F0 K) K.length) _ (orFault (firstQ (F1 K) K.length) _ (orFault (firstQ (F2 K) K.length) _ _)) = _
  rw [h0, h1, h]; rfl
theorem check_3 {K : List Pt} {k : Nat} (g : Good K) (h0 : firstQ (F0 K) K.length = none) (h1 : firstQ (F1 K) K.length = none) (h2 : firstQ (F2 K) K.length = none) (h : firstQ (F3 K) K.length = some k) : checkF K = (193, k) := by
  unfold checkF; rw [if_neg g.1, if_neg g.2]
  show orFault (firstQ (F0 K) K.length) _ (orFault (firstQ (F1 K) K.length) _ (orFault (firstQ (F2 K) K.length) _ (orFault (firstQ (F3 K) K.length) _ _))) = _
  rw [h0, h1, h2, h]; rfl
theorem check_none {K : List Pt} (g : Good K) (h0 : firstQ (F0 K) K.length = none) (h1 : firstQ (F1 K) K.length = none) (h2 : firstQ (F2 K) K.length = none) (h : firstQ (F3 K) K.length = none) : checkF K = (0, 0) := by
  unfold checkF; rw [if_neg g.1, if_neg g.2]
  show orFault (firstQ (F0 K) K.length) _ (orFault (firstQ (F1 K) K.length) _ (orFault (firstQ (F2 K) K.length) _ (orFault (firstQ (F3 K) K.length) _ _))) = _
  rw [h0, h1, h2, h]; rfl
def FsAt (W : World) (f : Nat → Bool) (K : List Pt) (x : Value) (wr : World) : Prop := ∃ k : Nat, x = .int .i64 (k : Int) ∧ k ≤ K.length ∧ (∀ j, j < k → f j = false) ∧ Cls W wr
end

section
set_option linter.unusedVariables false
set_option linter.unusedSimpArgs false
open Go.RowKit

theorem powns_base {w : World} {b1 b2 : Nat} {ty : TypeId} {size n : Nat} {v : Value} {xs : List Value} (h : w.ownsRow b1 ty size v n xs) (hb : b2 ≤ b1) : w.ownsRow b2 ty size v n xs := by
  obtain ⟨h1, h2⟩ := h
  refine ⟨h1, ?_⟩
  rcases h2 with h2 | ⟨g, cap, cur, hv, hg, hc, hr⟩
  · exact .inl h2
  · exact .inr ⟨g, cap, cur, hv, Nat.le_trans hb hg, hc, hr⟩
/-- A list of points in new memory. -/
def POwn (w w' : World) (v : Value) (L : List Pt) : Prop := w'.ownsRow w.heap.size 31 2 v L.length (pcells L)
def TnAt (W : World) (K : List Pt) (v i : Value) (wr : World) : Prop := ∃ k : Nat, i = .int .i64 ((K.length : Int) - 1 - (k : Int)) ∧ k ≤ K.length ∧ wr.ownsRow W.heap.size 31 2 v k (pcells (K.reverse.take k)) ∧ Below W.heap.size W wr
theorem take_next {L : List Pt} {k : Nat} {x : Pt} (hk : k < L.length) (h : L.getD k (0, 0) = x) : L.take (k + 1) = L.take k ++ [x] := by
  rw [List.getD_eq_getElem?_getD, List.getElem?_eq_getElem hk] at h
  simp at h
  rw [List.take_succ_eq_append_getElem hk, h]
theorem rev_at {K : List Pt} {k : Nat} (hk : k < K.length) : K.reverse.getD k (0, 0) = K.getD (K.length - 1 - k) (0, 0) := by
  rw [List.getD_eq_getElem?_getD, List.getD_eq_getElem?_getD, List.getElem?_reverse hk]
end

section
set_option linter.unusedVariables false
set_option linter.unusedSimpArgs false
open Go.RowKit

/-- Between two rounds: how many points there are, and the place. -/
def FrAt (W : World) (K : List Pt) (s : Int) (v x i : Value) (wr : World) : Prop := ∃ (k : Nat) (j : Int), x = .int .i64 (k : Int) ∧ i = .int .i64 j ∧ (k = 0 ∧ j = s ∨ 0 ≤ j ∧ j ≤ (K.length : Int) ∧ j % (K.length : Int) = (s + (k : Int)) % (K.length : Int)) ∧
  k ≤ K.length ∧ wr.ownsRow W.heap.size 31 2 v k (pcells ((rotF K s).take k)) ∧ Below W.heap.size W wr
end

section
set_option linter.unusedVariables false
set_option linter.unusedSimpArgs false
open Go.RowKit

theorem own_reads {W w' : World} {v : Value} {L : List Pt} (h : POwn W w' v L) : ∃ a cap, v = .slice a L.length cap ∧ PReads w' a L.length L := by
  obtain ⟨a', cap', e, hR⟩ := preads_of_owns h
  exact ⟨a', cap', e, hR⟩
theorem own_up {W w1 w2 w3 : World} {v : Value} {L : List Pt} (h : POwn w1 w2 v L) (hb : W.heap.size ≤ w1.heap.size) (e : w3 = w2) : POwn W w3 v L := by
  subst e; exact powns_base h hb
theorem preads_eqh {w1 w2 : World} {a : Option Addr} {n : Nat} {K : List Pt} (h : PReads w1 a n K) (e : w2 = w1) : PReads w2 a n K := by subst e; exact h
theorem preads_byp {w1 w2 : World} {J : Array Obj} {d : Nat} {a : Option Addr} {n : Nat} {K : List Pt} (h : PReads w1 a n K) (e : w2 = w1.plus J d) : PReads w2 a n K := by
  subst e; exact h.below (Junk.below ⟨_, _, rfl⟩)
theorem own_readn {W w' : World} {v : Value} {L : List Pt} {n : Nat} (hn : L.length = n) (h : POwn W w' v L) : ∃ a cap, v = .slice a n cap ∧ PReads w' a n L := by
  subst hn; exact own_reads h
theorem own_nil (W w' : World) : POwn W w' (.slice none 0 0) [] := pnil_owns _ _
end

section
set_option linter.unusedVariables false
set_option linter.unusedSimpArgs false
open Go.RowKit

open Classical in
/-- Are two rings the same? -/
noncomputable def sameB (K M : List Pt) : Bool := decide (SameF K M)
theorem same_true {K M : List Pt} : sameB K M = true ↔ SameF K M := by unfold sameB; simp
theorem same_false {K M : List Pt} : sameB K M = false ↔ ¬ SameF K M := by unfold sameB; simp
def seqM (M : List Pt) (t : Nat) : List Pt := if t = 1 then M.reverse else M
theorem same_len {K M : List Pt} (h : SameF K M) : K.length = M.length := by
  obtain ⟨_, _, s, rfl | rfl⟩ := h
  · exact rot_len _ _
  · rw [rot_len, List.length_reverse]
theorem rot_of {K M : List Pt} {i : Nat} (hl : K.length = M.length) : K = rotF M (i : Int) ↔ ∀ k, k < K.length → K.getD k (0, 0) = cyc M ((i : Int) + (k : Int)) := by
  constructor
  · intro h k hk
    conv => lhs; rw [h]
    rw [rot_getD (by omega)]
  · intro h
    refine list_cyc (by rw [rot_len, hl]) fun k hk => ?_
    rw [cyc_nat hk, rot_cyc]; exact h k hk
theorem rot_any {K M : List Pt} (hn : 0 < M.length) : (∃ s, K = rotF M s) ↔ ∃ i : Nat, i < M.length ∧ K = rotF M (i : Int) := by
  constructor
  · rintro ⟨s, h⟩
    obtain ⟨k, hk, _, hm⟩ := cyc_at (K := M) hn s
    exact ⟨k, hk, h.trans (rot_mod (by rw [hm, Int.emod_eq_of_lt (by omega) (by omega)]))⟩
  · rintro ⟨i, _, h⟩
    exact ⟨_, h⟩
theorem same_not {K M : List Pt} (hl : K.length = M.length) (h0 : ∀ i : Nat, i < K.length → K ≠ rotF M (i : Int)) (h1 : ∀ i : Nat, i < K.length → K ≠ rotF M.reverse (i : Int)) : sameB K M = false := by
  rw [same_false]
  rintro ⟨_, f, h⟩
  have hn : 0 < M.length := by have := f.few; omega
  rcases exists_or.1 h with h | h
  · obtain ⟨i, hi, e⟩ := (rot_any hn).1 h
    exact h0 i (by omega) e
  · obtain ⟨i, hi, e⟩ := (rot_any (by simpa using hn)).1 h
    exact h1 i (by simpa [hl] using hi) e
theorem same_hit {K M : List Pt} (h : fineQ K) (h2 : fineQ M) {t : Nat} (ht : t < 2) {i : Nat} (e : K = rotF (seqM M t) (i : Int)) : sameB K M = true := by
  rw [same_true]
  refine ⟨h, h2, (i : Int), ?_⟩
  unfold seqM at e
  split at e
  · exact .inr e
  · exact .inl e
def OutS (W : World) (K M : List Pt) (n : Nat) (x y : Value) (wr : World) : Prop := ∃ (t : Nat) (a' : Option Addr) (ca' : Nat), x = .int .i64 (t : Int) ∧ y = .slice a' n ca' ∧ t ≤ 2 ∧ PReads wr a' n (seqM M t) ∧
  (0 < t → ∀ i : Nat, i < K.length → K ≠ rotF M (i : Int)) ∧ (1 < t → ∀ i : Nat, i < K.length → K ≠ rotF M.reverse (i : Int)) ∧ Cls W wr
def MidS (W : World) (K M : List Pt) (x : Value) (wr : World) : Prop := ∃ i : Nat, x = .int .i64 (i : Int) ∧ i ≤ K.length ∧ (∀ j : Nat, j < i → K ≠ rotF M (j : Int)) ∧ Cls W wr
def InnS (W : World) (K M : List Pt) (i : Nat) (x y : Value) (wr : World) : Prop := ∃ (k : Nat) (s : Bool), x = .int .i64 (k : Int) ∧ y = .bool s ∧ k ≤ K.length ∧ (s = true → ∀ j : Nat, j < k → K.getD j (0, 0) = cyc M ((i : Int) + (j : Int))) ∧ (s = false → K ≠ rotF M (i : Int)) ∧ Cls W wr
theorem seq_len (M : List Pt) (t : Nat) : (seqM M t).length = M.length := by unfold seqM; split <;> simp
end
end Go.Proofs.Ytnpkhhchbahcpaa

/- ring's least: slices.MinFunc over points by point.Compare, and where the least stands. slices.Reverse over points; ring's Turned. slices.Grow and slices.Concat over points; ring's From. ring's From. slices.Equal over points; ring's Sign. ring's Normal and Same: the package's contracts. -/
import Derived.Test.YtnpkhhchbahcpaaRgChk
import Derived.Test.YtnpkhhchbahcpaaPtG
import Derived.Test.YtnpkhhchbahcpaaCrFive
import Derived.Test.YtnpkhhchbahcpaaRiRef
import Derived.Lib.AppendZerosOnto
import Derived.Lib.SliceRun
import Derived.Lib.Walk
namespace Go.Proofs.Ytnpkhhchbahcpaa
section
set_option linter.unusedVariables false
set_option linter.unusedSimpArgs false
open Go.RowKit Go.Shelf

theorem least_fresh {K : List Pt} : ∀ k j, j < leastN K k → K.getD j (0, 0) ≠ K.getD (leastN K k) (0, 0)
  | 0, j, h => absurd h (by simp [leastN])
  | k + 1, j, h => by
    have e : leastN K (k + 1) = if cmpC (K.getD k (0, 0)) (K.getD (leastN K k) (0, 0)) < 0 then k else leastN K k := rfl
    rw [e] at h ⊢
    by_cases hc : cmpC (K.getD k (0, 0)) (K.getD (leastN K k) (0, 0)) < 0
    · rw [if_pos hc] at h ⊢
      intro he
      have := least_le (K := K) k j h
      rw [he, cmpC_neg] at this
      omega
    · rw [if_neg hc] at h ⊢
      exact least_fresh k j h
theorem idx_least {K : List Pt} (hn : 0 < K.length) : idxQ K (K.getD (leastF K) (0, 0)) = (leastF K : Nat) := by
  have hl := least_in hn
  obtain ⟨x, y, hx⟩ : ∃ x y, K.getD (leastF K) (0, 0) = (x, y) := ⟨_, _, rfl⟩
  rw [hx]
  refine idx_hit hl hx fun hm => ?_
  rw [List.mem_iff_getElem] at hm
  obtain ⟨j, hj, e⟩ := hm
  rw [List.length_take] at hj
  rw [List.getElem_take] at e
  refine least_fresh (K := K) K.length j (by unfold leastF at hj; omega) ?_
  show _ = K.getD (leastF K) (0, 0)
  rw [hx, ← e, List.getD_eq_getElem?_getD, List.getElem?_eq_getElem (by omega)]
  rfl

def MfAt (w : World) (K : List Pt) (x : Value) (wr : World) : Prop := ∃ k : Nat, x = .int .i64 (k : Int) ∧ 1 ≤ k ∧ k ≤ K.length ∧ Blk wr (w.heap.size + 1) #[.int .i64 (K.getD (leastN K k) (0, 0)).1, .int .i64 (K.getD (leastN K k) (0, 0)).2] 31 ∧ Blk wr w.heap.size #[.int .i64 0, .int .i64 0] 31 ∧ Below w.heap.size w wr ∧ w.heap.size + 2 ≤ wr.heap.size
/-- May it be? -/
def fineV (K : List Pt) : Bool := decide ((checkF K).1 = 0)
theorem fineV_true {K : List Pt} (h : fineQ K) : fineV K = true := decide_eq_true (check_fine.2 h)
theorem fineV_false {K : List Pt} (h : ¬ fineQ K) : fineV K = false := decide_eq_false fun e => h (check_fine.1 e)
end

section
set_option linter.unusedVariables false
set_option linter.unusedSimpArgs false
open Go.RowKit

/-- A slice that may be: its length is within its capacity, and where there is none it is empty. -/
structure SOk (a : Option Addr) (n ca : Nat) : Prop where
  le : n ≤ ca
  nil : a = none → ca = 0

theorem wpList_pall {ops : Array Oper} {rest : List Oper} {o : Oper} {a : Act} {w : World} {Q : Exit → Act → World → Prop} (hgd : o.guard = none) (s x : Operand)
    (ho : o.op = .call { callee := .builtin .append, args := #[s, x], argTypes := #[23, 23] }) (base : Nat) (v : Value) (n : Nat) (K : List (Int × Int)) (hs : a.eval s = v) (hown : w.ownsRow base 31 2 v n (pcells K))
    (A : Option Addr) (len cap : Nat) (M : List (Int × Int)) (hx : a.eval x = .slice A len cap) (hn : SOk A len cap) (hr : PReads w A len M) (hm : n + len ≤ 1000000) (hb : base ≤ w.heap.size)
    (h : ∀ v' w', w'.ownsRow base 31 2 v' (n + len) (pcells (K ++ M)) → w.grownBy w' v.ownBlock → wpList Try.prog ops Q rest (a.put o.dst v') w') : wpList Try.prog ops Q (o :: rest) a w := by
  obtain ⟨i0, hi0, hz0, hz1, hz2⟩ := info_pt
  rcases A with _ | ad
  · obtain rfl : cap = 0 := hn.nil rfl
    obtain rfl : len = 0 := by have := hn.le; omega
    obtain rfl : M = [] := List.eq_nil_of_length_eq_zero hr.1
    refine wpList_append_own_none hgd s x _ ho base 31 i0 2 Try.underlying23 hi0 _ n (pcells K) hs hown hx ?_
    exact h _ _ (by rw [List.append_nil, Nat.add_zero]; exact hown) (World.grownBy.refl w _)
  · refine wpList_append_own _ hgd s x _ ho base 31 i0 _ 2 16 Try.underlying23 hi0 hz0 hz1 hz2 rfl (by decide) _ n (pcells K) hs hown ad len cap (pcells M) hx
      (by rw [pcells_len, hr.1]) hr.cells (pcells_one M) (by simp only [maxLen]; omega) (by omega) hb ?_
    intro v' w' hown' hg _
    rw [← pcells_app] at hown'
    exact h _ _ hown' hg

/-- The cells hold these points. -/
def CellsOf (cur : Array Value) (M : List (Int × Int)) : Prop := ∀ p, p < M.length → cur[p * 2]? = some (.int .i64 (M.getD p (0, 0)).1) ∧ cur[p * 2 + 1]? = some (.int .i64 (M.getD p (0, 0)).2)
theorem cells_take {cur : Array Value} {M : List (Int × Int)} (h : CellsOf cur M) (hs : M.length * 2 ≤ cur.size) : cur.toList.take (M.length * 2) = pcells M := by
  apply List.ext_getElem?
  intro i
  by_cases hi : i < M.length * 2
  · rw [List.getElem?_take_of_lt hi]
    obtain ⟨p, hp⟩ : ∃ p, i = p * 2 ∨ i = p * 2 + 1 := ⟨i / 2, by omega⟩
    have hpl : p < M.length := by omega
    obtain ⟨h1, h2⟩ := h p hpl
    obtain ⟨g1, g2⟩ := pcells_at M p hpl
    rcases hp with rfl | rfl
    · rw [g1]; simpa using h1
    · rw [g2]; simpa using h2
  · rw [List.getElem?_eq_none (by rw [List.length_take]; omega), List.getElem?_eq_none (by rw [pcells_len]; omega)]
theorem take_cells {cur : Array Value} {M : List (Int × Int)} (h : cur.toList.take (M.length * 2) = pcells M) : CellsOf cur M := by
  intro p hp
  obtain ⟨g1, g2⟩ := pcells_at M p hp
  rw [← h, List.getElem?_take_of_lt (by omega)] at g1 g2
  exact ⟨by simpa using g1, by simpa using g2⟩

/-- K with its first k and its last k in each other's places. -/
def swapK (K : List (Int × Int)) (k : Nat) : List (Int × Int) := (List.range K.length).map fun p => if p < k ∨ K.length ≤ p + k then K.getD (K.length - 1 - p) (0, 0) else K.getD p (0, 0)
theorem swap_len (K : List (Int × Int)) (k : Nat) : (swapK K k).length = K.length := by simp [swapK]
theorem swap_at {K : List (Int × Int)} {k p : Nat} (hp : p < K.length) : (swapK K k).getD p (0, 0) = if p < k ∨ K.length ≤ p + k then K.getD (K.length - 1 - p) (0, 0) else K.getD p (0, 0) := by
  unfold swapK
  rw [List.getD_eq_getElem?_getD, List.getElem?_map, List.getElem?_range hp]; rfl
theorem swap_zero (K : List (Int × Int)) : swapK K 0 = K := by
  apply List.ext_getElem (by rw [swap_len])
  intro p h1 h2
  have := swap_at (K := K) (k := 0) h2
  rw [if_neg (by omega), List.getD_eq_getElem?_getD, List.getD_eq_getElem?_getD, List.getElem?_eq_getElem h1, List.getElem?_eq_getElem h2] at this
  simpa using this
theorem swap_all {K : List (Int × Int)} {k : Nat} (hk : K.length ≤ 2 * k + 1) : swapK K k = K.reverse := by
  apply List.ext_getElem (by rw [swap_len, List.length_reverse])
  intro p h1 h2
  have hp : p < K.length := by rw [swap_len] at h1; exact h1
  have := swap_at (K := K) (k := k) hp
  rw [List.getElem_reverse]
  rw [List.getD_eq_getElem?_getD, List.getElem?_eq_getElem h1] at this
  simp only [Option.getD_some] at this
  rw [this]
  by_cases h : p < k ∨ K.length ≤ p + k
  · rw [if_pos h, List.getD_eq_getElem?_getD, List.getElem?_eq_getElem (by omega)]; rfl
  · rw [if_neg h, List.getD_eq_getElem?_getD, List.getElem?_eq_getElem hp]
    simp only [Option.getD_some]
    congr 1
    omega
/-- One exchange. -/
theorem swap_step {cur : Array Value} {K : List (Int × Int)} {k j : Nat} (h : CellsOf cur (swapK K k)) (hkj : k < j) (hj : j + k + 1 = K.length) (hs : K.length * 2 ≤ cur.size) {x y u v : Int} (ek : (swapK K k).getD k (0, 0) = (x, y)) (ej : (swapK K k).getD j (0, 0) = (u, v)) {cur' : Array Value}
    (hc : ∀ i, cur'[i]? = if i = k * 2 then some (.int .i64 u) else if i = k * 2 + 1 then some (.int .i64 v) else if i = j * 2 then some (.int .i64 x) else if i = j * 2 + 1 then some (.int .i64 y) else cur[i]?) : CellsOf cur' (swapK K (k + 1)) := by
  intro p hp
  rw [swap_len] at hp
  rw [swap_at (by omega)] at ek ej
  rw [if_neg (by omega)] at ek ej
  have hn := swap_at (K := K) (k := k + 1) hp
  have ho := swap_at (K := K) (k := k) hp
  obtain ⟨h1, h2⟩ := h p (by rw [swap_len]; exact hp)
  rw [hn]
  have a1 := hc (p * 2)
  have a2 := hc (p * 2 + 1)
  by_cases e1 : p = k
  · subst e1
    rw [if_pos rfl] at a1
    rw [if_neg (show ¬ p * 2 + 1 = p * 2 by omega), if_pos rfl] at a2
    rw [if_pos (by omega), show K.length - 1 - p = j by omega, ej, a1, a2]
    exact ⟨rfl, rfl⟩
  · by_cases e2 : p = j
    · subst e2
      rw [if_neg (show ¬ p * 2 = k * 2 by omega), if_neg (show ¬ p * 2 = k * 2 + 1 by omega), if_pos rfl] at a1
      rw [if_neg (show ¬ p * 2 + 1 = k * 2 by omega), if_neg (show ¬ p * 2 + 1 = k * 2 + 1 by omega), if_neg (show ¬ p * 2 + 1 = p * 2 by omega), if_pos rfl] at a2
      rw [if_pos (by omega), show K.length - 1 - p = k by omega, ek, a1, a2]
      exact ⟨rfl, rfl⟩
    · rw [if_neg (show ¬ p * 2 = k * 2 by omega), if_neg (show ¬ p * 2 = k * 2 + 1 by omega), if_neg (show ¬ p * 2 = j * 2 by omega), if_neg (show ¬ p * 2 = j * 2 + 1 by omega)] at a1
      rw [if_neg (show ¬ p * 2 + 1 = k * 2 by omega), if_neg (show ¬ p * 2 + 1 = k * 2 + 1 by omega), if_neg (show ¬ p * 2 + 1 = j * 2 by omega), if_neg (show ¬ p * 2 + 1 = j * 2 + 1 by omega)] at a2
      rw [a1, a2]
      rw [ho] at h1 h2
      by_cases h3 : p < k ∨ K.length ≤ p + k
      · rw [if_pos (by omega)]; rw [if_pos h3] at h1 h2; exact ⟨h1, h2⟩
      · rw [if_neg (by omega)]; rw [if_neg h3] at h1 h2; exact ⟨h1, h2⟩

theorem blk_drew {W : World} {k : Nat} {c : Array Value} {t : TypeId} (h : Blk W k c t) : Blk W.drew k c t := h
theorem grown_set {w W : World} {g : Nat} (h : w.grownBy W (some g)) (o : Nat) (v : Value) : w.grownBy (W.setCell ⟨g, o, none⟩ v) (some g) :=
  ⟨h.os, h.tape, h.output, Nat.le_trans h.size (KeepsWalks.setCell W _ v).size, fun k h1 h2 => (Below.heap_setCell W _ _ k (fun e => h2 (by rw [e]))).trans (h.block k h1 h2)⟩
theorem grown_drew {w W : World} {g : Nat} (h : w.grownBy W (some g)) : w.grownBy W.drew (some g) := ⟨h.os, h.tape, h.output, h.size, h.block⟩
theorem set4_at {cur : Array Value} {k j : Nat} {u v x y : Value} (hk : k < j) (hs : j * 2 + 1 < cur.size) (i : Nat) :
    ((((cur.setIfInBounds (k * 2) u).setIfInBounds (k * 2 + 1) v).setIfInBounds (j * 2) x).setIfInBounds (j * 2 + 1) y)[i]? = if i = k * 2 then some u else if i = k * 2 + 1 then some v else if i = j * 2 then some x else if i = j * 2 + 1 then some y else cur[i]? := by
  simp only [Array.getElem?_setIfInBounds, Array.size_setIfInBounds]
  by_cases h1 : i = k * 2
  · subst h1
    rw [if_neg (by omega), if_neg (by omega), if_neg (by omega), if_pos rfl, if_pos (by omega), if_pos rfl]
  · by_cases h2 : i = k * 2 + 1
    · subst h2
      rw [if_neg (by omega), if_neg (by omega), if_pos rfl, if_pos (by omega), if_neg h1, if_pos rfl]
    · by_cases h3 : i = j * 2
      · subst h3
        rw [if_neg (by omega), if_pos rfl, if_pos (by omega), if_neg h1, if_neg h2, if_pos rfl]
      · by_cases h4 : i = j * 2 + 1
        · subst h4
          rw [if_pos rfl, if_pos (by omega), if_neg h1, if_neg h2, if_neg h3, if_pos rfl]
        · rw [if_neg (by omega), if_neg (by omega), if_neg (by omega), if_neg (by omega), if_neg h1, if_neg h2, if_neg h3, if_neg h4]

/-- Between two rounds. -/
def RvAt (w : World) (K : List (Int × Int)) (g cap : Nat) (x y : Value) (wr : World) : Prop := ∃ (k : Nat) (cur : Array Value), x = .int .i64 (k : Int) ∧ y = .int .i64 ((K.length : Int) - 1 - (k : Int)) ∧ 2 * k ≤ K.length ∧ Blk wr g cur 31 ∧ cur.size = cap * 2 ∧ CellsOf cur (swapK K k) ∧ w.grownBy wr (some g)
end

section
set_option linter.unusedVariables false
set_option linter.unusedSimpArgs false
open Go.RowKit

open Go.Lib in
def two {α : Type} (x y z : α) (k : Nat) : α := if k = 0 then x else if k = 1 then y else z
def cat2 (K1 K2 : List (Int × Int)) (k : Nat) : List (Int × Int) := two [] K1 (K1 ++ K2) k
def sum2 (n1 n2 k : Nat) : Nat := two 0 n1 (n1 + n2) k
def CcAt (w : World) (n1 n2 : Nat) (s i : Value) (wr : World) : Prop := ∃ k : Nat, i = .int .i64 (k : Int) ∧ s = .int .i64 (sum2 n1 n2 k : Nat) ∧ k ≤ 2 ∧ wr = w
def CdAt (w : World) (n1 n2 : Nat) (K1 K2 : List (Int × Int)) (v i : Value) (wr : World) : Prop := ∃ k : Nat, i = .int .i64 (k : Int) ∧ k ≤ 2 ∧ wr.ownsRow w.heap.size 31 2 v (sum2 n1 n2 k) (pcells (cat2 K1 K2 k)) ∧ Below w.heap.size w wr
end

section
set_option linter.unusedVariables false
set_option linter.unusedSimpArgs false
open Go.RowKit

theorem preads_drop {w : World} {b o n : Nat} {K : List (Int × Int)} (h : PReads w (some ⟨b, o, none⟩) n K) (i : Nat) : PReads w (some ⟨b, o + i * 2, none⟩) (n - i) (K.drop i) := by
  obtain ⟨h1, h2⟩ := h
  refine ⟨by rw [List.length_drop, h1], ?_⟩
  rcases h2 with h2 | ⟨b', o', he, hc⟩
  · exact .inl (by omega)
  · injection he with he
    injection he with e1 e2 _
    subst e1 e2
    refine .inr ⟨_, _, rfl, fun k hk => ?_⟩
    have e : (K.drop i).getD k (0, 0) = K.getD (i + k) (0, 0) := by
      rw [List.getD_eq_getElem?_getD, List.getD_eq_getElem?_getD, List.getElem?_drop]
    rw [e]
    have := hc (i + k) (by omega)
    rw [show o + i * 2 + k * 2 = o + (i + k) * 2 by omega]
    exact this
theorem rot_parts {K : List Pt} {s : Int} {m : Nat} (hm : (m : Int) = s % (K.length : Int)) (hl : m < K.length) : rotF K s = K.drop m ++ K.take m := by
  refine list_cyc (by rw [rot_len, List.length_append, List.length_drop, List.length_take]; omega) fun k hk => ?_
  rw [rot_len] at hk
  have hml : (K.drop m ++ K.take m).length = K.length := by rw [List.length_append, List.length_drop, List.length_take]; omega
  rw [rot_cyc, cyc_nat (by rw [hml]; exact hk)]
  have e1 : cyc K (s + (k : Int)) = cyc K (((m + k) % K.length : Nat) : Int) := by
    refine cyc_mod ?_
    push_cast
    rw [hm, Int.emod_emod, Int.emod_add_emod]
  rw [e1, cyc_nat (Nat.mod_lt _ (by omega))]
  rw [List.getD_eq_getElem?_getD, List.getD_eq_getElem?_getD]
  by_cases h : k < K.length - m
  · rw [Nat.mod_eq_of_lt (by omega), List.getElem?_append_left (by rw [List.length_drop]; exact h), List.getElem?_drop]
  · rw [List.getElem?_append_right (by rw [List.length_drop]; omega), List.length_drop, List.getElem?_take_of_lt (by omega)]
    rw [show m + k = (k - (K.length - m)) + K.length by omega, Nat.add_mod_right, Nat.mod_eq_of_lt (by omega)]
end

section
set_option linter.unusedVariables false
set_option linter.unusedSimpArgs false
open Go.RowKit

theorem own_ok {W w' : World} {v : Value} {L : List Pt} {n : Nat} (hn : L.length = n) (h : POwn W w' v L) : ∃ a cap, v = .slice a n cap ∧ PReads w' a n L ∧ SOk a n cap := by
  obtain ⟨a, cap, e, hR⟩ := own_readn hn h
  refine ⟨a, cap, e, hR, ?_⟩
  obtain ⟨_, h2⟩ := h
  rcases h2 with ⟨e2, h0⟩ | ⟨g, c2, cur, e2, _, _, hnc, _⟩
  · rw [e2] at e
    injection e with e3 e4 e5
    subst e3 e4 e5
    exact ⟨Nat.le_refl _, fun _ => rfl⟩
  · rw [e2] at e
    injection e with e3 e4 e5
    subst e5
    exact ⟨by omega, fun h => by rw [← e3] at h; cases h⟩
end

section
set_option linter.unusedVariables false
set_option linter.unusedSimpArgs false
open Go.RowKit

theorem norm_le {K : List Pt} {n : Nat} (h : K.length = n) : (normF K).length ≤ n := by
  by_cases hf : fineQ K
  · rw [norm_len (norm_is hf), h]; exact Nat.le_refl _
  · rw [norm_not hf]; exact Nat.zero_le _
end
end Go.Proofs.Ytnpkhhchbahcpaa

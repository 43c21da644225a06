/- ring's edges: the iterator yields each edge behind its number; an edge's ends. ring's neighbours, goesBack, edge.meets; checkLong, checkFew. Rounds over edges: what lies in a block; lists of numbers that have come; the first at which something is so. ring's checkValid. ring's checkTwice. ring's checkBack. ring's checkMeet. ring's Check: the checks, one asking the next. ring's Check: the chain of closures, made by a loop backwards over the checks. ring's Check: its contract. -/
import Derived.RangeFuncNested
import Derived.RangeFuncBound
import Derived.RangeFuncBox
import Derived.RangeFuncCalls
import Derived.RangeFuncLeaves
import Derived.Shelf.Abstract
import Derived.Shelf.RegionOpen
import Derived.WalkKit
import Derived.OwnWalkIn
import Derived.TacticsInMore
import Derived.LoopNIn
import Derived.LoopIn
import Derived.Maps.AppendAt
import Derived.Test.YtnpkhhchbahcpaaPtOne
import Derived.Test.YtnpkhhchbahcpaaKitOne
import Derived.Test.YtnpkhhchbahcpaaKitTwo
import Derived.Test.YtnpkhhchbahcpaaRiRef
import Derived.Test.YtnpkhhchbahcpaaCrFive
import Derived.Test.YtnpkhhchbahcpaaPtI
import Derived.Laws.EntriesVeiled
namespace Go.Proofs.Ytnpkhhchbahcpaa
section
set_option linter.unusedVariables false
set_option linter.unusedSimpArgs false
open Go.RowKit Go.Shelf

attribute [local go_sem] Oper.semAt_some

/-- The point behind the i-th, round the list. -/
def nxtC (K : List (Int × Int)) (i : Nat) : Int × Int := K.getD ((i + 1) % K.length) (0, 0)
/-- The i-th edge as a value. -/
def edV (p q : Int × Int) : Value := .agg #[.int .i64 p.1, .int .i64 p.2, .int .i64 q.1, .int .i64 q.2]

/-- What a round keeps: what lay before the call, and one block. -/
def KeepsE (n0 Bn : Nat) (W W' : World) : Prop := Below n0 W W' ∧ ∀ (c : Array Value) t f, W.heap[Bn]? = some (.cells c t f) → W'.heap[Bn]? = some (.cells c t f)
theorem keepsE_t {n0 Bn : Nat} {A B C : World} (h : KeepsE n0 Bn A B) (k : KeepsE n0 Bn B C) : KeepsE n0 Bn A C := ⟨h.1.trans k.1, fun c t f hi => k.2 c t f (h.2 c t f hi)⟩
theorem keepsE_b {n0 Bn : Nat} {w : World} (hn : n0 ≤ w.heap.size) (W : World) (l : Nat) (o o' : Obj) (hl : w.heap.size ≤ l) (h : W.heap[l]? = some o) (hc : o.isCells = false) (hw : o.isWalk = false) : KeepsE n0 Bn W (W.putObj l o') :=
  ⟨belowK_b hn W l o o' hl h hc hw, fun c t f hk => by
    by_cases e : Bn = l
    · subst e; rw [hk] at h; injection h with h; subst h; cases hc
    · exact (World.putObj_heap_other e).trans hk⟩
theorem keepsE_below {n0 Bn : Nat} {W W' : World} (hn : n0 ≤ W.heap.size) (hb : Below W.heap.size W W') : KeepsE n0 Bn W W' :=
  ⟨hb.mono hn, fun c t f hk => (hb.block Bn (Array.getElem?_eq_some_iff.1 hk).1).trans hk⟩
theorem grown_of_below {A B : World} (h : Below A.heap.size A B) : A.grownBy B none := ⟨h.os, h.tape, h.output, h.size, fun k hk _ => h.block k hk⟩
theorem heap_lt {W : World} {k : Nat} {o : Obj} (h : W.heap[k]? = some o) : k < W.heap.size := (Array.getElem?_eq_some_iff.1 h).1

/-- The numbers from 0 on. -/
def UptoQ {n : Nat} (xs : List (Fin n)) : Prop := ∀ j (h : j < xs.length), (xs[j]'h).val = j
theorem upto_nil {n : Nat} : UptoQ ([] : List (Fin n)) := fun j h => absurd h (by simp)
theorem upto_snoc {n : Nat} {xs : List (Fin n)} (h : UptoQ xs) (x : Fin n) (hx : x.val = xs.length) : UptoQ (xs ++ [x]) := fun j hj => by
  by_cases hl : j < xs.length
  · rw [List.getElem_append_left hl]; exact h j hl
  · have : j = xs.length := by simp at hj; omega
    subst this
    simp [hx]

theorem results_pnt {fn : Func} {p : Tmp} (h : fn.results = #[.cell p 31]) (tmps : Array Value) (w : World) (g : Nat) (c : Array Value)
    (hp : tmps.getD p undef = .pointer (some ⟨g, 0, none⟩)) (hr : w.rowAt g = some c) (hc : c.size = 2) : (results fn tmps).run Try.prog w = .ok (.agg c) w := by
  obtain ⟨ty, hg⟩ := rowAt_some hr
  have hp' : tmps[p]?.getD undef = .pointer (some ⟨g, 0, none⟩) := by simpa using hp
  simp [results, h, hp', asAddr, run_loadVar_row w g ty _ c (0, 0) _ hg Try.underlying31 rfl (by rw [hc]; kernel_rfl)]

/-- Between two rounds. -/
def EdAt (w0 : World) (n : Nat) (J : List (Fin n) → World → Prop) (Bn : Nat) (s : Value) (i : Value) (wr : World) : Prop :=
  ∃ pre : List (Fin n), i = .int .i64 (pre.length : Int) ∧ pre.length ≤ n ∧ UptoQ pre ∧ J pre wr ∧ Below w0.heap.size w0 wr ∧ wr.heap[Bn]? = some (.cells #[s] 23 (0, 0))
end

section
set_option linter.unusedVariables false
set_option linter.unusedSimpArgs false
open Go.RowKit

def nbQ (i j n : Nat) : Bool := decide ((i + 1) % n = j) || decide ((j + 1) % n = i)
end

section
set_option linter.unusedVariables false
set_option linter.unusedSimpArgs false
open Go.RowKit Go.Shelf

/-- A block as it lies. -/
def Blk (W : World) (k : Nat) (c : Array Value) (t : TypeId) : Prop := W.heap[k]? = some (.cells c t (0, 0))
theorem Blk.lt {W : World} {k : Nat} {c : Array Value} {t : TypeId} (h : Blk W k c t) : k < W.heap.size := heap_lt h
theorem Blk.row {W : World} {k : Nat} {c : Array Value} {t : TypeId} (h : Blk W k c t) : W.rowAt k = some c := by unfold World.rowAt; rw [show W.heap[k]? = _ from h]; rfl
theorem Blk.cell {W : World} {k : Nat} {c : Array Value} {t : TypeId} (h : Blk W k c t) (j : Nat) : W.cell? ⟨k, j, none⟩ = c[j]? := cell_of_row W k j _ _ _ h
theorem Blk.below {W W' : World} {k : Nat} {c : Array Value} {t : TypeId} (h : Blk W k c t) (hb : Below W.heap.size W W') : Blk W' k c t := (hb.block k h.lt).trans h
theorem Blk.new (W : World) (c : Array Value) (t : TypeId) : Blk (W.alloc (.cells c t)) W.heap.size c t := World.alloc_heap_new W (.cells c t)
theorem Blk.alloc {W : World} {k : Nat} {c : Array Value} {t : TypeId} (h : Blk W k c t) (o : Obj) : Blk (W.alloc o) k c t := h.below ((Below.refl _ W).alloc (Nat.le_refl _) _)
theorem Blk.kept {A B : World} {row : Option Nat} {k : Nat} {c : Array Value} {t : TypeId} (h : Blk A k c t) (hg : A.grownBy B row) (hr : ∀ r, row = some r → ∃ o : Obj, A.heap[r]? = some o ∧ o.isCells = false) : Blk B k c t := by
  refine (hg.block k h.lt fun e => ?_).trans h
  obtain ⟨o, ho, hn⟩ := hr k e.symm
  rw [show A.heap[k]? = _ from h] at ho
  injection ho with ho
  subst ho
  cases hn
theorem Blk.put {W : World} {k D : Nat} {c : Array Value} {t : TypeId} {o o' : Obj} (h : Blk W k c t) (hD : W.heap[D]? = some o) (hn : o.isCells = false) : Blk (W.putObj D o') k c t := by
  refine (World.putObj_heap_other fun e => ?_).trans h
  subst e
  rw [show W.heap[k]? = _ from h] at hD
  injection hD with hD
  subst hD
  cases hn
theorem keepsFrom_below {B : Nat} {W W' : World} (hb : Below W.heap.size W W') : KeepsFrom B W W' := KeepsOthers.from ⟨hb.size, fun k o hk _ => (hb.block k (heap_lt hk)).trans hk⟩ B
theorem Blk.frozen {W : World} {k : Nat} {c : Array Value} {t : TypeId} (h : Blk W k c t) (j : Nat) : W.frozen? ⟨k, j, none⟩ = false := by simp [World.frozen?, show W.heap[k]? = _ from h]
theorem Blk.set {W : World} {k : Nat} {c : Array Value} {t : TypeId} (h : Blk W k c t) (j : Nat) (v : Value) : Blk (W.setCell ⟨k, j, none⟩ v) k (c.setIfInBounds j v) t := by
  obtain ⟨hlt, hk⟩ := Array.getElem?_eq_some_iff.1 h
  show (W.heap.modify k _)[k]? = _
  rw [Array.getElem?_eq_getElem (by rw [Array.size_modify]; exact hlt), Array.getElem_modify_self, hk]
  rfl
theorem Blk.set_other {W : World} {k : Nat} {c : Array Value} {t : TypeId} (h : Blk W k c t) (k2 j : Nat) (v : Value) (hne : k ≠ k2) : Blk (W.setCell ⟨k2, j, none⟩ v) k c t := (Below.heap_setCell _ _ _ k hne).trans h
/-- A struct of two numbers is written, and blocks come behind. -/
theorem Blk.set2 {W : World} {k : Nat} {x y : Value} {t : TypeId} (h : Blk W k #[x, y] t) (u v : Value) (J : Array Obj) (d : Nat) : Blk (((W.setCell ⟨k, 0, none⟩ u).setCell ⟨k, 1, none⟩ v).plus J d) k #[u, v] t :=
  ((h.set 0 u).set 1 v).below (Junk.below ⟨J, d, rfl⟩)
theorem set2_below {W : World} {n0 k : Nat} (hk : n0 ≤ k) (hs : n0 ≤ W.heap.size) (u v : Value) (J : Array Obj) (d : Nat) : Below n0 W (((W.setCell ⟨k, 0, none⟩ u).setCell ⟨k, 1, none⟩ v).plus J d) := by
  have h1 : Below n0 W ((W.setCell ⟨k, 0, none⟩ u).setCell ⟨k, 1, none⟩ v) := ((Below.refl n0 W).setCell (p := ⟨k, 0, none⟩) hk u).setCell (p := ⟨k, 1, none⟩) hk v
  exact h1.trans ((Junk.below ⟨J, d, rfl⟩).mono (Nat.le_trans hs h1.size))
theorem set2_keeps {W : World} {B : Nat} (k : Nat) (u v : Value) (J : Array Obj) (d : Nat) : KeepsFrom B W (((W.setCell ⟨k, 0, none⟩ u).setCell ⟨k, 1, none⟩ v).plus J d) :=
  (((KeepsOthers.setCell W ⟨k, 0, none⟩ u).from B).trans ((KeepsOthers.setCell _ ⟨k, 1, none⟩ v).from B)).trans (keepsFrom_below (Junk.below ⟨J, d, rfl⟩))
theorem set2_other {W : World} {k2 : Nat} {c : Array Value} {t : TypeId} (h : Blk W k2 c t) (k : Nat) (u v : Value) (J : Array Obj) (d : Nat) (hne : k2 ≠ k) : Blk (((W.setCell ⟨k, 0, none⟩ u).setCell ⟨k, 1, none⟩ v).plus J d) k2 c t :=
  ((h.set_other k 0 u hne).set_other k 1 v hne).below (Junk.below ⟨J, d, rfl⟩)
theorem set2_size {W : World} (k : Nat) (u v : Value) (J : Array Obj) (d : Nat) : W.heap.size ≤ (((W.setCell ⟨k, 0, none⟩ u).setCell ⟨k, 1, none⟩ v).plus J d).heap.size := (set2_below (n0 := 0) (by omega) (by omega) u v J d).size
theorem heap_set2 {W : World} {k D : Nat} {o : Obj} (h : W.heap[D]? = some o) (hn : o.isCells = false) (u v : Value) (J : Array Obj) (d : Nat) : (((W.setCell ⟨k, 0, none⟩ u).setCell ⟨k, 1, none⟩ v).plus J d).heap[D]? = some o := (set2_keeps (B := 0) k u v J d).same D o (by omega) h hn

/-- What is asked of each, of those ahead of it and itself, has been so of none. -/
def Clean {n : Nat} (G : List (Fin n) → Fin n → Bool) (pre : List (Fin n)) : Prop := ∀ a x b, pre = a ++ x :: b → G a x = false
theorem clean_nil {n : Nat} (G : List (Fin n) → Fin n → Bool) : Clean G [] := fun a x b h => by simp at h
theorem clean_snoc {n : Nat} {G : List (Fin n) → Fin n → Bool} {pre : List (Fin n)} (h : Clean G pre) {x : Fin n} (hx : G pre x = false) : Clean G (pre ++ [x]) := by
  intro a y b e
  rcases List.append_eq_append_iff.1 e with ⟨c, e1, e2⟩ | ⟨c, e1, e2⟩
  · cases c with
    | nil =>
      simp at e1 e2
      rw [e1, ← e2.1]; exact hx
    | cons z c =>
      rw [List.cons_append, List.cons.injEq] at e2
      have := congrArg List.length e2.2
      simp at this
  · cases c with
    | nil =>
      simp at e1 e2
      rw [← e1, e2.1]; exact hx
    | cons z c =>
      rw [List.cons_append] at e2
      injection e2 with e3 e4
      subst e3
      exact h a y c e1
/-- The numbers ahead of k. -/
def upto (n k : Nat) (hk : k ≤ n) : List (Fin n) := (List.range k).pmap (fun i h => (⟨i, h⟩ : Fin n)) (fun i hi => by rw [List.mem_range] at hi; omega)
theorem upto_is {n : Nat} {xs : List (Fin n)} (h : UptoQ xs) (hl : xs.length ≤ n) : xs = upto n xs.length hl := by
  apply List.ext_getElem
  · simp [upto]
  · intro i h1 h2
    apply Fin.ext
    rw [h i h1]
    simp [upto]
theorem upto_split {n : Nat} {xs : List (Fin n)} (h : UptoQ xs) {j : Nat} (hj : j < xs.length) (hl : xs.length ≤ n) : ∃ b, xs = upto n j (by omega) ++ (⟨j, by omega⟩ : Fin n) :: b := by
  refine ⟨xs.drop (j + 1), ?_⟩
  have e : xs.take j = upto n j (by omega) := by
    have h2 : UptoQ (xs.take j) := fun i hi => by rw [List.getElem_take]; exact h i (by rw [List.length_take] at hi; omega)
    have h3 := upto_is h2 (by rw [List.length_take]; omega)
    rw [h3]; congr 1; rw [List.length_take]; omega
  rw [← e]
  have e2 : (⟨j, by omega⟩ : Fin n) = xs[j] := Fin.ext (h j hj).symm
  rw [e2, List.getElem_cons_drop, List.take_append_drop]
theorem clean_at {n : Nat} {G : List (Fin n) → Fin n → Bool} {xs : List (Fin n)} (h : UptoQ xs) (hl : xs.length ≤ n) (hc : Clean G xs) {F : Nat → Bool} (hF : ∀ j (hj : j < n), G (upto n j (by omega)) ⟨j, hj⟩ = F j) : ∀ j, j < xs.length → F j = false := by
  intro j hj
  obtain ⟨b, e⟩ := upto_split h hj hl
  rw [← hF j (by omega)]
  exact hc _ _ _ e
theorem clean_first {n : Nat} {G : List (Fin n) → Fin n → Bool} {pre : List (Fin n)} {x : Fin n} (h : UptoQ (pre ++ [x])) (hc : Clean G pre) (hx : G pre x = true) {F : Nat → Bool} (hF : ∀ j (hj : j < n), G (upto n j (by omega)) ⟨j, hj⟩ = F j) : firstQ F n = some x.val := by
  have hl : pre.length = x.val := by
    have := h pre.length (by simp)
    simp at this
    omega
  have hp : UptoQ pre := fun j hj => by
    have := h j (by simp; omega)
    rwa [List.getElem_append_left hj] at this
  have hx2 := x.isLt
  have hle : pre.length ≤ n := by omega
  refine first_some x.isLt ?_ ?_
  · rw [← hF x.val x.isLt]
    have e := upto_is hp hle
    have e3 : upto n pre.length hle = upto n x.val (by omega) := by
      congr 1
    rw [e3] at e
    rw [← e]; exact hx
  · intro j hj
    exact clean_at hp hle hc hF j (by omega)
theorem clean_none {n : Nat} {G : List (Fin n) → Fin n → Bool} {xs : List (Fin n)} (h : UptoQ xs) (hl : xs.length = n) (hc : Clean G xs) {F : Nat → Bool} (hF : ∀ j (hj : j < n), G (upto n j (by omega)) ⟨j, hj⟩ = F j) : firstQ F n = none := by
  rw [first_none]
  intro j hj
  exact clean_at h (by omega) hc hF j (by omega)
end

section
set_option linter.unusedVariables false
set_option linter.unusedSimpArgs false
open Go.RowKit Go.Shelf

attribute [local go_sem] Oper.semAt_some

theorem below_grown {n0 B : Nat} {w X Y : World} {row : Option Nat} (hb : Below n0 w X) (hs : n0 ≤ X.heap.size) (hB : n0 ≤ B) (hg : X.grownBy Y row) (hr : ∀ r, row = some r → B ≤ r ∧ ∃ o : Obj, X.heap[r]? = some o ∧ o.isCells = false) : Below n0 w Y :=
  hb.grown hg hs (fun k hk => Nat.le_trans hB (hr k hk).1)
end

section
set_option linter.unusedVariables false
set_option linter.unusedSimpArgs false
open Go.RowKit Go.Shelf

attribute [local go_sem] Oper.semAt_some

theorem preads_take {w : World} {a : Option Addr} {n : Nat} {K : List (Int × Int)} (h : PReads w a n K) {i : Nat} (hi : i ≤ n) : PReads w a i (K.take i) := by
  obtain ⟨h1, h2⟩ := h
  refine ⟨by rw [List.length_take]; omega, ?_⟩
  rcases h2 with h2 | ⟨b, o, he, hc⟩
  · exact .inl (by omega)
  · refine .inr ⟨b, o, he, fun k hk => ?_⟩
    have e : (K.take i).getD k (0, 0) = K.getD k (0, 0) := by
      rw [List.getD_eq_getElem?_getD, List.getD_eq_getElem?_getD, List.getElem?_take_of_lt hk]
    rw [e]
    exact hc k (by omega)
end

section
set_option linter.unusedVariables false
set_option linter.unusedSimpArgs false
open Go.RowKit Go.Shelf

attribute [local go_sem] Oper.semAt_some

/-- The point ahead of what comes next. -/
def lastP {n : Nat} (K : List (Int × Int)) (pre : List (Fin n)) : Int × Int := match pre.getLast? with
  | none => K.getD (n - 1) (0, 0)
  | some x => K.getD x.val (0, 0)
theorem lastP_nil {n : Nat} (K : List (Int × Int)) : lastP K ([] : List (Fin n)) = K.getD (n - 1) (0, 0) := rfl
theorem lastP_snoc {n : Nat} (K : List (Int × Int)) (pre : List (Fin n)) (x : Fin n) : lastP K (pre ++ [x]) = K.getD x.val (0, 0) := by unfold lastP; simp
theorem upto_succ {n j : Nat} (h : j + 1 ≤ n) : upto n (j + 1) h = upto n j (by omega) ++ [⟨j, h⟩] := by
  unfold upto
  apply List.ext_getElem
  · simp
  · intro i h1 h2
    apply Fin.ext
    by_cases hi : i < j
    · rw [List.getElem_append_left (by simpa using hi)]; simp
    · have : i = j := by simp at h1; omega
      subst this
      simp
theorem nxt_cyc {K : List (Int × Int)} {j : Nat} (h : 0 < K.length) : nxtC K j = cyc K ((j : Int) + 1) := by
  unfold nxtC
  rw [← cyc_nat (Nat.mod_lt _ h)]
  refine cyc_mod ?_
  push_cast
  rw [Int.emod_emod]
theorem last_cyc {n : Nat} {K : List (Int × Int)} (hl : K.length = n) {j : Nat} (hj : j < n) : lastP K (upto n j (by omega)) = cyc K ((j : Int) - 1) := by
  cases j with
  | zero =>
    show K.getD (n - 1) (0, 0) = _
    rw [← cyc_nat (K := K) (k := n - 1) (by omega)]
    refine cyc_mod ?_
    rw [hl, show ((n - 1 : Nat) : Int) = ((0 : Nat) : Int) - 1 + (n : Int) by omega, Int.add_emod_right]
  | succ j =>
    rw [upto_succ (by omega), lastP_snoc]
    simp only
    rw [← cyc_nat (K := K) (k := j) (by omega)]
    congr 1; omega
def GB {n : Nat} (K : List (Int × Int)) (a : List (Fin n)) (x : Fin n) : Bool := backC (lastP K a) (K.getD x.val (0, 0)) (nxtC K x.val)
theorem gb_is {n : Nat} {K : List (Int × Int)} (hl : K.length = n) (j : Nat) (hj : j < n) : GB K (upto n j (by omega)) ⟨j, hj⟩ = F2 K j := by
  unfold GB F2 backAt
  rw [last_cyc hl hj, nxt_cyc (by omega)]

theorem set2_kp {W : World} {n0 k Bn : Nat} (hk : n0 ≤ k) (hs : n0 ≤ W.heap.size) (hne : Bn ≠ k) (u v : Value) (J : Array Obj) (d : Nat) : KeepsE n0 Bn W (((W.setCell ⟨k, 0, none⟩ u).setCell ⟨k, 1, none⟩ v).plus J d) := by
  refine ⟨set2_below hk hs u v J d, fun c t f h => ?_⟩
  have h1 := (Below.heap_setCell W ⟨k, 0, none⟩ u Bn hne).trans h
  have h2 := (Below.heap_setCell (W.setCell ⟨k, 0, none⟩ u) ⟨k, 1, none⟩ v Bn hne).trans h1
  exact ((Junk.below (w := (W.setCell ⟨k, 0, none⟩ u).setCell ⟨k, 1, none⟩ v) ⟨J, d, rfl⟩).block Bn (heap_lt h2)).trans h2
end

section
set_option linter.unusedVariables false
set_option linter.unusedSimpArgs false
open Go.RowKit Go.Shelf

attribute [local go_sem] Oper.semAt_some

def gM (K : List (Int × Int)) (n i k : Nat) : Bool := decide (i < k) && !nbQ i k n && !decide (meetQ (K.getD i (0, 0)) (nxtC K i) (K.getD k (0, 0)) (nxtC K k) = 0)
theorem gM_is {K : List (Int × Int)} {n i k : Nat} (hl : K.length = n) (hi : i < n) (hk : k < n) : gM K n i k = (decide (i + 2 ≤ k) && meetTwo K i k) := by
  unfold gM meetTwo nbQ
  rw [nxt_cyc (by omega), nxt_cyc (by omega), hl]
  by_cases h : i < k
  · have e1 : (i + 1) % n = i + 1 := Nat.mod_eq_of_lt (by omega)
    rw [e1, decide_eq_true h, Bool.true_and]
    by_cases h2 : i + 1 = k
    · rw [decide_eq_true h2, decide_eq_false (show ¬ i + 2 ≤ k by omega)]; rfl
    · rw [decide_eq_false h2, decide_eq_true (show i + 2 ≤ k by omega), Bool.false_or, Bool.true_and]
      congr 2
      apply decide_eq_decide.2
      by_cases h3 : k + 1 = n
      · rw [h3, Nat.mod_self]; omega
      · rw [Nat.mod_eq_of_lt (by omega)]; omega
  · rw [decide_eq_false h, decide_eq_false (show ¬ i + 2 ≤ k by omega)]; rfl
theorem gM_none {K : List (Int × Int)} {n i : Nat} (hl : K.length = n) (hi : i < n) {xs : List (Fin n)} (h : UptoQ xs) (hx : xs.length = n) (hc : Clean (fun _ y => gM K n i y.val) xs) : F3 K i = false := by
  have := clean_at h (by omega) hc (F := fun k => gM K n i k) (fun _ _ => rfl)
  unfold F3 meetsAt
  rw [List.any_eq_false]
  intro k hk
  rw [List.mem_range, hl] at hk
  rw [← gM_is hl hi hk, this k (by omega)]
  decide
theorem gM_some {K : List (Int × Int)} {n i : Nat} (hl : K.length = n) (hi : i < n) {y : Fin n} (h : gM K n i y.val = true) : F3 K i = true := by
  unfold F3 meetsAt
  rw [List.any_eq_true]
  exact ⟨y.val, by rw [List.mem_range, hl]; exact y.isLt, by rw [← gM_is hl hi y.isLt]; exact h⟩

theorem keepsE_kept {n0 Bn B : Nat} {W X Y : World} {row : Option Nat} (h : KeepsE n0 Bn W X) (hs : n0 ≤ X.heap.size) (hB : n0 ≤ B) (hg : X.grownBy Y row) (hr : ∀ r, row = some r → B ≤ r ∧ ∃ o : Obj, X.heap[r]? = some o ∧ o.isCells = false) : KeepsE n0 Bn W Y :=
  ⟨below_grown h.1 hs hB hg hr, fun c t f hk => by
    have h1 := h.2 c t f hk
    refine (hg.block Bn (heap_lt h1) fun e => ?_).trans h1
    obtain ⟨_, o, ho, hn⟩ := hr Bn e.symm
    rw [h1] at ho
    injection ho with ho
    subst ho
    cases hn⟩
end

section
set_option linter.unusedVariables false
set_option linter.unusedSimpArgs false
open Go.RowKit Go.Shelf

attribute [local go_sem] Oper.semAt_some
end

section
set_option linter.unusedVariables false
set_option linter.unusedSimpArgs false
open Go.RowKit Go.Shelf

attribute [local go_sem] Oper.semAt_some

def KeepsF (n0 B1 B2 : Nat) (W W' : World) : Prop := KeepsE n0 B1 W W' ∧ KeepsE n0 B2 W W'
theorem keepsF_t {n0 B1 B2 : Nat} {A B C : World} (h : KeepsF n0 B1 B2 A B) (k : KeepsF n0 B1 B2 B C) : KeepsF n0 B1 B2 A C := ⟨keepsE_t h.1 k.1, keepsE_t h.2 k.2⟩
theorem keepsF_b {n0 B1 B2 : Nat} {w : World} (hn : n0 ≤ w.heap.size) (W : World) (l : Nat) (o o' : Obj) (hl : w.heap.size ≤ l) (h : W.heap[l]? = some o) (hc : o.isCells = false) (hw : o.isWalk = false) : KeepsF n0 B1 B2 W (W.putObj l o') :=
  ⟨keepsE_b hn W l o o' hl h hc hw, keepsE_b hn W l o o' hl h hc hw⟩
end

section
set_option linter.unusedVariables false
set_option linter.unusedSimpArgs false
open Go.RowKit Go.Shelf

attribute [local go_sem] Oper.semAt_some

theorem fin6 {xs : List (Fin 6)} (h : UptoQ xs) (hl : xs.length = 6) : xs.reverse = [5, 4, 3, 2, 1, 0] := by
  have := upto_is h (by omega)
  rw [this]
  have e : ∀ (k : Nat) (hk : k ≤ 6), k = 6 → (upto 6 k hk).reverse = [5, 4, 3, 2, 1, 0] := by
    rintro k hk rfl
    rfl
  exact e _ _ hl

theorem blk_new2 {W : World} {k : Nat} (h : k = W.heap.size) (c : Array Value) (t : TypeId) : Blk (W.alloc (.cells c t)) k c t := by subst h; exact Blk.new W c t
theorem set1_kp {W : World} {n0 k Bn : Nat} (hk : n0 ≤ k) (hs : n0 ≤ W.heap.size) (hne : Bn ≠ k) (u : Value) (o : Obj) : KeepsE n0 Bn W ((W.setCell ⟨k, 0, none⟩ u).alloc o) := by
  have h0 : Below n0 W (W.setCell ⟨k, 0, none⟩ u) := (Below.refl n0 W).setCell (p := ⟨k, 0, none⟩) hk u
  refine ⟨h0.alloc (by have := h0.size; omega) o, fun c t f h => ?_⟩
  have h1 := (Below.heap_setCell W ⟨k, 0, none⟩ u Bn hne).trans h
  exact (((Below.refl _ (W.setCell ⟨k, 0, none⟩ u)).alloc (Nat.le_refl _) o).block Bn (heap_lt h1)).trans h1
end
end Go.Proofs.Ytnpkhhchbahcpaa

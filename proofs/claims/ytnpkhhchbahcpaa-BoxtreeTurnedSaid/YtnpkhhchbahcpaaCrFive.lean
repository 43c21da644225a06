/- Contracts of package cross: segment's turn, contains, valid; turns; slices.Index, slices.Contains over points. Contract of cross.common: of some points those that are on both segments, each once. Contract of cross.Ends. Contract of cross.Meets. The laws' own awake (apportionlaw08); contract of apportionref08.Meets is in CrE. The law CrossSplit: the walk. The law CrossApart: the walk. Contract of apportionref08.Meets. -/
import Derived.Test.YtnpkhhchbahcpaaCrE
import Derived.Deep.RegionHeld3
import Derived.ArgAppend
import Derived.ChangeKeysEq
namespace Go.Proofs.Ytnpkhhchbahcpaa
section
set_option linter.unusedVariables false
set_option linter.unusedSimpArgs false
open Go.RowKit

/-- A segment as a value. -/
def sg (ax ay bx by_ : Int) : Value := .agg #[.int .i64 ax, .int .i64 ay, .int .i64 bx, .int .i64 by_]
/-- The place of a point in a list of points, or -1. -/
def idxQ (K : List (Int × Int)) (x : Int × Int) : Int := if x ∈ K then (K.idxOf x : Int) else -1
def IdxAt (w : World) (K : List (Int × Int)) (x : Int × Int) (i : Value) (wr : World) : Prop := ∃ k : Nat, i = .int .i64 (k : Int) ∧ k ≤ K.length ∧ x ∉ K.take k ∧ Junk w wr
theorem idx_hit {K : List (Int × Int)} {k : Nat} {x y : Int} (hk : k < K.length) (h : K.getD k (0, 0) = (x, y)) (hn : (x, y) ∉ K.take k) : idxQ K (x, y) = (k : Int) := by
  rw [List.getD_eq_getElem?_getD, List.getElem?_eq_getElem hk] at h
  simp at h
  unfold idxQ
  rw [if_pos (by rw [← h]; exact List.getElem_mem hk)]
  congr 1
  conv => lhs; rw [← List.take_append_drop k K]
  rw [List.idxOf_append, if_neg hn, List.drop_eq_getElem_cons hk, h, List.idxOf_cons_self]
  simp; omega
theorem idx_next {K : List (Int × Int)} {k : Nat} {u v x y : Int} (hk : k < K.length) (h : K.getD k (0, 0) = (u, v)) (hn : (x, y) ∉ K.take k) (hne : (u, v) ≠ (x, y)) : (x, y) ∉ K.take (k + 1) := by
  rw [List.getD_eq_getElem?_getD, List.getElem?_eq_getElem hk] at h
  simp at h
  rw [List.take_succ_eq_append_getElem hk, h]
  simp only [List.mem_append, List.mem_singleton]
  rintro (h1 | h1)
  · exact hn h1
  · exact hne h1.symm
end

section
set_option linter.unusedVariables false
set_option linter.unusedSimpArgs false
open Go.RowKit

def onBoth (ax ay bx by_ cx cy dx dy : Int) (p : Int × Int) : Bool := onB p.1 p.2 ax ay bx by_ && onB p.1 p.2 cx cy dx dy
def comQ (f : Int × Int → Bool) (K : List (Int × Int)) : List (Int × Int) := K.foldl (fun O x => stepQ O x (f x)) []
theorem com_step {f : Int × Int → Bool} {K : List (Int × Int)} {k : Nat} {u v : Int} (hk : k < K.length) (h : K.getD k (0, 0) = (u, v)) : comQ f (K.take (k + 1)) = stepQ (comQ f (K.take k)) (u, v) (f (u, v)) := by
  rw [List.getD_eq_getElem?_getD, List.getElem?_eq_getElem hk] at h
  simp at h
  unfold comQ
  rw [List.take_succ_eq_append_getElem hk, List.foldl_append, h]
  rfl
theorem step_len (O : List (Int × Int)) (x : Int × Int) (on : Bool) : (stepQ O x on).length ≤ O.length + 1 := by
  unfold stepQ
  split <;> simp
theorem com_len (f : Int × Int → Bool) (K : List (Int × Int)) : (comQ f K).length ≤ K.length := by
  have h : ∀ (K O : List (Int × Int)), (K.foldl (fun O x => stepQ O x (f x)) O).length ≤ O.length + K.length := by
    intro K
    induction K with
    | nil => intro O; simp
    | cons x K ih =>
      intro O
      have := ih (stepQ O x (f x))
      have := step_len O x (f x)
      simp only [List.foldl_cons, List.length_cons]
      omega
  simpa [comQ] using h K []
theorem step_mem (O : List (Int × Int)) (x : Int × Int) (on : Bool) : stepQ O x on = if on && !decide (x ∈ O) then O ++ [x] else O := by
  unfold stepQ
  have : O.all (fun y => decide (y ≠ x)) = !decide (x ∈ O) := by
    by_cases h : x ∈ O
    · rw [decide_eq_true h, Bool.not_true, List.all_eq_false]
      exact ⟨x, h, by simp⟩
    · rw [decide_eq_false h, Bool.not_false, List.all_eq_true]
      intro y hy
      exact decide_eq_true fun e => h (e ▸ hy)
  rw [this]
/-- Between two rounds. -/
def ComAt (W : World) (f : Int × Int → Bool) (K : List (Int × Int)) (v i : Value) (wr : World) : Prop :=
  ∃ k : Nat, i = .int .i64 (k : Int) ∧ k ≤ K.length ∧ wr.ownsRow W.heap.size 31 2 v (comQ f (K.take k)).length (pcells (comQ f (K.take k))) ∧ Below W.heap.size W wr
end

section
set_option linter.unusedVariables false
set_option linter.unusedSimpArgs false
open Go.RowKit

theorem com_all {a b c d : Int × Int} (h : (mayQ a b && mayQ c d) = true) : comQ (onBoth a.1 a.2 b.1 b.2 c.1 c.2 d.1 d.2) [a, b, c, d] = commonQ a b c d := by
  rw [← out_all h]
  rw [Bool.and_eq_true] at h
  have h1 := h.1
  have h2 := h.2
  unfold mayQ at h1 h2
  rw [Bool.and_eq_true, Bool.and_eq_true] at h1 h2
  obtain ⟨⟨va, vb⟩, _⟩ := h1
  obtain ⟨⟨vc, vd⟩, _⟩ := h2
  have k : ∀ {p x y : Int × Int}, okP p.1 p.2 = true → okP x.1 x.2 = true → okP y.1 y.2 = true → onQ p x y → onB p.1 p.2 x.1 x.2 y.1 y.2 = true := by
    intro p x y h1 h2 h3 h4
    unfold onB
    rw [h1, h2, h3]
    exact decide_eq_true h4
  have e1 : onBoth a.1 a.2 b.1 b.2 c.1 c.2 d.1 d.2 a = onK a b c d 0 := by unfold onBoth; rw [k va va vb onQ_left]; rfl
  have e2 : onBoth a.1 a.2 b.1 b.2 c.1 c.2 d.1 d.2 b = onK a b c d 1 := by unfold onBoth; rw [k vb va vb onQ_right]; rfl
  have e3 : onBoth a.1 a.2 b.1 b.2 c.1 c.2 d.1 d.2 c = onK a b c d 2 := by unfold onBoth; rw [k vc vc vd onQ_left, Bool.and_true]; rfl
  have e4 : onBoth a.1 a.2 b.1 b.2 c.1 c.2 d.1 d.2 d = onK a b c d 3 := by unfold onBoth; rw [k vd vc vd onQ_right, Bool.and_true]; rfl
  simp only [comQ, List.foldl_cons, List.foldl_nil, e1, e2, e3, e4, outQ, ptK]
theorem pcells_four (ax ay bx by_ cx cy dx dy : Int) : pcells [(ax, ay), (bx, by_), (cx, cy), (dx, dy)] = [.int .i64 ax, .int .i64 ay, .int .i64 bx, .int .i64 by_] ++ [.int .i64 cx, .int .i64 cy, .int .i64 dx, .int .i64 dy] := rfl
theorem cells_four {w : World} {g : Nat} {x y u v : Int} (h0 : w.cell? ⟨g, 0, none⟩ = some (.int .i64 x)) (h1 : w.cell? ⟨g, 1, none⟩ = some (.int .i64 y)) (h2 : w.cell? ⟨g, 2, none⟩ = some (.int .i64 u)) (h3 : w.cell? ⟨g, 3, none⟩ = some (.int .i64 v)) :
    ∀ (j : Nat) (z : Value), [Value.int .i64 x, .int .i64 y, .int .i64 u, .int .i64 v][j]? = some z → w.cell? ((⟨g, 0, none⟩ : Addr).add j) = some z := by
  intro j z hz
  have e : (⟨g, 0, none⟩ : Addr).add j = ⟨g, j, none⟩ := by unfold Addr.add; split <;> simp_all
  rw [e]
  match j, hz with
  | 0, hz => simp at hz; subst hz; exact h0
  | 1, hz => simp at hz; subst hz; exact h1
  | 2, hz => simp at hz; subst hz; exact h2
  | 3, hz => simp at hz; subst hz; exact h3
/-- append(s[:], t[:]...): a new row of four points. -/
theorem preads_four {w' : World} {g : Nat} {Z : Array Value} {ty : TypeId} {fz : Nat × Nat} {ax ay bx by_ cx cy dx dy : Int}
    (h : w'.heap[g]? = some (.cells (#[.int .i64 ax, .int .i64 ay, .int .i64 bx, .int .i64 by_] ++ (#[.int .i64 cx, .int .i64 cy, .int .i64 dx, .int .i64 dy] ++ Z)) ty fz)) : PReads w' (some ⟨g, 0, none⟩) 4 [(ax, ay), (bx, by_), (cx, cy), (dx, dy)] := by
  have e : ∀ j v, (#[Value.int .i64 ax, .int .i64 ay, .int .i64 bx, .int .i64 by_] ++ (#[Value.int .i64 cx, .int .i64 cy, .int .i64 dx, .int .i64 dy] ++ Z))[j]? = some v → w'.cell? ⟨g, j, none⟩ = some v := by
    intro j v hv
    simp only [World.cell?, h]
    exact hv
  refine ⟨rfl, .inr ⟨g, 0, rfl, fun i hi => ?_⟩⟩
  match i, hi with
  | 0, _ => exact ⟨e _ _ (by simp [Array.getElem?_append]), e _ _ (by simp [Array.getElem?_append])⟩
  | 1, _ => exact ⟨e _ _ (by simp [Array.getElem?_append]), e _ _ (by simp [Array.getElem?_append])⟩
  | 2, _ => exact ⟨e _ _ (by simp [Array.getElem?_append]), e _ _ (by simp [Array.getElem?_append])⟩
  | 3, _ => exact ⟨e _ _ (by simp [Array.getElem?_append]), e _ _ (by simp [Array.getElem?_append])⟩
theorem heap_new2 (w : World) (o : Obj) : (w.alloc o).drew.drew.heap[w.heap.size]? = some o := by show (w.heap.push o)[w.heap.size]? = some o; simp
/-- What the two segments in memory are. -/
def TwoAt (w : World) (ax ay bx by_ cx cy dx dy : Int) (p q : Value) (wx : World) : Prop :=
  ∃ g k, p = .pointer (some ⟨g, 0, none⟩) ∧ q = .pointer (some ⟨k, 0, none⟩) ∧ wx.cell? ⟨g, 0, none⟩ = some (.int .i64 ax) ∧ wx.cell? ⟨g, 1, none⟩ = some (.int .i64 ay) ∧ wx.cell? ⟨g, 2, none⟩ = some (.int .i64 bx) ∧ wx.cell? ⟨g, 3, none⟩ = some (.int .i64 by_) ∧
    wx.cell? ⟨k, 0, none⟩ = some (.int .i64 cx) ∧ wx.cell? ⟨k, 1, none⟩ = some (.int .i64 cy) ∧ wx.cell? ⟨k, 2, none⟩ = some (.int .i64 dx) ∧ wx.cell? ⟨k, 3, none⟩ = some (.int .i64 dy) ∧ Below w.heap.size w wx
end

section
set_option linter.unusedVariables false
set_option linter.unusedSimpArgs false
open Go.RowKit

theorem turn_not {a b c : Int × Int} (h : mayQ a b = false) : turnF a.1 a.2 b.1 b.2 c.1 c.2 = 0 := by
  unfold turnF
  split
  · rename_i k
    unfold mayQ at h
    simp only [Bool.and_eq_true] at k
    rw [k.1.1, k.1.2] at h
    simp at h
    subst h
    have : detP a.1 a.2 a.1 a.2 c.1 c.2 = 0 := by unfold detP; grind
    rw [this]; rfl
  · rfl
/-- The four turns of segments that cross. -/
def patQ (t1 t2 t3 t4 : Int) : Prop := (t1 = 1 ∧ t2 = -1 ∧ t3 = -1 ∧ t4 = 1) ∨ (t1 = -1 ∧ t2 = 1 ∧ t3 = 1 ∧ t4 = -1)
theorem meet_pat (a b c d : Int × Int) :
    (patQ (turnF a.1 a.2 b.1 b.2 c.1 c.2) (turnF a.1 a.2 b.1 b.2 d.1 d.2) (turnF c.1 c.2 d.1 d.2 a.1 a.2) (turnF c.1 c.2 d.1 d.2 b.1 b.2) ∧ meetQ a b c d = 2) ∨
    (¬ patQ (turnF a.1 a.2 b.1 b.2 c.1 c.2) (turnF a.1 a.2 b.1 b.2 d.1 d.2) (turnF c.1 c.2 d.1 d.2 a.1 a.2) (turnF c.1 c.2 d.1 d.2 b.1 b.2) ∧
      (((commonQ a b c d).length = 0 ∧ meetQ a b c d = 0) ∨ ((commonQ a b c d).length = 1 ∧ meetQ a b c d = 1) ∨ (1 < (commonQ a b c d).length ∧ meetQ a b c d = 3))) := by
  cases h : mayQ a b && mayQ c d with
  | false =>
    refine .inr ⟨?_, .inl ⟨by unfold commonQ; rw [h]; rfl, by unfold meetQ; rw [h]; rfl⟩⟩
    rw [Bool.and_eq_false_iff] at h
    unfold patQ
    rcases h with h | h
    · rw [turn_not (c := c) h]; omega
    · rw [turn_not (a := c) (b := d) (c := a) h]; omega
  | true =>
    have hm : meetQ a b c d = howQ a b c d := by unfold meetQ; rw [h]; rfl
    have hc : commonQ a b c d = endsQ a b c d := by unfold commonQ; rw [h]; rfl
    rw [Bool.and_eq_true] at h
    obtain ⟨h1, h2⟩ := h
    have hn := may_ne h1
    have hn2 := may_ne h2
    unfold mayQ at h1 h2
    rw [Bool.and_eq_true, Bool.and_eq_true] at h1 h2
    obtain ⟨⟨va, vb⟩, _⟩ := h1
    obtain ⟨⟨vc, vd⟩, _⟩ := h2
    have tq : ∀ {x y z : Int × Int}, okP x.1 x.2 = true → okP y.1 y.2 = true → okP z.1 z.2 = true → turnF x.1 x.2 y.1 y.2 z.1 z.2 = sgn (detQ x y z) := by
      intro x y z h1 h2 h3
      unfold turnF
      rw [h1, h2, h3]; rfl
    have e0 : detQ c d a - detQ c d b = detQ a b d - detQ a b c := det_mid _ _ _ _ _ _ _ _
    have hp : patQ (turnF a.1 a.2 b.1 b.2 c.1 c.2) (turnF a.1 a.2 b.1 b.2 d.1 d.2) (turnF c.1 c.2 d.1 d.2 a.1 a.2) (turnF c.1 c.2 d.1 d.2 b.1 b.2) ↔ crossQ a b c d := by
      rw [tq va vb vc, tq va vb vd, tq vc vd va, tq vc vd vb]
      unfold patQ crossQ oppo
      rcases sgn_cases (detQ a b c) with ⟨k1, f1⟩ | ⟨k1, f1⟩ | ⟨k1, f1⟩ <;> rcases sgn_cases (detQ a b d) with ⟨k2, f2⟩ | ⟨k2, f2⟩ | ⟨k2, f2⟩ <;> rcases sgn_cases (detQ c d a) with ⟨k3, f3⟩ | ⟨k3, f3⟩ | ⟨k3, f3⟩ <;> rcases sgn_cases (detQ c d b) with ⟨k4, f4⟩ | ⟨k4, f4⟩ | ⟨k4, f4⟩ <;> rw [f1, f2, f3, f4] <;> omega
    rw [hp, hm, hc, ends_len]
    by_cases hx : crossQ a b c d
    · exact .inl ⟨hx, (how_cross hn hn2).2 hx⟩
    · refine .inr ⟨hx, ?_⟩
      have := cnt_le hn hn2
      unfold howQ
      by_cases k1 : 1 < cntQ a b c d
      · rw [if_pos k1]; exact .inr (.inr ⟨k1, rfl⟩)
      · rw [if_neg k1]
        by_cases k2 : cntQ a b c d = 1
        · rw [if_pos k2]; exact .inr (.inl ⟨k2, rfl⟩)
        · rw [if_neg k2, if_neg hx]; exact .inl ⟨by omega, rfl⟩
end

section
set_option linter.unusedVariables false
set_option linter.unusedSimpArgs false
open Go.RowKit
end

section
set_option linter.unusedVariables false
set_option linter.unusedSimpArgs false
open Go.RowKit

theorem may_ok {a b : Int × Int} (h : mayQ a b = true) : okP a.1 a.2 = true ∧ okP b.1 b.2 = true ∧ a ≠ b := by
  unfold mayQ at h
  rw [Bool.and_eq_true, Bool.and_eq_true, decide_eq_true_iff] at h
  exact ⟨h.1.1, h.1.2, h.2⟩
theorem may_of {a b : Int × Int} (h1 : okP a.1 a.2 = true) (h2 : okP b.1 b.2 = true) (h3 : a ≠ b) : mayQ a b = true := by
  unfold mayQ
  rw [h1, h2, decide_eq_true h3]; rfl
/-- What a segment cut in two answers. -/
theorem split_all {a b p c d : Int × Int} (hab : mayQ a b = true) (hcd : mayQ c d = true) (ho : onB p.1 p.2 a.1 a.2 b.1 b.2 = true) (hpa : p ≠ a) (hpb : p ≠ b) :
    meetQ a p p b = 1 ∧ meetQ a p a b = 3 ∧ meetQ p b a b = 3 ∧ (meetQ a b c d ≠ 0 ↔ meetQ a p c d ≠ 0 ∨ meetQ p b c d ≠ 0) := by
  obtain ⟨va, vb, hn⟩ := may_ok hab
  obtain ⟨vc, vd, hn2⟩ := may_ok hcd
  unfold onB at ho
  rw [Bool.and_eq_true, Bool.and_eq_true, Bool.and_eq_true, decide_eq_true_iff] at ho
  have hp : onQ p a b := ho.2
  have m1 := may_of va ho.1.1.1 (Ne.symm hpa)
  have m2 := may_of ho.1.1.1 vb hpb
  unfold meetQ
  rw [m1, m2, hab, hcd]
  exact ⟨how_parts hp hpa hpb, how_part1 hp, how_part2 hp, how_split hn hn2 hp hpa hpb⟩
end

section
set_option linter.unusedVariables false
set_option linter.unusedSimpArgs false
open Go.RowKit

theorem sgn_opp {x y : Int} : sgn x * sgn y < 0 ↔ oppo x y := by
  rcases sgn_cases x with ⟨h1, e1⟩ | ⟨h1, e1⟩ | ⟨h1, e1⟩ <;> rcases sgn_cases y with ⟨h2, e2⟩ | ⟨h2, e2⟩ | ⟨h2, e2⟩ <;> rw [e1, e2] <;> unfold oppo <;> omega
theorem sgn_same {x y : Int} : 0 < sgn x * sgn y ↔ sameS x y := by
  rcases sgn_cases x with ⟨h1, e1⟩ | ⟨h1, e1⟩ | ⟨h1, e1⟩ <;> rcases sgn_cases y with ⟨h2, e2⟩ | ⟨h2, e2⟩ | ⟨h2, e2⟩ <;> rw [e1, e2] <;> unfold sameS <;> omega
theorem sgn_mul_bd (x y : Int) : -1 ≤ sgn x * sgn y ∧ sgn x * sgn y ≤ 1 := by
  rcases sgn_cases x with ⟨h1, e1⟩ | ⟨h1, e1⟩ | ⟨h1, e1⟩ <;> rcases sgn_cases y with ⟨h2, e2⟩ | ⟨h2, e2⟩ | ⟨h2, e2⟩ <;> rw [e1, e2] <;> decide
/-- What boxes and sides tell of how segments meet. -/
theorem apart_all {a b c d : Int × Int} (hab : mayQ a b = true) (hcd : mayQ c d = true) :
    (meetF (min a.1 b.1) (min a.2 b.2) (max a.1 b.1 + 1) (max a.2 b.2 + 1) (min c.1 d.1) (min c.2 d.2) (max c.1 d.1 + 1) (max c.2 d.2 + 1) = false → meetQ a b c d = 0) ∧
    (0 < turnF a.1 a.2 b.1 b.2 c.1 c.2 * turnF a.1 a.2 b.1 b.2 d.1 d.2 ∨ 0 < turnF c.1 c.2 d.1 d.2 a.1 a.2 * turnF c.1 c.2 d.1 d.2 b.1 b.2 → meetQ a b c d = 0) ∧
    (meetQ a b c d = 2 ↔ turnF a.1 a.2 b.1 b.2 c.1 c.2 * turnF a.1 a.2 b.1 b.2 d.1 d.2 < 0 ∧ turnF c.1 c.2 d.1 d.2 a.1 a.2 * turnF c.1 c.2 d.1 d.2 b.1 b.2 < 0) := by
  obtain ⟨va, vb, hn⟩ := may_ok hab
  obtain ⟨vc, vd, hn2⟩ := may_ok hcd
  have tq : ∀ {x y z : Int × Int}, okP x.1 x.2 = true → okP y.1 y.2 = true → okP z.1 z.2 = true → turnF x.1 x.2 y.1 y.2 z.1 z.2 = sgn (detQ x y z) := by
    intro x y z h1 h2 h3
    unfold turnF
    rw [h1, h2, h3]; rfl
  have hm : meetQ a b c d = howQ a b c d := by unfold meetQ; rw [hab, hcd]; rfl
  rw [tq va vb vc, tq va vb vd, tq vc vd va, tq vc vd vb, sgn_same, sgn_same, sgn_opp, sgn_opp, hm]
  refine ⟨fun h => ?_, fun h => ?_, how_cross hn hn2⟩
  · apply Decidable.byContradiction
    intro k
    have k2 := meet_boxes ((how_not hn hn2).1 k)
    unfold meetF at h
    rw [decide_eq_false_iff_not] at h
    omega
  · apply Decidable.byContradiction
    intro k
    have k2 := side_none h
    rcases (how_not hn hn2).1 k with k3 | k3
    · exact k2.1 k3
    · exact k2.2 k3
end

section
set_option linter.unusedVariables false
set_option linter.unusedSimpArgs false
open Go.RowKit
end
end Go.Proofs.Ytnpkhhchbahcpaa

/- The half and the rest of a sum of two ints, by their bits. No program. Trees of boxes: levels, the order of a part by sums of sides and places, what a scan finds. No program. The tree over boxes: what lies at its nodes, what a walk over it finds. No program. Package boxtree: add, compare, key, around, halves. Package boxtree: halves. -/
import Derived.Test.YthphdiigjimchaaGreatKitOne
import Derived.OwnWalk
import Derived.Test.YthphdiigjimchaaGreatPtFew
import Derived.Test.YthphdiigjimchaaGreatKitTwo
import Derived.BigRegion
import Derived.Deep.RegionHeld3
namespace Go.Proofs.YthphdiigjimchaaGreat
section
set_option linter.unusedVariables false
set_option linter.unusedSimpArgs false
open Go.RowKit
theorem nat_and_xor : ∀ (k x y : Nat), x < 2 ^ k → y < 2 ^ k → x + y = 2 * (x &&& y) + (x ^^^ y)
  | 0, x, y, hx, hy => by
    obtain rfl : x = 0 := by simpa using hx
    obtain rfl : y = 0 := by simpa using hy
    rfl
  | k + 1, x, y, hx, hy => by
    have ih := nat_and_xor k (x / 2) (y / 2) (by rw [Nat.pow_succ] at hx; omega) (by rw [Nat.pow_succ] at hy; omega)
    have a1 : (x &&& y) / 2 = x / 2 &&& y / 2 := Nat.and_div_two
    have a2 : (x ^^^ y) / 2 = x / 2 ^^^ y / 2 := Nat.xor_div_two
    have b1 : (x &&& y) % 2 = (x % 2) * (y % 2) := by
      have h0 : (x &&& y) % 2 = 1 ↔ x % 2 = 1 ∧ y % 2 = 1 := Nat.and_mod_two_eq_one
      have h1 := Nat.mod_two_eq_zero_or_one (x &&& y)
      have h2 := Nat.mod_two_eq_zero_or_one x
      have h3 := Nat.mod_two_eq_zero_or_one y
      clear a1 a2 ih hx hy
      generalize (x &&& y) % 2 = p at *
      generalize x % 2 = q at *
      generalize y % 2 = r at *
      rcases h1 with rfl | rfl <;> rcases h2 with rfl | rfl <;> rcases h3 with rfl | rfl <;> simp at h0 <;> rfl
    have b2 : (x ^^^ y) % 2 = (x % 2 + y % 2) % 2 := by
      have h0 : (x ^^^ y) % 2 = 1 ↔ ¬ (x % 2 = 1 ↔ y % 2 = 1) := Nat.xor_mod_two_eq_one
      have h1 := Nat.mod_two_eq_zero_or_one (x ^^^ y)
      have h2 := Nat.mod_two_eq_zero_or_one x
      have h3 := Nat.mod_two_eq_zero_or_one y
      clear a1 a2 ih hx hy b1
      generalize (x ^^^ y) % 2 = p at *
      generalize x % 2 = q at *
      generalize y % 2 = r at *
      rcases h1 with rfl | rfl <;> rcases h2 with rfl | rfl <;> rcases h3 with rfl | rfl <;> simp at h0 <;> rfl
    rw [← a1, ← a2] at ih
    rcases Nat.mod_two_eq_zero_or_one x with e | e <;> rcases Nat.mod_two_eq_zero_or_one y with f | f <;> rw [e, f] at b1 b2 <;> omega
theorem top_and (x y : Nat) (hx : x < 18446744073709551616) (hy : y < 18446744073709551616) : ((x &&& y) < 9223372036854775808 ↔ ¬ (9223372036854775808 ≤ x ∧ 9223372036854775808 ≤ y)) ∧ x &&& y < 18446744073709551616 := by
  have h : (x &&& y) / 2 ^ 63 = (x / 2 ^ 63) &&& (y / 2 ^ 63) := Nat.and_div_two_pow
  have hl : x &&& y < 18446744073709551616 := Nat.lt_of_le_of_lt Nat.and_le_left hx
  refine ⟨?_, hl⟩
  have e1 : x / 2 ^ 63 = 0 ∨ x / 2 ^ 63 = 1 := by omega
  have e2 : y / 2 ^ 63 = 0 ∨ y / 2 ^ 63 = 1 := by omega
  rcases e1 with e1 | e1 <;> rcases e2 with e2 | e2 <;> rw [e1, e2] at h <;> simp at h <;> constructor <;> intro k <;> omega
theorem top_xor (x y : Nat) (hx : x < 18446744073709551616) (hy : y < 18446744073709551616) : ((x ^^^ y) < 9223372036854775808 ↔ (9223372036854775808 ≤ x ↔ 9223372036854775808 ≤ y)) ∧ x ^^^ y < 18446744073709551616 := by
  have h : (x ^^^ y) / 2 ^ 63 = (x / 2 ^ 63) ^^^ (y / 2 ^ 63) := Nat.xor_div_two_pow
  have hl : x ^^^ y < 18446744073709551616 := Nat.xor_lt_two_pow (n := 64) hx hy
  refine ⟨?_, hl⟩
  have e1 : x / 2 ^ 63 = 0 ∨ x / 2 ^ 63 = 1 := by omega
  have e2 : y / 2 ^ 63 = 0 ∨ y / 2 ^ 63 = 1 := by omega
  rcases e1 with e1 | e1 <;> rcases e2 with e2 | e2 <;> rw [e1, e2] at h <;> simp at h <;> constructor <;> intro k <;> omega
theorem ofInt_i64 (a : Int) (h1 : -9223372036854775808 ≤ a) (h2 : a ≤ 9223372036854775807) : ∃ u : Nat, (BitVec.ofInt 64 a).toNat = u ∧ u < 18446744073709551616 ∧ a = if u < 9223372036854775808 then (u : Int) else (u : Int) - 18446744073709551616 := by
  refine ⟨_, rfl, (BitVec.ofInt 64 a).isLt, ?_⟩
  rw [BitVec.toNat_ofInt]
  split <;> omega
theorem wrap_i64 (u : Nat) (h : u < 18446744073709551616) : IntKind.i64.wrap (u : Int) = if u < 9223372036854775808 then (u : Int) else (u : Int) - 18446744073709551616 := by
  simp [IntKind.wrap, IntKind.signed, IntKind.bits]
  split <;> omega
theorem bits_sum (a b : Int) (ha : -9223372036854775808 ≤ a) (ha2 : a ≤ 9223372036854775807) (hb : -9223372036854775808 ≤ b) (hb2 : b ≤ 9223372036854775807) :
    ∃ m x : Int, bits .and .i64 a b = m ∧ bits .xor .i64 a b = x ∧ a + b = 2 * m + x ∧ -9223372036854775808 ≤ x ∧ x ≤ 9223372036854775807 := by
  obtain ⟨u, hu, hul, ea⟩ := ofInt_i64 a ha ha2
  obtain ⟨v, hv, hvl, eb⟩ := ofInt_i64 b hb hb2
  have e1 : bits .and .i64 a b = IntKind.i64.wrap ((u &&& v : Nat) : Int) := by
    show IntKind.i64.wrap (((BitVec.ofInt 64 a) &&& (BitVec.ofInt 64 b)).toNat : Int) = _
    rw [BitVec.toNat_and, hu, hv]
  have e2 : bits .xor .i64 a b = IntKind.i64.wrap ((u ^^^ v : Nat) : Int) := by
    show IntKind.i64.wrap (((BitVec.ofInt 64 a) ^^^ (BitVec.ofInt 64 b)).toNat : Int) = _
    rw [BitVec.toNat_xor, hu, hv]
  obtain ⟨t1, t2⟩ := top_and u v hul hvl
  obtain ⟨t3, t4⟩ := top_xor u v hul hvl
  have hs := nat_and_xor 64 u v hul hvl
  refine ⟨_, _, e1, e2, ?_, ?_⟩
  · rw [wrap_i64 _ t2, wrap_i64 _ t4, ea, eb]
    generalize (u &&& v) = m at *
    generalize (u ^^^ v) = x at *
    clear e1 e2 hu hv ea eb
    (repeat' split) <;> omega
  · rw [wrap_i64 _ t4]
    generalize (u ^^^ v) = x at *
    split <;> omega
theorem bits_and1 (x : Int) (h1 : -9223372036854775808 ≤ x) (h2 : x ≤ 9223372036854775807) : bits .and .i64 x 1 = x % 2 := by
  obtain ⟨u, hu, hul, ea⟩ := ofInt_i64 x h1 h2
  have e1 : bits .and .i64 x 1 = IntKind.i64.wrap ((u &&& 1 : Nat) : Int) := by
    show IntKind.i64.wrap (((BitVec.ofInt 64 x) &&& (BitVec.ofInt 64 1)).toNat : Int) = _
    rw [BitVec.toNat_and, hu]; rfl
  rw [e1, Nat.and_one_is_mod, wrap_i64 _ (by omega), if_pos (by omega)]
  split at ea <;> omega
theorem fdiv2 (x : Int) : x.fdiv 2 = x / 2 := by rw [Int.fdiv_eq_ediv_of_nonneg _ (by decide)]
def sumH (a b : Int) : Int := (a + b) / 2
def sumR (a b : Int) : Int := (a + b) % 2
theorem sum_parts (a b : Int) (ha : -9223372036854775808 ≤ a) (ha2 : a ≤ 9223372036854775807) (hb : -9223372036854775808 ≤ b) (hb2 : b ≤ 9223372036854775807) :
    ∃ m x : Int, bits .and .i64 a b = m ∧ bits .xor .i64 a b = x ∧ IntKind.i64.wrap (m + x.fdiv 2) = sumH a b ∧ bits .and .i64 x 1 = sumR a b := by
  obtain ⟨m, x, h1, h2, h3, h4, h5⟩ := bits_sum a b ha ha2 hb hb2
  refine ⟨m, x, h1, h2, ?_, ?_⟩
  · rw [fdiv2]
    have : m + x / 2 = sumH a b := by unfold sumH; omega
    rw [this]
    unfold sumH
    simp [IntKind.wrap, IntKind.signed, IntKind.bits]
    omega
  · rw [bits_and1 x h4 h5]
    unfold sumR
    omega
theorem sum_less {a b c d : Int} : (a + b < c + d ↔ sumH a b < sumH c d ∨ (sumH a b = sumH c d ∧ sumR a b < sumR c d)) := by
  unfold sumH sumR; omega
theorem sum_same {a b c d : Int} : (a + b = c + d ↔ sumH a b = sumH c d ∧ sumR a b = sumR c d) := by
  unfold sumH sumR; omega
end

section
set_option linter.unusedVariables false
set_option linter.unusedSimpArgs false
def depthF (n : Nat) : Nat := if h : n ≤ 1 then n else 1 + depthF ((n + 1) / 2)
termination_by n
decreasing_by omega
def aheadK (k : Nat → Int) (i j : Nat) : Prop := k i < k j ∨ (k i = k j ∧ i < j)
instance (k : Nat → Int) (i j : Nat) : Decidable (aheadK k i j) := by unfold aheadK; exact inferInstance
theorem ahead_trans {k : Nat → Int} {i j l : Nat} (h1 : aheadK k i j) (h2 : aheadK k j l) : aheadK k i l := by unfold aheadK at *; omega
theorem ahead_irr {k : Nat → Int} {i : Nat} : ¬ aheadK k i i := by unfold aheadK; omega
theorem ahead_tot {k : Nat → Int} {i j : Nat} (h : ¬ aheadK k i j) (h2 : ¬ aheadK k j i) : i = j := by unfold aheadK at *; omega
def SrtK (k : Nat → Int) (L : List Nat) : Prop := L.Pairwise (aheadK k)
theorem srt_unique {k : Nat → Int} : ∀ {A B : List Nat}, SrtK k A → SrtK k B → A.Perm B → A = B
  | [], _, _, _, h => (List.nil_perm.1 h).symm
  | x :: A, [], _, _, h => by have := h.length_eq; simp at this
  | x :: A, y :: B, h1, h2, h => by
    unfold SrtK at *
    rw [List.pairwise_cons] at h1 h2
    have e : x = y := by
      rcases List.mem_cons.1 (h.mem_iff.1 List.mem_cons_self) with e | hm
      · exact e
      · rcases List.mem_cons.1 (h.mem_iff.2 List.mem_cons_self) with e | hk
        · exact e.symm
        · exact absurd (ahead_trans (h2.1 x hm) (h1.1 y hk)) ahead_irr
    subst e
    rw [srt_unique h1.2 h2.2 ((List.perm_cons x).1 h)]
def putK (k : Nat → Int) (x : Nat) : List Nat → List Nat
  | [] => [x]
  | y :: L => if aheadK k x y then x :: y :: L else y :: putK k x L
theorem put_perm (k : Nat → Int) (x : Nat) : ∀ L : List Nat, (putK k x L).Perm (x :: L)
  | [] => List.Perm.refl _
  | y :: L => by
    unfold putK
    split
    · exact List.Perm.refl _
    · exact ((put_perm k x L).cons y).trans (List.Perm.swap x y L)
theorem put_srt {k : Nat → Int} {x : Nat} : ∀ {L : List Nat}, SrtK k L → x ∉ L → SrtK k (putK k x L)
  | [], _, _ => by unfold putK SrtK; simp
  | y :: L, h, hx => by
    unfold putK
    have h' := h
    unfold SrtK at h'
    rw [List.pairwise_cons] at h'
    split
    case isTrue ha =>
      unfold SrtK
      rw [List.pairwise_cons]
      refine ⟨fun z hz => ?_, h⟩
      rcases List.mem_cons.1 hz with rfl | hz
      · exact ha
      · exact ahead_trans ha (h'.1 z hz)
    case isFalse ha =>
      unfold SrtK
      rw [List.pairwise_cons]
      refine ⟨fun z hz => ?_, put_srt h'.2 (fun hm => hx (List.mem_cons_of_mem _ hm))⟩
      rcases List.mem_cons.1 ((put_perm k x L).mem_iff.1 hz) with rfl | hz
      · apply Decidable.byContradiction
        intro hn
        exact hx (by rw [ahead_tot hn ha]; exact List.mem_cons_self)
      · exact h'.1 z hz
def srtK (k : Nat → Int) : List Nat → List Nat
  | [] => []
  | x :: L => putK k x (srtK k L)
theorem srt_perm (k : Nat → Int) : ∀ L : List Nat, (srtK k L).Perm L
  | [] => List.Perm.refl _
  | x :: L => (put_perm k x _).trans ((srt_perm k L).cons x)
theorem srt_srt {k : Nat → Int} : ∀ {L : List Nat}, L.Nodup → SrtK k (srtK k L)
  | [], _ => List.Pairwise.nil
  | x :: L, h => by
    rw [List.nodup_cons] at h
    exact put_srt (srt_srt h.2) (fun hm => h.1 ((srt_perm k L).mem_iff.1 hm))
theorem srt_is {k : Nat → Int} {L M : List Nat} (hn : L.Nodup) (hp : M.Perm L) (hs : SrtK k M) : M = srtK k L := srt_unique hs (srt_srt hn) (hp.trans (srt_perm k L).symm)
def ordK (key : Nat → Nat → Int) : Nat → Nat → List Nat → List Nat
  | 0, _, L => L
  | f + 1, lv, L => if L.length < 2 then L else ordK key f (lv + 1) ((srtK (key lv) L).take ((L.length + 1) / 2)) ++ ordK key f (lv + 1) ((srtK (key lv) L).drop ((L.length + 1) / 2))
theorem ord_perm (key : Nat → Nat → Int) : ∀ (f lv : Nat) (L : List Nat), (ordK key f lv L).Perm L
  | 0, _, L => List.Perm.refl _
  | f + 1, lv, L => by
    unfold ordK
    split
    · exact List.Perm.refl _
    · refine ((ord_perm key f (lv + 1) _).append (ord_perm key f (lv + 1) _)).trans ?_
      rw [List.take_append_drop]
      exact srt_perm _ _
abbrev Bx := Int × Int × Int × Int
def keyB (l : List Bx) (lv i : Nat) : Int := let b := l.getD i (0, 0, 0, 0); if lv % 2 = 0 then b.1 + b.2.2.1 else b.2.1 + b.2.2.2
def ordB (l : List Bx) : List Nat := ordK (keyB l) l.length 0 (List.range l.length)
theorem ordB_perm (l : List Bx) : (ordB l).Perm (List.range l.length) := ord_perm _ _ _ _
def scanB (f : Bx → Bool) (l : List Bx) : List Nat := (List.range l.length).filter fun i => f (l.getD i (0, 0, 0, 0))
theorem scan_mem {f : Bx → Bool} {l : List Bx} {i : Nat} : i ∈ scanB f l ↔ i < l.length ∧ f (l.getD i (0, 0, 0, 0)) = true := by
  unfold scanB; rw [List.mem_filter, List.mem_range]
theorem scan_up (f : Bx → Bool) (l : List Bx) : (scanB f l).Pairwise (· < ·) := List.Pairwise.filter _ List.pairwise_lt_range
theorem up_one {A B : List Nat} (h1 : A.Pairwise (· < ·)) (h2 : B.Pairwise (· < ·)) (h : ∀ i, i ∈ A ↔ i ∈ B) : A = B := by
  have n1 : A.Nodup := h1.imp fun {a b} h => by omega
  have n2 : B.Nodup := h2.imp fun {a b} h => by omega
  have hp : A.Perm B := (List.perm_ext_iff_of_nodup n1 n2).2 h
  have e1 : SrtK (fun i => (i : Int)) A := h1.imp fun {a b} h => .inl (by show (a : Int) < (b : Int); omega)
  have e2 : SrtK (fun i => (i : Int)) B := h2.imp fun {a b} h => .inl (by show (a : Int) < (b : Int); omega)
  exact srt_unique e1 e2 hp
end

section
set_option linter.unusedVariables false
set_option linter.unusedSimpArgs false
abbrev Bz : Bx := (0, 0, 0, 0)
def arB (x y : Bx) : Bx := (min x.1 y.1, min x.2.1 y.2.1, max x.2.2.1 y.2.2.1, max x.2.2.2 y.2.2.2)
structure Mono (f : Bx → Bool) : Prop where
  l : ∀ x y, f x = true → f (arB x y) = true
  r : ∀ x y, f y = true → f (arB x y) = true
def valB (L : List Bx) (N : Nat → Bx) (P : List Nat) (node : Nat) : Bx := if P.length = 1 then L.getD (P.getD 0 0) Bz else N node
def plcB (P : List Nat) (node : Nat) : Nat := if P.length = 1 then P.getD 0 0 else node
def GoodB (L : List Bx) (N : Nat → Bx) : Nat → List Nat → Nat → Prop
  | 0, _, _ => True
  | f + 1, P, node => P.length ≤ 1 ∨ (N node = arB (valB L N (P.take ((P.length + 1) / 2)) (node + 1)) (valB L N (P.drop ((P.length + 1) / 2)) (node + (P.length + 1) / 2)) ∧
      GoodB L N f (P.take ((P.length + 1) / 2)) (node + 1) ∧ GoodB L N f (P.drop ((P.length + 1) / 2)) (node + (P.length + 1) / 2))
theorem val_congr {L : List Bx} {N N' : Nat → Bx} {P : List Nat} {node : Nat} (h : 2 ≤ P.length → N' node = N node) (h0 : P ≠ []) : valB L N' P node = valB L N P node := by
  unfold valB
  split
  · rfl
  · exact h (by have : P.length ≠ 0 := fun e => h0 (List.eq_nil_of_length_eq_zero e); omega)
theorem good_congr (L : List Bx) (N N' : Nat → Bx) : ∀ (f : Nat) (P : List Nat) (node : Nat), (∀ i, node ≤ i → i + 1 < node + P.length → N' i = N i) → GoodB L N f P node → GoodB L N' f P node
  | 0, _, _, _, _ => trivial
  | f + 1, P, node, h, hg => by
    unfold GoodB at *
    rcases hg with hg | ⟨h1, h2, h3⟩
    · exact .inl hg
    by_cases hl : P.length ≤ 1
    · exact .inl hl
    right
    have l1 : (P.take ((P.length + 1) / 2)).length = (P.length + 1) / 2 := by rw [List.length_take]; omega
    have l2 : (P.drop ((P.length + 1) / 2)).length = P.length - (P.length + 1) / 2 := by rw [List.length_drop]
    refine ⟨?_, good_congr L N N' f _ _ (fun i a b => h i (by omega) (by omega)) h2, good_congr L N N' f _ _ (fun i a b => h i (by omega) (by omega)) h3⟩
    rw [h node (by omega) (by omega), h1, val_congr (N := N) (N' := N') (fun a => h _ (by omega) (by omega)) (fun e => by rw [e] at l1; simp at l1; omega),
      val_congr (N := N) (N' := N') (fun a => h _ (by omega) (by omega)) (fun e => by rw [e] at l2; simp at l2; omega)]
theorem good_miss {L : List Bx} {N : Nat → Bx} {q : Bx → Bool} (hm : Mono q) : ∀ (f : Nat) (P : List Nat) (node : Nat), P.length ≤ f → P ≠ [] → GoodB L N f P node → q (valB L N P node) = false → ∀ i ∈ P, q (L.getD i Bz) = false
  | 0, P, _, hl, h0, _, _, i, hi => by
    have := List.eq_nil_of_length_eq_zero (Nat.le_zero.1 hl); exact absurd this h0
  | f + 1, P, node, hl, h0, hg, hq, i, hi => by
    by_cases h1 : P.length = 1
    · unfold valB at hq
      rw [if_pos h1] at hq
      match P, h1 with
      | [x], _ =>
        obtain rfl : i = x := by simpa using hi
        exact hq
    · have hp : P.length ≠ 0 := fun e => h0 (List.eq_nil_of_length_eq_zero e)
      unfold GoodB at hg
      rcases hg with hg | ⟨e, h2, h3⟩
      · omega
      unfold valB at hq
      rw [if_neg h1, e] at hq
      have l1 : (P.take ((P.length + 1) / 2)).length = (P.length + 1) / 2 := by rw [List.length_take]; omega
      have l2 : (P.drop ((P.length + 1) / 2)).length = P.length - (P.length + 1) / 2 := by rw [List.length_drop]
      have q1 : q (valB L N (P.take ((P.length + 1) / 2)) (node + 1)) = false := by
        cases hx : q (valB L N (P.take ((P.length + 1) / 2)) (node + 1)) with
        | false => rfl
        | true => rw [hm.l _ _ hx] at hq; cases hq
      have q2 : q (valB L N (P.drop ((P.length + 1) / 2)) (node + (P.length + 1) / 2)) = false := by
        cases hx : q (valB L N (P.drop ((P.length + 1) / 2)) (node + (P.length + 1) / 2)) with
        | false => rfl
        | true => rw [hm.r _ _ hx] at hq; cases hq
      rw [← List.take_append_drop ((P.length + 1) / 2) P, List.mem_append] at hi
      rcases hi with hi | hi
      · exact good_miss hm f _ _ (by omega) (fun e => by rw [e] at l1; simp at l1; omega) h2 q1 i hi
      · exact good_miss hm f _ _ (by omega) (fun e => by rw [e] at l2; simp at l2; omega) h3 q2 i hi
def hitB (L : List Bx) (q : Bx → Bool) (P : List Nat) : List Nat := P.filter fun i => q (L.getD i Bz)
theorem hit_none {L : List Bx} {q : Bx → Bool} {P : List Nat} (h : ∀ i ∈ P, q (L.getD i Bz) = false) : hitB L q P = [] := by
  unfold hitB
  rw [List.filter_eq_nil_iff]
  intro i hi
  rw [h i hi]; simp
theorem hit_app (L : List Bx) (q : Bx → Bool) (A B : List Nat) : hitB L q (A ++ B) = hitB L q A ++ hitB L q B := by unfold hitB; exact List.filter_append A B
theorem hit_one {L : List Bx} {q : Bx → Bool} {i : Nat} (h : q (L.getD i Bz) = true) : hitB L q [i] = [i] := by unfold hitB; rw [List.filter_cons, if_pos h]; rfl
theorem hit_le (L : List Bx) (q : Bx → Bool) (P : List Nat) : (hitB L q P).length ≤ P.length := List.length_filter_le _ _
theorem hit_scan {L : List Bx} {q : Bx → Bool} {P M : List Nat} (hP : P.Perm (List.range L.length)) (hM : M.Perm (hitB L q P)) (hu : M.Pairwise (· < ·)) : M = scanB q L := by
  refine up_one hu (scan_up q L) fun i => ?_
  rw [hM.mem_iff, scan_mem]
  unfold hitB
  rw [List.mem_filter, hP.mem_iff, List.mem_range]
theorem nodup_up {M : List Nat} (h : M.Nodup) (hs : M.Pairwise (· ≤ ·)) : M.Pairwise (· < ·) := by
  have := List.Pairwise.and h hs
  exact this.imp fun {a b} ⟨h1, h2⟩ => by omega
theorem ord_step {key : Nat → Nat → Int} {f lv : Nat} {P : List Nat} (h : 2 ≤ P.length) : ordK key (f + 1) lv P = ordK key f (lv + 1) ((srtK (key lv) P).take ((P.length + 1) / 2)) ++ ordK key f (lv + 1) ((srtK (key lv) P).drop ((P.length + 1) / 2)) := by
  rw [ordK, if_neg (by omega)]
theorem ord_one {key : Nat → Nat → Int} {f lv : Nat} {P : List Nat} (h : P.length ≤ 1) : ordK key f lv P = P := by
  cases f with
  | zero => rfl
  | succ f => rw [ordK, if_pos (by omega)]
theorem ord_len (key : Nat → Nat → Int) (f lv : Nat) (P : List Nat) : (ordK key f lv P).length = P.length := (ord_perm key f lv P).length_eq
def slc {α : Type} (O : List α) (a n : Nat) : List α := (O.drop a).take n
def spl {α : Type} (O : List α) (a : Nat) (P : List α) : List α := O.take a ++ P ++ O.drop (a + P.length)
theorem slc_len {α : Type} {O : List α} {a n : Nat} (h : a + n ≤ O.length) : (slc O a n).length = n := by unfold slc; rw [List.length_take, List.length_drop]; omega
theorem spl_len {α : Type} {O : List α} {a : Nat} {P : List α} (h : a + P.length ≤ O.length) : (spl O a P).length = O.length := by
  unfold spl; rw [List.length_append, List.length_append, List.length_take, List.length_drop]; omega
theorem slc_get {α : Type} {O : List α} {a n i : Nat} {d : α} (hi : i < n) : (slc O a n).getD i d = O.getD (a + i) d := by
  unfold slc
  rw [List.getD_eq_getElem?_getD, List.getElem?_take_of_lt hi, List.getElem?_drop, List.getD_eq_getElem?_getD]
theorem spl_get {α : Type} {O : List α} {a i : Nat} {P : List α} {d : α} (h : a + P.length ≤ O.length) : (spl O a P).getD i d = if a ≤ i ∧ i < a + P.length then P.getD (i - a) d else O.getD i d := by
  unfold spl
  have lt : (O.take a).length = a := by rw [List.length_take]; omega
  simp only [List.getD_eq_getElem?_getD]
  by_cases h1 : i < a
  · rw [if_neg (by omega), List.append_assoc, List.getElem?_append_left (by omega), List.getElem?_take_of_lt h1]
  · by_cases h2 : i < a + P.length
    · rw [if_pos ⟨by omega, h2⟩, List.append_assoc, List.getElem?_append_right (by omega), lt, List.getElem?_append_left (by omega)]
    · rw [if_neg (by omega), List.getElem?_append_right (by rw [List.length_append, lt]; omega), List.length_append, lt, List.getElem?_drop]
      congr 2; omega
theorem slc_spl {α : Type} {O : List α} {a : Nat} {P : List α} (h : a + P.length ≤ O.length) : slc (spl O a P) a P.length = P := by
  unfold slc spl
  have lt : (O.take a).length = a := by rw [List.length_take]; omega
  rw [List.append_assoc, List.drop_append_of_le_length (by omega), List.drop_of_length_le (by omega), List.nil_append, List.take_append_of_le_length (by omega), List.take_of_length_le (by omega)]
theorem spl_slc {α : Type} {O : List α} {a n : Nat} (h : a + n ≤ O.length) : spl O a (slc O a n) = O := by
  unfold spl slc
  rw [show a + ((O.drop a).take n).length = a + n by rw [List.length_take, List.length_drop]; omega, List.append_assoc, show O.drop (a + n) = (O.drop a).drop n by rw [List.drop_drop], List.take_append_drop, List.take_append_drop]
theorem spl_two {α : Type} {O : List α} {a : Nat} {A B : List α} (h : a + A.length + B.length ≤ O.length) : spl (spl O a A) (a + A.length) B = spl O a (A ++ B) := by
  unfold spl
  have lt : (O.take a).length = a := by rw [List.length_take]; omega
  rw [List.take_append_of_le_length (by rw [List.length_append]; omega), List.take_of_length_le (by rw [List.length_append]; omega), List.length_append,
    show a + A.length + B.length = (O.take a ++ A).length + B.length by rw [List.length_append]; omega, List.drop_append, List.drop_of_length_le (by omega), List.nil_append, List.drop_drop]
  rw [show a + A.length + ((O.take a ++ A).length + B.length - (O.take a ++ A).length) = a + (A.length + B.length) by omega, List.append_assoc (O.take a) A B]
theorem spl_over {α : Type} {O : List α} {a : Nat} {A B : List α} (h : a + B.length ≤ O.length) (e : A.length = B.length) : spl (spl O a A) a B = spl O a B := by
  have lt : (O.take a).length = a := by rw [List.length_take]; omega
  have d1 : (spl O a A).take a = O.take a := by
    unfold spl
    rw [List.append_assoc, List.take_append_of_le_length (by omega), List.take_of_length_le (by omega)]
  have d2 : (spl O a A).drop (a + B.length) = O.drop (a + B.length) := by
    unfold spl
    rw [show a + B.length = (O.take a ++ A).length by rw [List.length_append]; omega, List.drop_append, List.drop_of_length_le (Nat.le_refl _), Nat.sub_self, List.nil_append, List.drop_zero, List.length_append, lt]
  show (spl O a A).take a ++ B ++ (spl O a A).drop (a + B.length) = _
  rw [d1, d2]
  rfl
theorem slc_apart {α : Type} {O : List α} {a c n : Nat} {P : List α} (h : a + P.length ≤ O.length) (hc : c + n ≤ a ∨ a + P.length ≤ c) (hl : c + n ≤ O.length) [Inhabited α] : slc (spl O a P) c n = slc O c n := by
  apply List.ext_getElem?
  intro i
  by_cases hi : i < n
  · have h1 : i < (slc (spl O a P) c n).length := by rw [slc_len (by rw [spl_len h]; exact hl)]; exact hi
    have h2 : i < (slc O c n).length := by rw [slc_len hl]; exact hi
    have e1 := slc_get (O := spl O a P) (a := c) (d := default) hi
    have e2 := slc_get (O := O) (a := c) (d := default) hi
    rw [spl_get h, if_neg (by omega), ← e2, List.getD_eq_getElem?_getD, List.getD_eq_getElem?_getD, List.getElem?_eq_getElem h1, List.getElem?_eq_getElem h2] at e1
    rw [List.getElem?_eq_getElem h1, List.getElem?_eq_getElem h2]
    simpa using e1
  · rw [List.getElem?_eq_none (by rw [slc_len (by rw [spl_len h]; exact hl)]; omega), List.getElem?_eq_none (by rw [slc_len hl]; omega)]
theorem slc_all {α : Type} (O : List α) : slc O 0 O.length = O := by unfold slc; rw [List.drop_zero, List.take_length]
theorem spl_all {α : Type} {O P : List α} (h : P.length = O.length) : spl O 0 P = P := by unfold spl; rw [List.take_zero, List.nil_append, Nat.zero_add, h, List.drop_length, List.append_nil]
end

section
set_option linter.unusedVariables false
set_option linter.unusedSimpArgs false
open Go.RowKit
def JunkU (w w' : World) : Prop := Junk w w' ∧ w.drawn ≤ w'.drawn
def ClsW (W : World) (b : Nat) (w' : World) : Prop := ∃ J d, b ≤ d ∧ w' = W.plus J d
def smV (a b : Int) : Value := .agg #[.int .i64 (sumH a b), .int .i64 (sumR a b)]
def ptV (first count node : Nat) (y : Bool) : Value := .agg #[.int .i64 first, .int .i64 count, .int .i64 node, .bool y]
theorem results_sum {fn : Func} {p : Tmp} (h : fn.results = #[.cell p 125]) (tmps : Array Value) (w : World) (g : Nat) (c : Array Value)
    (hp : tmps.getD p undef = .pointer (some ⟨g, 0, none⟩)) (hr : w.rowAt g = some c) (hc : c.size = 2) : (results fn tmps).run Tryz.prog w = .ok (.agg c) w := by
  obtain ⟨ty, hg⟩ := rowAt_some hr
  have hp' : tmps[p]?.getD undef = .pointer (some ⟨g, 0, none⟩) := by simpa using hp
  simp [results, h, hp', asAddr, run_loadVar_row w g ty _ c (0, 0) _ hg Tryz.underlying125 rfl (by rw [hc]; kernel_rfl)]
theorem results_bx {fn : Func} {p : Tmp} (h : fn.results = #[.cell p 67]) (tmps : Array Value) (w : World) (g : Nat) (c : Array Value)
    (hp : tmps.getD p undef = .pointer (some ⟨g, 0, none⟩)) (hr : w.rowAt g = some c) (hc : c.size = 4) : (results fn tmps).run Tryz.prog w = .ok (.agg c) w := by
  obtain ⟨ty, hg⟩ := rowAt_some hr
  have hp' : tmps[p]?.getD undef = .pointer (some ⟨g, 0, none⟩) := by simpa using hp
  simp [results, h, hp', asAddr, run_loadVar_row w g ty _ c (0, 0) _ hg Tryz.underlying67 rfl (by rw [hc]; kernel_rfl)]
theorem results_part {fn : Func} {p : Tmp} (h : fn.results = #[.cell p 85]) (tmps : Array Value) (w : World) (g : Nat) (c : Array Value)
    (hp : tmps.getD p undef = .pointer (some ⟨g, 0, none⟩)) (hr : w.rowAt g = some c) (hc : c.size = 4) : (results fn tmps).run Tryz.prog w = .ok (.agg c) w := by
  obtain ⟨ty, hg⟩ := rowAt_some hr
  have hp' : tmps[p]?.getD undef = .pointer (some ⟨g, 0, none⟩) := by simpa using hp
  simp [results, h, hp', asAddr, run_loadVar_row w g ty _ c (0, 0) _ hg Tryz.underlying85 rfl (by rw [hc]; kernel_rfl)]
theorem results_part2 {fn : Func} {p q : Tmp} (h : fn.results = #[.cell p 85, .cell q 85]) (tmps : Array Value) (w : World) (g g2 : Nat) (c c2 : Array Value)
    (hp : tmps.getD p undef = .pointer (some ⟨g, 0, none⟩)) (hr : w.rowAt g = some c) (hc : c.size = 4) (hp2 : tmps.getD q undef = .pointer (some ⟨g2, 0, none⟩)) (hr2 : w.rowAt g2 = some c2) (hc2 : c2.size = 4) : (results fn tmps).run Tryz.prog w = .ok (.tuple #[.agg c, .agg c2]) w := by
  obtain ⟨ty, hg⟩ := rowAt_some hr
  obtain ⟨ty2, hg2⟩ := rowAt_some hr2
  have hp' : tmps[p]?.getD undef = .pointer (some ⟨g, 0, none⟩) := by simpa using hp
  have hp2' : tmps[q]?.getD undef = .pointer (some ⟨g2, 0, none⟩) := by simpa using hp2
  simp [results, h, hp', hp2', asAddr, run_loadVar_row w g ty _ c (0, 0) _ hg Tryz.underlying85 rfl (by rw [hc]; kernel_rfl), run_loadVar_row w g2 ty2 _ c2 (0, 0) _ hg2 Tryz.underlying85 rfl (by rw [hc2]; kernel_rfl)]
set_option maxRecDepth 100000 in
set_option maxHeartbeats 2000000 in
theorem n_btAdd (a b : Int) (ha : -9223372036854775808 ≤ a ∧ a ≤ 9223372036854775807) (hb : -9223372036854775808 ≤ b ∧ b ≤ 9223372036854775807) (w : World) :
    Calls Tryz.prog 104 #[.int .i64 a, .int .i64 b] w fun e w' => e = .returned (smV a b) ∧ JunkU w w' := by
  obtain ⟨m, x, h1, h2, h3, h4⟩ := sum_parts a b ha.1 ha.2 hb.1 hb.2
  unfold smV
  generalize sumH a b = p at *
  generalize sumR a b = q at *
  clear ha hb
  rw [fdiv2] at h3
  go_enter Tryz.func104, Tryz.ntmps104
  go_wp2
  refine bodyPost_ret (results_sum rfl _ _ w.heap.size #[.int .i64 p, .int .i64 q] rfl (by simp [go_sem, *]) rfl) rfl ⟨rfl, junk_of_below (by (repeat' first | with_reducible (first | apply Below.refl | assumption | apply bw_a | apply bw_d | apply bw_n | apply bw_p | apply bw_c | apply bw_r) | go_size)), Nat.le_refl _⟩
theorem cmp_sum (a b c d : Int) : (if sgn (sumH a b - sumH c d) = 0 then sgn (sumR a b - sumR c d) else sgn (sumH a b - sumH c d)) = sgn (a + b - (c + d)) := by
  have h1 := sgn_cases (sumH a b - sumH c d)
  have h2 := sgn_cases (sumR a b - sumR c d)
  have h3 := sgn_cases (a + b - (c + d))
  have h4 := @sum_less a b c d
  have h5 := @sum_same a b c d
  have h6 := @sum_less c d a b
  rcases h1 with ⟨h1, e1⟩ | ⟨h1, e1⟩ | ⟨h1, e1⟩ <;> rcases h2 with ⟨h2, e2⟩ | ⟨h2, e2⟩ | ⟨h2, e2⟩ <;> rw [e1] <;> simp <;> omega
set_option maxRecDepth 100000 in
set_option maxHeartbeats 2000000 in
theorem n_btCompare (a b c d : Int) (w : World) : Calls Tryz.prog 78 #[smV a b, smV c d] w fun e w' => e = .returned (.int .i64 (sgn (a + b - (c + d)))) ∧ JunkU w w' := by
  rw [← cmp_sum]
  unfold smV
  generalize sumH a b = x1 at *
  generalize sumR a b = x2 at *
  generalize sumH c d = y1 at *
  generalize sumR c d = y2 at *
  have H1 := Lib.hid (fun w' => w_cmp x1 y1 w')
  have H2 := Lib.hid (fun w' => w_cmp x2 y2 w')
  generalize sgn (x1 - y1) = p at *
  generalize sgn (x2 - y2) = q at *
  obtain ⟨r, hr⟩ : ∃ r, (if p = 0 then q else p) = r := ⟨_, rfl⟩
  rw [hr]
  have HO := Lib.hid (show ∀ (b : Nat) (w' : World), w'.cell? ⟨b, 0, none⟩ = some (.int .i64 p) → w'.cell? ⟨b, 1, none⟩ = some (.int .i64 q) → Calls Tryz.prog 105 #[.slice (some ⟨b, 0, none⟩) 2 2] w' fun e w'' => e = .returned (.int .i64 r) ∧ w' = w'' from by
    intro b w' h0 h1
    rw [← hr]
    exact w_or2 p q b w' h0 h1)
  clear hr
  go_enter Tryz.func78, Tryz.ntmps78
  go_upto_region 1 with fail
  refine region_quiet_tail (C := ClsW ((w.alloc (.cells #[.int .i64 x1, .int .i64 x2] 125)).alloc (.cells #[.int .i64 y1, .int .i64 y2] 125)) w.drawn) 10 (by kernel_rfl) (by kernel_rfl) ⟨#[], w.drawn + 1, Nat.le_succ _, (plus_nil _).symm⟩ ?_
  simp only [List.take_succ_cons, List.take_zero, List.drop_succ_cons, List.drop_zero]
  iterate 5 (refine wpQuiet_step (fun K hK => ?_); go_simp; first | (refine hK _ ?_; clear hK K) | (apply Exists.intro; refine ⟨?_, hK _ ?_⟩; (rintro w3_ ⟨J3_, d3_, hd3_, rfl⟩; first | (with_reducible exact rfl) | (go_simp; with_reducible exact rfl) | (go_simp; refine (H1.out _).mono ?_; rintro e_ w_ ⟨rfl, rfl⟩; exact ⟨rfl, _, _, hd3_, rfl⟩)); clear hK K))
  iterate 5 (refine wpQuiet_step (fun K hK => ?_); go_simp; first | (refine hK _ ?_; clear hK K) | (apply Exists.intro; refine ⟨?_, hK _ ?_⟩; (rintro w3_ ⟨J3_, d3_, hd3_, rfl⟩; first | (with_reducible exact rfl) | (go_simp; with_reducible exact rfl) | (go_simp; refine (H2.out _).mono ?_; rintro e_ w_ ⟨rfl, rfl⟩; exact ⟨rfl, _, _, hd3_, rfl⟩)); clear hK K))
  refine wpQuiet_nil ?_
  rintro w3 ⟨J3, d3, hd3, rfl⟩
  have HD := Lib.hid hd3
  clear hd3
  go_wp2_with fail
  refine (HO.out _ _ ?_ ?_).mono ?_
  · simp [go_sem]
  · simp [go_sem]
  rintro e w1 ⟨rfl, rfl⟩
  go_wp2
  go_ret
  exact ⟨rfl, junk_of_below (by (repeat' first | with_reducible (first | apply Below.refl | assumption | apply bw_a | apply bw_d | apply bw_n | apply bw_p | apply bw_c | apply bw_r) | go_size)), HD.out⟩
def keyV (y : Bool) (x1 x2 x3 x4 : Int) : Value := if y then smV x2 x4 else smV x1 x3
set_option maxRecDepth 100000 in
set_option maxHeartbeats 2000000 in
theorem n_btKey (f c n : Nat) (y : Bool) (x1 x2 x3 x4 : Int) (h1 : -9223372036854775808 ≤ x1 ∧ x1 ≤ 9223372036854775807) (h2 : -9223372036854775808 ≤ x2 ∧ x2 ≤ 9223372036854775807) (h3 : -9223372036854775808 ≤ x3 ∧ x3 ≤ 9223372036854775807) (h4 : -9223372036854775808 ≤ x4 ∧ x4 ≤ 9223372036854775807) (w : World) :
    Calls Tryz.prog 77 #[ptV f c n y, bxV x1 x2 x3 x4] w fun e w' => e = .returned (keyV y x1 x2 x3 x4) ∧ JunkU w w' := by
  have H1 := Lib.hid (fun w' => n_btAdd x1 x3 h1 h3 w')
  have H2 := Lib.hid (fun w' => n_btAdd x2 x4 h2 h4 w')
  clear h1 h2 h3 h4
  unfold ptV bxV keyV smV at *
  generalize sumH x1 x3 = p1 at *
  generalize sumR x1 x3 = q1 at *
  generalize sumH x2 x4 = p2 at *
  generalize sumR x2 x4 = q2 at *
  cases y with
  | false =>
    go_enter Tryz.func77, Tryz.ntmps77
    go_wp2_with (go_at_call 104; refine (H1.out _).mono ?_; rintro e w1 ⟨rfl, ⟨J1, d1, rfl⟩, hd1⟩)
    refine bodyPost_ret (results_sum rfl _ _ (w.heap.size + 1 + 1) #[.int .i64 p1, .int .i64 q1] rfl (by simp [go_sem, *]) rfl) rfl ⟨rfl, junk_of_below (by (repeat' first | with_reducible (first | apply Below.refl | assumption | apply bw_a | apply bw_d | apply bw_n | apply bw_p | apply bw_c | apply bw_r) | go_size)), hd1⟩
  | true =>
    go_enter Tryz.func77, Tryz.ntmps77
    go_wp2_with (go_at_call 104; refine (H2.out _).mono ?_; rintro e w1 ⟨rfl, ⟨J1, d1, rfl⟩, hd1⟩)
    refine bodyPost_ret (results_sum rfl _ _ (w.heap.size + 1 + 1) #[.int .i64 p2, .int .i64 q2] rfl (by simp [go_sem, *]) rfl) rfl ⟨rfl, junk_of_below (by (repeat' first | with_reducible (first | apply Below.refl | assumption | apply bw_a | apply bw_d | apply bw_n | apply bw_p | apply bw_c | apply bw_r) | go_size)), hd1⟩
set_option maxRecDepth 100000 in
set_option maxHeartbeats 2000000 in
theorem n_btAround (x1 x2 x3 x4 y1 y2 y3 y4 : Int) (w : World) :
    Calls Tryz.prog 80 #[bxV x1 x2 x3 x4, bxV y1 y2 y3 y4] w fun e w' => e = .returned (bxV (min x1 y1) (min x2 y2) (max x3 y3) (max x4 y4)) ∧ Junk w w' := by
  unfold bxV
  go_enter Tryz.func80, Tryz.ntmps80
  go_wp2
  refine bodyPost_ret (results_bx rfl _ _ (w.heap.size + 1 + 1) #[.int .i64 (min x1 y1), .int .i64 (min x2 y2), .int .i64 (max x3 y3), .int .i64 (max x4 y4)] rfl (by simp [go_sem, *]) rfl) rfl ⟨rfl, junk_of_below (by (repeat' first | with_reducible (first | apply Below.refl | assumption | apply bw_a | apply bw_d | apply bw_n | apply bw_p | apply bw_c | apply bw_r) | go_size))⟩
end

section
set_option linter.unusedVariables false
set_option linter.unusedSimpArgs false
open Go.RowKit
set_option maxRecDepth 100000 in
set_option maxHeartbeats 2000000 in
theorem n_btHalves (f c n : Nat) (y : Bool) (hc : c ≤ 1000000) (hf : f ≤ 1000000) (hn : n ≤ 1000000) (w : World) :
    Calls Tryz.prog 79 #[ptV f c n y] w fun e w' => e = .returned (.tuple #[ptV f ((c + 1) / 2) (n + 1) !y, ptV (f + (c + 1) / 2) (c - (c + 1) / 2) (n + (c + 1) / 2) !y]) ∧ Junk w w' := by
  have e1 : IntKind.i64.wrap ((c : Int) + 1) = ((c + 1 : Nat) : Int) := by simp [IntKind.wrap, IntKind.signed, IntKind.bits]; omega
  have e2 : ((c + 1 : Nat) : Int).tdiv 2 = (((c + 1) / 2 : Nat) : Int) := by rw [Int.tdiv_eq_ediv_of_nonneg (by omega)]; omega
  have e2' : ((c + 1 : Nat) : Int) / 2 = (((c + 1) / 2 : Nat) : Int) := by omega
  have e3 : IntKind.i64.wrap (((c + 1) / 2 : Nat) : Int) = (((c + 1) / 2 : Nat) : Int) := by simp [IntKind.wrap, IntKind.signed, IntKind.bits]; omega
  have e4 : IntKind.i64.wrap ((n : Int) + 1) = ((n + 1 : Nat) : Int) := by simp [IntKind.wrap, IntKind.signed, IntKind.bits]; omega
  have e5 : IntKind.i64.wrap ((f : Int) + (((c + 1) / 2 : Nat) : Int)) = ((f + (c + 1) / 2 : Nat) : Int) := by simp [IntKind.wrap, IntKind.signed, IntKind.bits]; omega
  have e6 : IntKind.i64.wrap ((c : Int) - (((c + 1) / 2 : Nat) : Int)) = ((c - (c + 1) / 2 : Nat) : Int) := by simp [IntKind.wrap, IntKind.signed, IntKind.bits]; omega
  have e7 : IntKind.i64.wrap ((n : Int) + (((c + 1) / 2 : Nat) : Int)) = ((n + (c + 1) / 2 : Nat) : Int) := by simp [IntKind.wrap, IntKind.signed, IntKind.bits]; omega
  unfold ptV
  generalize ((f + (c + 1) / 2 : Nat) : Int) = F at *
  generalize ((c - (c + 1) / 2 : Nat) : Int) = C at *
  generalize ((n + (c + 1) / 2 : Nat) : Int) = N at *
  generalize ((n + 1 : Nat) : Int) = M at *
  generalize (((c + 1) / 2 : Nat) : Int) = h at *
  generalize ((c + 1 : Nat) : Int) = c1 at *
  generalize (c : Int) = c0 at *
  generalize (n : Int) = n0 at *
  generalize (f : Int) = f0 at *
  clear hc hf hn
  go_enter Tryz.func79, Tryz.ntmps79
  go_upto_region 2 with fail
  go_region_held3 (fun w' => w'.cell? ⟨w.heap.size, 0, none⟩ = some (.int .i64 f0) ∧ w'.cell? ⟨w.heap.size, 1, none⟩ = some (.int .i64 c0) ∧ w'.cell? ⟨w.heap.size, 2, none⟩ = some (.int .i64 n0) ∧ w'.cell? ⟨w.heap.size, 3, none⟩ = some (.bool y)) (first | (refine ⟨?_, ?_, ?_, ?_⟩ <;> (simp [go_sem, *]; done))) (first | fail)
  all_goals go_wp2_with fail
  all_goals refine bodyPost_ret (results_part2 rfl _ _ (w.heap.size + 1) (w.heap.size + 1 + 1) #[.int .i64 f0, .int .i64 h, .int .i64 M, .bool !y] #[.int .i64 F, .int .i64 C, .int .i64 N, .bool !y] rfl (by simp [go_sem, *]) rfl rfl (by simp [go_sem, *]) rfl) rfl ⟨rfl, junk_of_below (by (repeat' first | with_reducible (first | apply Below.refl | assumption | apply bw_a | apply bw_d | apply bw_n | apply bw_p | apply bw_c | apply bw_r) | go_size))⟩
end
end Go.Proofs.YthphdiigjimchaaGreat

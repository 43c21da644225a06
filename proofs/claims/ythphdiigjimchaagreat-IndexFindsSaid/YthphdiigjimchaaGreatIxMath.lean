/- Indexes: mathematics: boxes and regions with two upright sides; sums of widths. Slices of regions: what reads as a list of regions; arguments; the law's Big. Indexes: what is said of a list of regions, which are near. Indexes: mathematics: what is near is what a scan of the boxes finds; what has a point is near it. Indexes as they lie: the tree, the copies of the regions that wait, the slabs of those that have been asked for. -/
import Derived.Test.YthphdiigjimchaaGreatRiB
import Derived.Test.YthphdiigjimchaaGreatRiMath
import Derived.Test.YthphdiigjimchaaGreatReTwo
import Derived.Test.YthphdiigjimchaaGreatRiRef
import Derived.Test.YthphdiigjimchaaGreatBtRef
import Derived.Test.YthphdiigjimchaaGreatSbTwo
import Derived.Test.YthphdiigjimchaaGreatBtBld
import Derived.Test.YthphdiigjimchaaGreatBtFind
import Derived.Test.YthphdiigjimchaaGreatSbOne
namespace Go.Proofs.YthphdiigjimchaaGreat
section
set_option linter.unusedVariables false
set_option linter.unusedSimpArgs false
open Go.RowKit
def quadL (lx hx a0 b0 a1 b1 : Int) : List Pt := [(lx, a0), (hx, b0), (hx, b1), (lx, a1)]
theorem quad_box (lx ly hx hy : Int) : quadL lx hx ly ly hy hy = boxR lx ly hx hy := rfl
theorem det_corner {lx hx a b c d : Int} (h1 : lx < hx) (h2 : a < b) (h3 : c < d) :
    0 < detQ (lx, b) (lx, a) (hx, c) ∧ 0 < detQ (lx, a) (hx, c) (hx, d) ∧ 0 < detQ (hx, c) (hx, d) (lx, b) ∧ 0 < detQ (hx, d) (lx, b) (lx, a) := by
  have e1 : detQ (lx, b) (lx, a) (hx, c) = (b - a) * (hx - lx) := by unfold detQ detP; grind
  have e2 : detQ (lx, a) (hx, c) (hx, d) = (d - c) * (hx - lx) := by unfold detQ detP; grind
  have e3 : detQ (hx, c) (hx, d) (lx, b) = (d - c) * (hx - lx) := by unfold detQ detP; grind
  have e4 : detQ (hx, d) (lx, b) (lx, a) = (b - a) * (hx - lx) := by unfold detQ detP; grind
  have p1 := Int.mul_pos (show 0 < b - a by omega) (show 0 < hx - lx by omega)
  have p2 := Int.mul_pos (show 0 < d - c by omega) (show 0 < hx - lx by omega)
  rw [e1, e2, e3, e4]
  exact ⟨p1, p2, p2, p1⟩
theorem quad_fine {lx hx a0 b0 a1 b1 : Int} (h1 : lx < hx) (h2 : max a0 b0 < min a1 b1) (o1 : okC (lx, a0) = true) (o2 : okC (hx, b0) = true) (o3 : okC (hx, b1) = true) (o4 : okC (lx, a1) = true) : fineQ (quadL lx hx a0 b0 a1 b1) := by
  obtain ⟨d1, d2, d3, d4⟩ := det_corner h1 (show a0 < a1 by omega) (show b0 < b1 by omega)
  have key : ∀ i, i < 4 → i = 0 ∨ i = 1 ∨ i = 2 ∨ i = 3 := fun i h => by omega
  have hc4 : cyc (quadL lx hx a0 b0 a1 b1) (((3 : Nat) : Int) + 1) = (lx, a0) := by unfold cyc quadL; simp
  refine ⟨(by show 3 ≤ 4; omega), (by show 4 ≤ 200; omega), fun i hi => ?_, fun i hi => ?_, fun i hi => ?_, fun i hi => ?_⟩
  · rcases key i hi with rfl | rfl | rfl | rfl
    · exact o1
    · exact o2
    · exact o3
    · exact o4
  · unfold twiceAt
    rw [decide_eq_false_iff_not]
    rcases key i hi with rfl | rfl | rfl | rfl
    · show ¬ (lx, a0) ∈ []; simp
    · show ¬ (hx, b0) ∈ [(lx, a0)]; simp; omega
    · show ¬ (hx, b1) ∈ [(lx, a0), (hx, b0)]; simp; omega
    · show ¬ (lx, a1) ∈ [(lx, a0), (hx, b0), (hx, b1)]; simp; omega
  · rcases key i hi with rfl | rfl | rfl | rfl
    · exact (left_turn o4 o1 o2 d1).1
    · exact (left_turn o1 o2 o3 d2).1
    · exact (left_turn o2 o3 o4 d3).1
    · unfold backAt; rw [hc4]; exact (left_turn o3 o4 o1 d4).1
  · have m02 : meetQ (lx, a0) (hx, b0) (hx, b1) (lx, a1) = 0 := meet_apart (by intro e; injection e; omega) (by intro e; injection e; omega) (by simp only; omega)
    have m13 : meetQ (hx, b0) (hx, b1) (lx, a1) (lx, a0) = 0 := meet_apart (by intro e; injection e; omega) (by intro e; injection e; omega) (by simp only; omega)
    unfold meetsAt
    rw [List.any_eq_false]
    intro k hk
    have hk4 : k < 4 := List.mem_range.1 hk
    rcases key i hi with rfl | rfl | rfl | rfl <;> rcases key k hk4 with rfl | rfl | rfl | rfl
    all_goals first
      | (simp; done)
      | (show ¬ (decide (0 + 2 ≤ 2) && meetTwo (quadL lx hx a0 b0 a1 b1) 0 2) = true; have : meetTwo (quadL lx hx a0 b0 a1 b1) 0 2 = false := (by show (!decide (0 = 0 ∧ 2 = 3) && !decide (meetQ (lx, a0) (hx, b0) (hx, b1) (lx, a1) = 0)) = false; rw [decide_eq_true m02]; simp); rw [this]; simp; done)
      | (show ¬ (decide (1 + 2 ≤ 3) && meetTwo (quadL lx hx a0 b0 a1 b1) 1 3) = true; have : meetTwo (quadL lx hx a0 b0 a1 b1) 1 3 = false := (by unfold meetTwo; rw [hc4]; show (!decide (1 = 0 ∧ 3 = 3) && !decide (meetQ (hx, b0) (hx, b1) (lx, a1) (lx, a0) = 0)) = false; rw [decide_eq_true m13]; simp); rw [this]; simp; done)
      | (show ¬ (decide (0 + 2 ≤ 3) && meetTwo (quadL lx hx a0 b0 a1 b1) 0 3) = true; have : meetTwo (quadL lx hx a0 b0 a1 b1) 0 3 = false := (by show (!decide (0 = 0 ∧ 3 = 3) && _) = false; rfl); rw [this]; simp; done)
theorem reg_quad {K : List Pt} (h : fineQ K) (h4 : K.length ≤ 400) : regFine [K] :=
  ⟨(by show 0 < 1; omega), (by show 1 ≤ 20; omega), by unfold allN; simpa using h4, fun M hM => by rw [List.mem_singleton.1 hM]; exact h, List.pairwise_singleton _ _⟩
theorem in_not {p : Pt} {K : List Pt} (h : ¬ okC p = true) : inQ p K = false := by
  unfold inQ
  rw [cross_zero0 fun a _ b _ => count_bad h]
  rfl
theorem in_box_all {px py lx ly hx hy : Int} (hl : okC (lx, ly) = true) (hh : okC (hx, hy) = true) (h1 : lx < hx) (h2 : ly < hy) : inQ (px, py) (boxR lx ly hx hy) = inF px py lx ly hx hy := by
  by_cases hp : okC (px, py) = true
  · exact in_boxR hp hl hh h1 h2
  · rw [in_not hp]
    symm
    unfold inF
    rw [decide_eq_false_iff_not]
    rintro ⟨k1, k2, k3, k4⟩
    refine hp ?_
    unfold okC at *
    rw [okP_iff] at *
    simp only at *
    omega
theorem cut_sum {px py lx ly hx hy fy ty : Int} (hl : okC (lx, ly) = true) (hh : okC (hx, hy) = true) (h1 : lx < hx) (h2 : ly < hy) (f1 : ly ≤ fy) (f2 : fy ≤ hy) (t1 : ly ≤ ty) (t2 : ty ≤ hy) :
    oneN (inQ (px, py) (quadL lx hx ly ly fy ty)) + oneN (inQ (px, py) (quadL lx hx fy ty hy hy)) = oneN (inF px py lx ly hx hy) := by
  obtain ⟨k1, k2⟩ := in_tiles (p := (px, py)) (cut := []) hl hh h1 h2 f1 f2 t1 t2 (fun a ha => by cases ha)
  have e1 : [(lx, ly), (hx, ly)] ++ ((lx, fy) :: [] ++ [(hx, ty)]).reverse = quadL lx hx ly ly fy ty := rfl
  have e2 : inQ (px, py) ([(hx, hy), (lx, hy)] ++ ((lx, fy) :: [] ++ [(hx, ty)])) = inQ (px, py) (quadL lx hx fy ty hy hy) := by
    unfold inQ
    rw [cross_swap_parts]
    rfl
  rw [e1, e2] at k1 k2
  simp only at k1 k2
  cases hb : inF px py lx ly hx hy with
  | true =>
    rw [k1 hb]
    cases inQ (px, py) (quadL lx hx fy ty hy hy) <;> rfl
  | false =>
    obtain ⟨q1, q2⟩ := k2 hb
    rw [q1, q2]; rfl
def hasR (p : Pt) (l : List (List (List Pt))) : List Nat := (List.range l.length).filter fun i => regQ p (l.getD i [])
theorem hasR_take (p : Pt) (l : List (List (List Pt))) : ∀ k, k ≤ l.length → ((List.range k).filter fun i => regQ p (l.getD i [])).length = ((l.take k).filter (regQ p)).length
  | 0, _ => rfl
  | k + 1, h => by
    have ih := hasR_take p l k (by omega)
    rw [List.range_succ, List.filter_append, List.length_append, ih, List.take_succ_eq_append_getElem (show k < l.length by omega), List.filter_append, List.length_append]
    congr 1
    have e : l.getD k [] = l[k] := by rw [List.getD_eq_getElem?_getD, List.getElem?_eq_getElem (by omega)]; rfl
    cases h : regQ p l[k] with
    | true => rw [List.filter_cons_of_pos (by rw [e]; exact h), List.filter_cons_of_pos h]; rfl
    | false => rw [List.filter_cons_of_neg (by rw [e]; simp [h]), List.filter_cons_of_neg (by simp [h])]; rfl
theorem hasR_len (p : Pt) (l : List (List (List Pt))) : (hasR p l).length = (l.filter (regQ p)).length := by
  unfold hasR
  rw [hasR_take p l _ (Nat.le_refl _), List.take_length]
theorem has_snoc (p : Pt) (l : List (List (List Pt))) (R : List (List Pt)) : (hasR p (l ++ [R])).length = (hasR p l).length + oneN (regQ p R) := by
  rw [hasR_len, hasR_len, List.filter_append, List.length_append]
  congr 1
  cases h : regQ p R <;> simp [h, oneN]
end

section
set_option linter.unusedVariables false
set_option linter.unusedSimpArgs false
open Go.RowKit Go.ChangeShapes Go.WideShapes Go.ChangeAt Go.Joins
structure LRC (w : World) (a : Option Addr) (n ca : Nat) (L : List (List (List Pt))) : Prop where
  len : L.length = n
  ok : SOk a n ca
  cells : n = 0 ∨ ∃ b o, a = some ⟨b, o, none⟩ ∧ ∀ i, i < n → ∃ x m c, w.cell? ⟨b, o + i, none⟩ = some (.slice x m c) ∧ GRC w x m c (L.getD i [])
theorem LRC.below {w w' : World} {a : Option Addr} {n ca : Nat} {L : List (List (List Pt))} (h : LRC w a n ca L) (hb : Below w.heap.size w w') : LRC w' a n ca L := by
  obtain ⟨h1, h2, h3⟩ := h
  refine ⟨h1, h2, ?_⟩
  rcases h3 with h3 | ⟨b, o, he, hc⟩
  · exact .inl h3
  · refine .inr ⟨b, o, he, fun i hi => ?_⟩
    obtain ⟨x, m, c, e, hp⟩ := hc i hi
    exact ⟨x, m, c, by rw [World.cell?_of_block (hb.block b (World.block_lt_of_cell? _ _ e))]; exact e, hp.below hb⟩
theorem lrc_none (w : World) : LRC w none 0 0 [] := ⟨rfl, ⟨Nat.le_refl _, fun _ => rfl⟩, .inl rfl⟩
theorem LRC.at {w : World} {a : Option Addr} {n ca : Nat} {L : List (List (List Pt))} (h : LRC w a n ca L) {k : Nat} (hk : k < n) : ∃ b o x m c, a = some ⟨b, o, none⟩ ∧ w.cell? ⟨b, o + k, none⟩ = some (.slice x m c) ∧ GRC w x m c (L.getD k []) ∧ b < w.heap.size := by
  rcases h.cells with h0 | ⟨b, o, e, hc⟩
  · omega
  · obtain ⟨x, m, c, e2, hg⟩ := hc k hk
    exact ⟨b, o, x, m, c, e, e2, hg, World.block_lt_of_cell? _ _ e2⟩
section
variable {H : Type} {enc : TypeId × Value → H} {w : World} {base : Nat} {spare : Nat → Bool} {held : Bool}
set_option maxRecDepth 100000 in
theorem regions_open {fuel : Nat} {cs : List Value} {x : DataW H × List MemPlace} (h : DataW.trod enc Tryz.prog w base spare held fuel 22 cs = some x) (hz : ∀ n ∈ x.1.weights Tryz.prog 22, n ≤ reachBytes) :
    ∃ a n c L, cs = [.slice a n c] ∧ LRC w a n c L ∧ n ≤ 4611686018427387903 ∧ ∀ R ∈ L, R.length ≤ 4611686018427387903 ∧ ∀ K ∈ R, K.length ≤ 8796093022208 := by
  rcases Deep.open_slice1 Tryz.underlying22 rg_cells h with ⟨rfl, _⟩ | ⟨a, len, cap, m, n, V, D, Pl, rfl, hb, hl, hm, hmm, rfl, hx⟩
  · exact ⟨none, 0, 0, [], rfl, lrc_none w, by decide, by simp⟩
  · have hlm : len ≤ m := by rw [hmm]; split <;> omega
    have each : ∀ i, i < len → ∃ q : Option Addr × Nat × Nat × List (List Pt), w.cell? (a.add i) = some (.slice q.1 q.2.1 q.2.2.1) ∧ GRC w q.1 q.2.1 q.2.2.1 q.2.2.2 ∧ q.2.1 ≤ 4611686018427387903 ∧ ∀ K ∈ q.2.2.2, K.length ≤ 8796093022208 := by
      intro i hi
      obtain ⟨h1, h2⟩ := hx i (by omega)
      obtain ⟨y0, n0, e, _, g0⟩ := trod_struct1 Tryz.underlying28 h2
      have hzi : ∀ k ∈ (D i).weights Tryz.prog 28, k ≤ reachBytes := fun k hk => hz k (by
        simp only [DataW.weights, Tryz.underlying22, List.mem_cons, List.mem_append]
        exact .inr (.inl (weightsAll_mem (List.mem_map_of_mem (List.mem_range.2 hi)) k hk)))
      have eD : D i = .agg [y0.1] := congrArg Prod.fst e
      rw [eD] at hzi
      simp [rs_cells] at g0
      obtain ⟨a', n', c', R, e2, hp, hn, hk⟩ := rings_open g0 (fun k hk => hzi k (by
        simp only [DataW.weights, Tryz.underlying28, List.map_cons, List.map_nil, DataW.weightsEach, List.mem_append]
        exact .inl hk))
      simp at e2
      exact ⟨(a', n', c', R), by rw [h1, e2], hp, hn, hk⟩
    obtain ⟨Q, hQ⟩ := Deep.choose_lt each
    have hln : len ≤ 4611686018427387903 := by
      have := hz ((((List.range len).map D).length + ((List.range (m - len)).map fun j => D (len + j)).length) * Tryz.prog.bytesOf 28) (by simp [DataW.weights, Tryz.underlying22])
      rw [show Tryz.prog.bytesOf 28 = 24 by kernel_rfl] at this
      simp only [List.length_map, List.length_range] at this
      unfold reachBytes at this
      omega
    refine ⟨some a, len, cap, (List.range len).map fun i => (Q i).2.2.2, rfl, ⟨by simp, ⟨hl, fun e => by cases e⟩, ?_⟩, hln, ?_⟩
    · by_cases hz0 : len = 0
      · exact .inl hz0
      · obtain ⟨b, off, sp⟩ := a
        have h1 := (hQ 0 (by omega)).1
        have hsp : sp = none := by
          cases sp with
          | none => rfl
          | some s => unfold Addr.add World.cell? at h1; simp at h1; split at h1 <;> simp_all
        subst hsp
        have ha : ∀ j, (⟨b, off, none⟩ : Addr).add j = ⟨b, off + j, none⟩ := fun j => by unfold Addr.add; split <;> simp_all
        refine .inr ⟨b, off, rfl, fun i hi => ?_⟩
        have := hQ i hi
        rw [ha] at this
        refine ⟨_, _, _, this.1, ?_⟩
        rw [List.getD_eq_getElem?_getD, List.getElem?_map, List.getElem?_range hi]
        exact this.2.1
    · intro R hR
      rw [List.mem_map] at hR
      obtain ⟨i, hi, rfl⟩ := hR
      have := hQ i (List.mem_range.1 hi)
      exact ⟨by rw [this.2.1.len]; exact this.2.2.1, this.2.2.2⟩
end
end

section
set_option linter.unusedVariables false
set_option linter.unusedSimpArgs false
open Go.RowKit
def checkX (L : List (List (List Pt))) : Int × Nat :=
  if 64 < L.length then (3, 0) else match (List.range L.length).find? fun i => decide ((checkR (L.getD i [])).1 ≠ 0) with
    | none => (0, 0)
    | some i => ((checkR (L.getD i [])).1, i)
theorem checkX_many {L : List (List (List Pt))} (h : 64 < L.length) : checkX L = (3, 0) := by unfold checkX; rw [if_pos h]
theorem checkX_none {L : List (List (List Pt))} (h : L.length ≤ 64) (hk : ∀ j, j < L.length → (checkR (L.getD j [])).1 = 0) : checkX L = (0, 0) := by
  unfold checkX
  rw [if_neg (by omega)]
  have : ((List.range L.length).find? fun i => decide ((checkR (L.getD i [])).1 ≠ 0)) = none := by
    rw [List.find?_eq_none]
    intro i hi
    rw [decide_eq_true_eq]
    exact fun k => k (hk i (List.mem_range.1 hi))
  rw [this]
theorem checkX_hit {L : List (List (List Pt))} {k : Nat} (h : L.length ≤ 64) (hl : k < L.length) (hk : ∀ j, j < k → (checkR (L.getD j [])).1 = 0) (hb : (checkR (L.getD k [])).1 ≠ 0) : checkX L = ((checkR (L.getD k [])).1, k) := by
  unfold checkX
  rw [if_neg (by omega)]
  have : ((List.range L.length).find? fun i => decide ((checkR (L.getD i [])).1 ≠ 0)) = some k := by
    rw [List.find?_range_eq_some]
    refine ⟨by simpa using hb, List.mem_range.2 hl, fun j hj => ?_⟩
    have := hk j hj
    simpa using this
  rw [this]
theorem checkX_fine {L : List (List (List Pt))} : (checkX L).1 = 0 ↔ L.length ≤ 64 ∧ ∀ j, j < L.length → regFine (L.getD j []) := by
  constructor
  · intro h
    by_cases h1 : 64 < L.length
    · rw [checkX_many h1] at h; exact absurd h (by decide)
    · refine ⟨by omega, fun j hj => ?_⟩
      refine Classical.byContradiction fun hn => ?_
      have hb : (checkR (L.getD j [])).1 ≠ 0 := fun e => hn (checkR_fine.1 e)
      obtain ⟨k, hk1, hk2, hk3⟩ : ∃ k, k < L.length ∧ (checkR (L.getD k [])).1 ≠ 0 ∧ ∀ i, i < k → (checkR (L.getD i [])).1 = 0 := by
        have key : ∀ m, (∃ k, k < m ∧ k < L.length ∧ (checkR (L.getD k [])).1 ≠ 0) → ∃ k, k < L.length ∧ (checkR (L.getD k [])).1 ≠ 0 ∧ ∀ i, i < k → (checkR (L.getD i [])).1 = 0 := by
          intro m
          induction m with
          | zero => rintro ⟨k, h, _⟩; omega
          | succ m ih =>
            rintro ⟨k, h1, h2, h3⟩
            by_cases h4 : ∃ q, q < m ∧ q < L.length ∧ (checkR (L.getD q [])).1 ≠ 0
            · exact ih h4
            · refine ⟨k, h2, h3, fun i hi => ?_⟩
              refine Classical.byContradiction fun hq => h4 ⟨i, by omega, by omega, hq⟩
        exact key (j + 1) ⟨j, by omega, hj, hb⟩
      rw [checkX_hit (by omega) hk1 hk3 hk2] at h
      exact hk2 h
  · rintro ⟨h1, h2⟩
    rw [checkX_none h1 fun j hj => checkR_fine.2 (h2 j hj)]
def nearQ (p : Pt) (R : List (List Pt)) : Bool := bndOk R.flatten && inF p.1 p.2 (boxF R.flatten).1 (boxF R.flatten).2.1 (boxF R.flatten).2.2.1 (boxF R.flatten).2.2.2
def nearR (p : Pt) (l : List (List (List Pt))) : List Nat := (List.range l.length).filter fun i => nearQ p (l.getD i [])
def scanR (f : List (List Pt) → Bool) (L : List (List (List Pt))) (k : Nat) : List Nat := (List.range k).filter fun i => f (L.getD i [])
theorem scanR_hit {f : List (List Pt) → Bool} {L : List (List (List Pt))} {k : Nat} (h : f (L.getD k []) = true) : scanR f L (k + 1) = scanR f L k ++ [k] := by
  unfold scanR; rw [List.range_succ, List.filter_append]; simp only [List.filter_cons, List.filter_nil, h, if_true]
theorem scanR_not {f : List (List Pt) → Bool} {L : List (List (List Pt))} {k : Nat} (h : f (L.getD k []) = false) : scanR f L (k + 1) = scanR f L k := by
  unfold scanR; rw [List.range_succ, List.filter_append]; simp only [List.filter_cons, List.filter_nil, h]; simp
theorem scanR_le (f : List (List Pt) → Bool) (L : List (List (List Pt))) (k : Nat) : (scanR f L k).length ≤ k := by
  have := List.length_filter_le (fun i => f (L.getD i [])) (List.range k)
  rw [List.length_range] at this
  exact this
def IcAt (W : World) (L : List (List (List Pt))) (n : Nat) (x : Value) (wr : World) : Prop := ∃ k : Nat, x = .int .i64 (k : Int) ∧ k ≤ n ∧ (∀ j, j < k → (checkR (L.getD j [])).1 = 0) ∧ Cls W wr
theorem mem_getD {L : List (List (List Pt))} {k : Nat} (h : k < L.length) : L.getD k [] ∈ L := by rw [List.getD_eq_getElem?_getD, List.getElem?_eq_getElem h]; exact List.getElem_mem h
theorem ring_leR2 {R : List (List Pt)} {K : List Pt} (hK : K ∈ R) : K.length ≤ R.flatten.length := by
  induction R with
  | nil => cases hK
  | cons M R ih =>
    rw [List.flatten_cons, List.length_append]
    rcases List.mem_cons.1 hK with rfl | h
    · omega
    · have := ih h; omega
def SgAt (W : World) (f : List (List Pt) → Bool) (L : List (List (List Pt))) (v i : Value) (wr : World) : Prop := ∃ k : Nat, i = .int .i64 (k : Int) ∧ k ≤ L.length ∧ wr.ownsRow W.heap.size 3 1 v (scanR f L k).length (ints (nums (scanR f L k))) ∧ Below W.heap.size W wr
end

section
set_option linter.unusedVariables false
set_option linter.unusedSimpArgs false
open Go.RowKit
def boxB (R : List (List Pt)) : Bx := boxF R.flatten
section
variable {L : List (List (List Pt))}
theorem near_scan (hf : ∀ j, j < L.length → regFine (L.getD j [])) (px py : Int) : nearR (px, py) L = scanB (inB px py) (L.map boxB) := by
  unfold nearR scanB
  rw [List.length_map]
  apply List.filter_congr
  intro i hi
  have hi := List.mem_range.1 hi
  have e : (L.map boxB).getD i (0, 0, 0, 0) = boxB (L.getD i []) := by
    rw [List.getD_eq_getElem?_getD, List.getElem?_map, List.getD_eq_getElem?_getD, List.getElem?_eq_getElem hi]; rfl
  rw [e]
  unfold nearQ inB boxB
  rw [fine_bnd2 (hf i hi), Bool.true_and]
theorem has_near (hf : ∀ j, j < L.length → regFine (L.getD j [])) (p : Pt) {i : Nat} (hi : i < L.length) (h : regQ p (L.getD i []) = true) : nearQ p (L.getD i []) = true := by
  have := reg_bnd (fineR_ok (hf i hi)) h
  unfold nearQ boxF
  rw [fine_bnd2 (hf i hi)]
  simpa using this
theorem has_filter (hf : ∀ j, j < L.length → regFine (L.getD j [])) (p : Pt) : hasR p L = (nearR p L).filter fun i => regQ p (L.getD i []) := by
  unfold hasR nearR
  rw [List.filter_filter]
  apply List.filter_congr
  intro i hi
  have hi := List.mem_range.1 hi
  cases h : regQ p (L.getD i []) with
  | false => rfl
  | true => rw [has_near hf p hi h]; rfl
theorem near_lt (p : Pt) : ∀ i ∈ nearR p L, i < L.length := fun i hi => by
  unfold nearR at hi
  exact List.mem_range.1 (List.mem_filter.1 hi).1
theorem near_len (p : Pt) : (nearR p L).length ≤ L.length := by
  have := List.length_filter_le (fun i => nearQ p (L.getD i [])) (List.range L.length)
  rw [List.length_range] at this
  exact this
theorem box_in (hf : ∀ j, j < L.length → regFine (L.getD j [])) : InBs (L.map boxB) := by
  intro b hb
  obtain ⟨R, hR, rfl⟩ := List.mem_map.1 hb
  obtain ⟨j, hj, e⟩ := List.mem_iff_getElem.1 hR
  have hg := hf j hj
  rw [List.getD_eq_getElem?_getD, List.getElem?_eq_getElem hj, Option.getD_some, e] at hg
  have hb := fine_bnd2 hg
  unfold boxB boxF
  rw [hb]
  unfold bndOk at hb
  rw [Bool.and_eq_true, decide_eq_true_eq] at hb
  have h1 := lx_ok hb.2 hb.1 R.flatten.length
  have h2 := ly_ok hb.2 hb.1 R.flatten.length
  have h3 := hx_ok hb.2 hb.1 R.flatten.length
  have h4 := hy_ok hb.2 hb.1 R.flatten.length
  refine ⟨?_, ?_, ?_, ?_⟩ <;> unfold In6 <;> simp only [if_true] <;> omega
end
end

section
set_option linter.unusedVariables false
set_option linter.unusedSimpArgs false
open Go.RowKit
structure KeptU (U : Nat → Prop) (base : Nat) (w w' : World) : Prop where
  low : Below base w w'
  keep : ∀ k, k < w.heap.size → ¬ U k → w'.heap[k]? = w.heap[k]?
def UGrow (w w' : World) (U U' : Nat → Prop) : Prop := ∀ k, U' k → U k ∨ (w.heap.size ≤ k ∧ k < w'.heap.size)
def Agree (V : Nat → Prop) (w w' : World) : Prop := ∀ k, V k → w'.heap[k]? = w.heap[k]?
theorem Agree.refl (V : Nat → Prop) (w : World) : Agree V w w := fun _ _ => rfl
theorem Agree.trans {V : Nat → Prop} {w w' w'' : World} (h : Agree V w w') (h2 : Agree V w' w'') : Agree V w w'' := fun k hk => (h2 k hk).trans (h k hk)
def Slot (w : World) (V : Nat → Prop) (rb sb fb i : Nat) (R : List (List Pt)) : Prop :=
  (w.cell? ⟨sb, i, none⟩ = some (.pointer none) ∧ w.cell? ⟨fb, i * 3, none⟩ = some (.int .u32 0) ∧ w.cell? ⟨fb, i * 3 + 1, none⟩ = some (.int .i32 0) ∧
    ∃ x m c, w.cell? ⟨rb, i, none⟩ = some (.slice x m c) ∧ ∀ w', Agree V w w' → GRC w' x m c R) ∨
  ∃ q, w.cell? ⟨sb, i, none⟩ = some (.pointer (some ⟨q, 0, none⟩)) ∧ w.cell? ⟨fb, i * 3, none⟩ = some (.int .u32 1) ∧ ∀ w', Agree V w w' → ∃ b t, SlabB w' b t q R
structure IxR (w : World) (V : Nat → Prop) (rb sb fb : Nat) (L : List (List (List Pt))) : Prop where
  vr : ¬ V rb
  vs : ¬ V sb
  vf : ¬ V fb
  rs : rb ≠ sb
  rf : rb ≠ fb
  sf : sb ≠ fb
  hr : ∃ c, w.heap[rb]? = some (.cells c 28 (0, 0))
  hs : ∃ c, w.heap[sb]? = some (.cells c 103 (0, 0))
  hf : ∃ c, w.heap[fb]? = some (.cells c 101 (0, 0))
  slot : ∀ i, i < L.length → Slot w V rb sb fb i (L.getD i [])
structure IxC (w : World) (V : Nat → Prop) (xb : Nat) (ra sa fa : Option Addr) (rc sc fc : Nat) (L : List (List (List Pt))) : Prop where
  vx : V xb
  c0 : w.cell? ⟨xb, 0, none⟩ = some (.pointer (some ⟨xb, 0, none⟩))
  tree : ∃ tb, w.cell? ⟨xb, 1, none⟩ = some (.pointer (some ⟨tb, 0, none⟩)) ∧ ∀ w', Agree V w w' → ∃ b t, TreeB w' b t tb (L.map boxB)
  c2 : w.cell? ⟨xb, 2, none⟩ = some (.slice ra L.length rc)
  c3 : w.cell? ⟨xb, 3, none⟩ = some (.slice sa L.length sc)
  c4 : w.cell? ⟨xb, 4, none⟩ = some (.slice fa L.length fc)
structure IxS (w : World) (base xb : Nat) (L : List (List (List Pt))) (U : Nat → Prop) : Prop where
  fine : (checkX L).1 = 0
  inn : ∀ k, U k → base ≤ k ∧ k < w.heap.size
  body : ∃ V ra rc sa sc fa fc, (∀ k, V k → U k) ∧ IxC w V xb ra sa fa rc sc fc L ∧
    (L = [] ∨ ∃ rb sb fb, ra = some ⟨rb, 0, none⟩ ∧ sa = some ⟨sb, 0, none⟩ ∧ fa = some ⟨fb, 0, none⟩ ∧ U rb ∧ U sb ∧ U fb ∧ IxR w V rb sb fb L)
section
variable {w w' : World} {V : Nat → Prop} {rb sb fb xb : Nat} {ra sa fa : Option Addr} {rc sc fc : Nat} {L : List (List (List Pt))} {R : List (List Pt)} {i : Nat}
theorem Slot.same (h : Slot w V rb sb fb i R) (hV : Agree V w w') (h1 : w'.cell? ⟨sb, i, none⟩ = w.cell? ⟨sb, i, none⟩) (h2 : w'.cell? ⟨fb, i * 3, none⟩ = w.cell? ⟨fb, i * 3, none⟩) (h3 : w'.cell? ⟨fb, i * 3 + 1, none⟩ = w.cell? ⟨fb, i * 3 + 1, none⟩) (h4 : w'.cell? ⟨rb, i, none⟩ = w.cell? ⟨rb, i, none⟩)
    {V' : Nat → Prop} (hs : ∀ k, V k → V' k) : Slot w' V' rb sb fb i R := by
  rcases h with ⟨a1, a2, a3, x, m, c, a4, a5⟩ | ⟨q, a1, a2, a3⟩
  · exact .inl ⟨h1.trans a1, h2.trans a2, h3.trans a3, x, m, c, h4.trans a4, fun w'' hw => a5 w'' (hV.trans fun k hk => hw k (hs k hk))⟩
  · exact .inr ⟨q, h1.trans a1, h2.trans a2, fun w'' hw => a3 w'' (hV.trans fun k hk => hw k (hs k hk))⟩
theorem IxC.only (h : IxC w V xb ra sa fa rc sc fc L) (hV : Agree V w w') {V' : Nat → Prop} (hs : ∀ k, V k → V' k) : IxC w' V' xb ra sa fa rc sc fc L := by
  obtain ⟨h0, h1, ⟨tb, h2, h3⟩, h4, h5, h6⟩ := h
  have hb := hV xb h0
  exact ⟨hs _ h0, (World.cell?_of_block (a := ⟨xb, 0, none⟩) hb).trans h1, ⟨tb, (World.cell?_of_block (a := ⟨xb, 1, none⟩) hb).trans h2, fun w'' hw => h3 w'' (hV.trans fun k hk => hw k (hs k hk))⟩,
    (World.cell?_of_block (a := ⟨xb, 2, none⟩) hb).trans h4, (World.cell?_of_block (a := ⟨xb, 3, none⟩) hb).trans h5, (World.cell?_of_block (a := ⟨xb, 4, none⟩) hb).trans h6⟩
theorem IxR.only (h : IxR w V rb sb fb L) (hV : Agree V w w') (hr : w'.heap[rb]? = w.heap[rb]?) (hs : w'.heap[sb]? = w.heap[sb]?) (hf : w'.heap[fb]? = w.heap[fb]?) : IxR w' V rb sb fb L := by
  obtain ⟨h1, h2, h3, h4, h5, h6, ⟨c1, h7⟩, ⟨c2, h8⟩, ⟨c3, h9⟩, h10⟩ := h
  exact ⟨h1, h2, h3, h4, h5, h6, ⟨c1, hr.trans h7⟩, ⟨c2, hs.trans h8⟩, ⟨c3, hf.trans h9⟩, fun i hi => (h10 i hi).same hV (World.cell?_of_block (a := ⟨sb, i, none⟩) hs) (World.cell?_of_block (a := ⟨fb, i * 3, none⟩) hf) (World.cell?_of_block (a := ⟨fb, i * 3 + 1, none⟩) hf) (World.cell?_of_block (a := ⟨rb, i, none⟩) hr) fun _ h => h⟩
variable {base : Nat} {U : Nat → Prop}
theorem IxS.at (h : IxS w base xb L U) : ∀ k, U k → base ≤ k ∧ k < w.heap.size := h.inn
theorem IxS.keep (h : IxS w base xb L U) (hk : ∀ k, U k → w'.heap[k]? = w.heap[k]?) : IxS w' base xb L U := by
  obtain ⟨h1, h2, V, ra, rc, sa, sc, fa, fc, hV, hC, hR⟩ := h
  have hA : Agree V w w' := fun k hv => hk k (hV k hv)
  refine ⟨h1, fun k hu => ⟨(h2 k hu).1, ?_⟩, V, ra, rc, sa, sc, fa, fc, hV, hC.only hA fun _ h => h, ?_⟩
  · have e := hk k hu
    rw [Array.getElem?_eq_getElem (h2 k hu).2] at e
    exact (Array.getElem?_eq_some_iff.1 e).1
  · rcases hR with hR | ⟨rb, sb, fb, e1, e2, e3, u1, u2, u3, hR⟩
    · exact .inl hR
    · exact .inr ⟨rb, sb, fb, e1, e2, e3, u1, u2, u3, hR.only hA (hk rb u1) (hk sb u2) (hk fb u3)⟩
theorem IxS.below (h : IxS w base xb L U) (hb : Below w.heap.size w w') : IxS w' base xb L U := h.keep fun k hu => hb.block k (h.at k hu).2
theorem IxS.each (h : IxS w base xb L U) : L.length ≤ 64 ∧ ∀ j, j < L.length → regFine (L.getD j []) := checkX_fine.1 h.fine
theorem KeptU.refl (U : Nat → Prop) (base : Nat) (w : World) : KeptU U base w w := ⟨Below.refl _ _, fun _ _ _ => rfl⟩
theorem KeptU.of_below {w w' : World} (hb : Below w.heap.size w w') {base : Nat} (h : base ≤ w.heap.size) : KeptU U base w w' := ⟨hb.mono h, fun k hk _ => hb.block k hk⟩
theorem KeptU.trans {U' : Nat → Prop} {w w' w'' : World} (h : KeptU U base w w') (h2 : KeptU U' base w' w'') (hu : UGrow w w' U U') : KeptU U base w w'' :=
  ⟨h.low.trans h2.low, fun k hk hn => (h2.keep k (Nat.lt_of_lt_of_le hk h.low.size) fun hk' => by rcases hu k hk' with e | e; exact hn e; omega).trans (h.keep k hk hn)⟩
theorem UGrow.refl (w w' : World) (U : Nat → Prop) : UGrow w w' U U := fun _ h => .inl h
theorem UGrow.trans {w w' w'' : World} {U U' U'' : Nat → Prop} (h : UGrow w w' U U') (h2 : UGrow w' w'' U' U'') (s1 : w.heap.size ≤ w'.heap.size) (s2 : w'.heap.size ≤ w''.heap.size) : UGrow w w'' U U'' := fun k hk => by
  rcases h2 k hk with e | e
  · rcases h k e with e | e
    · exact .inl e
    · exact .inr ⟨e.1, by omega⟩
  · exact .inr ⟨by omega, e.2⟩
theorem IxR.fill (h : IxR w V rb sb fb L) {i q : Nat} {V' : Nat → Prop} (hs : ∀ k, V k → V' k) (hV : Agree V w w') (nr : ¬ V' rb) (ns : ¬ V' sb) (nf : ¬ V' fb)
    (hr : ∃ c, w'.heap[rb]? = some (.cells c 28 (0, 0))) (hsb : ∃ c, w'.heap[sb]? = some (.cells c 103 (0, 0))) (hf : ∃ c, w'.heap[fb]? = some (.cells c 101 (0, 0)))
    (or_ : ∀ j, j ≠ i → w'.cell? ⟨rb, j, none⟩ = w.cell? ⟨rb, j, none⟩) (os : ∀ j, j ≠ i → w'.cell? ⟨sb, j, none⟩ = w.cell? ⟨sb, j, none⟩) (of_ : ∀ j, j ≠ i * 3 → j ≠ i * 3 + 1 → w'.cell? ⟨fb, j, none⟩ = w.cell? ⟨fb, j, none⟩)
    (hq : w'.cell? ⟨sb, i, none⟩ = some (.pointer (some ⟨q, 0, none⟩))) (hd : w'.cell? ⟨fb, i * 3, none⟩ = some (.int .u32 1)) (hb : ∀ w'', Agree V' w' w'' → ∃ b t, SlabB w'' b t q (L.getD i [])) : IxR w' V' rb sb fb L :=
  ⟨nr, ns, nf, h.rs, h.rf, h.sf, hr, hsb, hf, fun j hj => by
    by_cases e : j = i
    · subst e
      exact .inr ⟨q, hq, hd, hb⟩
    · exact (h.slot j hj).same hV (os j e) (of_ _ (by omega) (by omega)) (of_ _ (by omega) (by omega)) (or_ j e) hs⟩
end
end
end Go.Proofs.YthphdiigjimchaaGreat

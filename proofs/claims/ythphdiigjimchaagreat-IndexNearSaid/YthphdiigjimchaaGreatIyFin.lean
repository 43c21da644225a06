/- The kit: OverRegion, of one region of many: only rows of points are changed, and they stay rows. Which of some regions have a point: a number among them; rows that are read elsewhere. -/
import Derived.Test.YthphdiigjimchaaGreatSbTwo
import Derived.Test.YthphdiigjimchaaGreatIxLaw
import Derived.Test.YthphdiigjimchaaGreatBnLaw
namespace Go.Proofs.YthphdiigjimchaaGreat
section
set_option linter.unusedVariables false
set_option linter.unusedSimpArgs false
open Go.RowKit
structure OvS (w w' : World) : Prop where
  oth : ∀ (k : Nat) (c : Array Value) (t : TypeId), t ≠ 42 → w.heap[k]? = some (Obj.cells c t (0, 0)) → w'.heap[k]? = some (.cells c t (0, 0))
  pts : ∀ (k : Nat) (c : Array Value), w.heap[k]? = some (.cells c 42 (0, 0)) → ∃ c', w'.heap[k]? = some (.cells c' 42 (0, 0)) ∧ c'.size = c.size
theorem OvS.refl (w : World) : OvS w w := ⟨fun _ _ _ _ h => h, fun _ c h => ⟨c, h, rfl⟩⟩
theorem OvS.trans {w w' w'' : World} (h : OvS w w') (h2 : OvS w' w'') : OvS w w'' := ⟨fun k c t ht hc => h2.oth k c t ht (h.oth k c t ht hc), fun k c hc => by
  obtain ⟨c1, k1, k2⟩ := h.pts k c hc
  obtain ⟨c2, j1, j2⟩ := h2.pts k c1 k1
  exact ⟨c2, j1, j2.trans k2⟩⟩
theorem OvS.of_below {w w' : World} (h : Below w.heap.size w w') : OvS w w' := ⟨fun k c t _ hc => (h.block k (heap_lt hc)).trans hc, fun k c hc => ⟨c, (h.block k (heap_lt hc)).trans hc, rfl⟩⟩
theorem OvS.set {w : World} {g o : Nat} {u : Value} (h : ∃ cu, w.heap[g]? = some (.cells cu 42 (0, 0))) : OvS w (w.setCell ⟨g, o, none⟩ u) := by
  obtain ⟨cu, h⟩ := h
  constructor
  · intro k c t ht hc
    refine (Below.heap_setCell _ _ _ k fun e => ?_).trans hc
    have e2 : k = g := e
    subst e2
    rw [h] at hc
    injection hc with hc
    injection hc with _ hc _
    exact ht hc.symm
  · intro k c hc
    by_cases e : k = g
    · subst e
      obtain ⟨c', k1, k2⟩ := set_heap (o := o) (u := u) hc
      exact ⟨c', k1, k2⟩
    · exact ⟨c, (Below.heap_setCell _ _ _ k e).trans hc, rfl⟩
structure OvK2 (W : World) (base T rb : Nat) (ps : List (Value × List Pt)) (wr : World) : Prop where
  toK : OvK W base T rb ps wr
  shp : OvS W wr
theorem OvK2.set {W : World} {base T rb : Nat} {ps : List (Value × List Pt)} {wr : World} (h : OvK2 W base T rb ps wr) {g : Nat} (h1 : base ≤ g) (h2 : g < T) (h3 : g ≠ rb) (hg : ∃ cu, wr.heap[g]? = some (.cells cu 42 (0, 0))) (o : Nat) (u : Value) : OvK2 W base T rb ps (wr.setCell ⟨g, o, none⟩ u) :=
  ⟨h.toK.set h1 h2 h3 o u, h.shp.trans (OvS.set hg)⟩
def OvO2 (W : World) (base T rb : Nat) (ps : List (Value × List Pt)) (x : Value) (wr : World) : Prop := ∃ k : Nat, x = .int .i64 (k : Int) ∧ k ≤ ps.length ∧ OvK2 W base T rb ps wr
def OvI2 (W : World) (base T rb : Nat) (ps : List (Value × List Pt)) (m : Nat) (x : Value) (wr : World) : Prop := ∃ k : Nat, x = .int .i64 (k : Int) ∧ k ≤ m ∧ OvK2 W base T rb ps wr
set_option maxRecDepth 100000 in
set_option maxHeartbeats 4000000 in
theorem k_OverR (base T : Nat) (x : Option Addr) (c n : Nat) (ps : List (Value × List Pt)) (hn : ps.length = n) (hb : base ≤ T) (w : World) (hT : T ≤ w.heap.size)
    (hrow : ∃ rb, n = 0 ∨ (x = some ⟨rb, 0, none⟩ ∧ rb < T ∧ (∃ cur, w.heap[rb]? = some (.cells cur 23 (0, 0)) ∧ ∀ i, (h : i < ps.length) → w.cell? ⟨rb, i, none⟩ = some (ps[i].1)))) (heach : ∀ p ∈ ps, PRow base T w p.1 p.2.length) (hs : n ≤ 1000) (hl : ∀ p ∈ ps, p.2.length ≤ 100000) :
    Calls Tryz.prog 14 #[.agg #[.slice x n c]] w fun e w' => e = .returned (.tuple #[]) ∧ KeptR base T w w' ∧ OvS w w' := by
  obtain ⟨rb, hrow⟩ := hrow
  have HEa := Lib.hid heach
  have HRo := Lib.hid hrow
  have HL := Lib.hid hl
  have HN := Lib.hid hn
  clear hrow heach hl hn
  go_enter Tryz.func14, Tryz.ntmps14
  go_wp2_with fail
  obtain ⟨W, hW⟩ : ∃ W, w.alloc (.cells #[.slice x n c] 28) = W := ⟨_, rfl⟩
  have c2 : W.cell? ⟨w.heap.size, 0, none⟩ = some (.slice x n c) := by rw [← hW]; simp [go_sem]
  have hj : Below w.heap.size w W := by rw [← hW]; (repeat' first | with_reducible (first | apply Below.refl | assumption | apply bw_a | apply bw_d | apply bw_n | apply bw_p | apply bw_c | apply bw_r) | go_size)
  have l2 : w.heap.size < W.heap.size := World.block_lt_of_cell? _ _ c2
  rw [hW]
  clear hW
  have HJ := Lib.hid hj
  go_loopw [2] (fun x wr => OvO2 W base T rb ps x wr) (fun x _ => n - (intOf x).toNat)
  case atStart => exact ⟨0, rfl, by omega, ⟨⟨⟨Below.refl _ _, fun k _ _ => rfl⟩, rfl, fun p hp => by
    rcases HEa.out p hp with h | ⟨g, cap, cur, e, k1, k2, k3, k4, k5⟩
    · exact .inl h
    · exact .inr ⟨g, cap, cur, e, k1, k2, (hj.block g (heap_lt k3)).trans k3, k4, k5⟩⟩, OvS.refl _⟩⟩
  case round =>
    obtain ⟨k, rfl, k1, hK⟩ := hrel
    rw [HN.out] at k1
    have HK := Lib.hid hK
    have p0 : wr.cell? ⟨w.heap.size, 0, none⟩ = some (.slice x n c) := (World.cell?_of_block (a := ⟨w.heap.size, 0, none⟩) (hK.toK.kept.high w.heap.size hT l2)).trans c2
    have l3 := World.block_lt_of_cell? _ _ p0
    clear hK
    by_cases hlt : k < n
    · rcases HRo.out with h | ⟨rfl, hrb, ⟨cur, hcur, hc⟩⟩
      · omega
      have hkp : k < ps.length := by rw [HN.out]; exact hlt
      have p1 : wr.cell? ⟨rb, k, none⟩ = some (ps[k].1) := (World.cell?_of_block (a := ⟨rb, k, none⟩) (HK.out.toK.row)).trans ((World.cell?_of_block (a := ⟨rb, k, none⟩) (hj.block rb (by omega))).trans (hc k hkp))
      have hpr := HEa.out _ (List.getElem_mem hkp)
      have hlen := HL.out _ (List.getElem_mem hkp)
      have hmem := List.getElem_mem hkp
      generalize ps[k] = q at *
      obtain ⟨v, L⟩ := q
      simp only at p1 hpr hlen
      have i1 : (k : Int) < (n : Int) := by omega
      have HMm := Lib.hid hmem
      have hx : ∃ y m d, v = .slice y m d ∧ m = L.length := by
        rcases hpr with ⟨rfl, h⟩ | ⟨g, cap, cur, rfl, _⟩
        · exact ⟨_, _, _, rfl, h.symm⟩
        · exact ⟨_, _, _, rfl, rfl⟩
      obtain ⟨y, m, d, rfl, hm⟩ := hx
      rw [← hm] at hlen
      have HM := Lib.hid hm
      have lrb := World.block_lt_of_cell? _ _ p1
      have HC := Lib.hid hc
      have HCu := Lib.hid hcur
      clear hpr hm hmem hc hcur
      go_wp2_with fail
      go_loopw [3] (fun x wr => OvI2 W base T rb ps m x wr) (fun x _ => m - (intOf x).toNat)
      case atStart => exact ⟨0, rfl, by omega, HK.out⟩
      case round =>
        obtain ⟨j, rfl, j1, hK⟩ := hrel
        have HK2 := Lib.hid hK
        have p0 : wr.cell? ⟨w.heap.size, 0, none⟩ = some (.slice (some ⟨rb, 0, none⟩) n c) := (World.cell?_of_block (a := ⟨w.heap.size, 0, none⟩) (hK.toK.kept.high w.heap.size hT l2)).trans c2
        have hWr : W.cell? ⟨rb, k, none⟩ = some (.slice y m d) := by
          have := p1
          rw [World.cell?_of_block (a := ⟨rb, k, none⟩) HK.out.toK.row] at this
          exact this
        have p2 : wr.cell? ⟨rb, k, none⟩ = some (.slice y m d) := (World.cell?_of_block (a := ⟨rb, k, none⟩) hK.toK.row).trans hWr
        have l4 := World.block_lt_of_cell? _ _ p0
        have l5 := World.block_lt_of_cell? _ _ p2
        clear hK
        by_cases hjt : j < m
        · rcases HK2.out.toK.each _ HMm.out with ⟨e, h0⟩ | ⟨g, cap, cu, e, g1, g2, g3, g4, g5⟩
          · simp only at e h0
            have := HM.out
            omega
          simp only at e g4
          injection e with e1 e2 e3
          subst e1
          have hml := HM.out
          have hg : g ≠ rb := fun e => by
            subst e
            have h1 := (HK2.out.toK.row).trans ((hj.block g (by omega)).trans HCu.out)
            rw [g3] at h1
            injection h1 with h1
            injection h1 with _ h1 _
            exact absurd h1 (by decide)
          have u1 : ∃ u, wr.cell? ⟨g, j * 2, none⟩ = some u := ⟨cu[j * 2]'(by omega), by simp [World.cell?, g3]⟩
          have u2 : ∃ u, wr.cell? ⟨g, j * 2 + 1, none⟩ = some u := ⟨cu[j * 2 + 1]'(by omega), by simp [World.cell?, g3]⟩
          obtain ⟨a1, u1⟩ := u1
          obtain ⟨a2, u2⟩ := u2
          have f1 : wr.frozen? ⟨g, j * 2, none⟩ = false := by simp [World.frozen?, g3]
          have f2 : wr.frozen? ⟨g, j * 2 + 1, none⟩ = false := by simp [World.frozen?, g3]
          have l6 := World.block_lt_of_cell? _ _ u1
          have i2 : (j : Int) < (m : Int) := by omega
          have HG3 := Lib.hid (show ∃ cu, wr.heap[g]? = some (.cells cu 42 (0, 0)) from ⟨_, g3⟩)
          clear g3 g4 g5 e2 e3
          go_wp2_with fail
          go_roundw
          case rel => exact ⟨j + 1, by go_num, by omega, (HK2.out.set g1 g2 hg HG3.out _ _).set g1 g2 hg (by obtain ⟨cu, h⟩ := HG3.out; exact (set_heap h).imp fun _ h => h.1) _ _⟩
          case measure => simp [intOf]; omega
        · obtain rfl : j = m := by omega
          have i2 : ¬ (j : Int) < (j : Int) := by omega
          go_wp2_with fail
          go_roundw
          case rel => exact ⟨k + 1, by go_num, by rw [HN.out]; omega, HK2.out⟩
          case measure => simp [intOf]; omega
    · obtain rfl : k = n := by omega
      have i1 : ¬ (k : Int) < (k : Int) := by omega
      go_wp2_with fail
      go_end0
      exact ⟨rfl, ⟨(HJ.out.mono (by omega)).trans HK.out.toK.kept.low, fun k h1 h2 => (HK.out.toK.kept.high k h1 (by have := HJ.out.size; omega)).trans (HJ.out.block k h2)⟩, (OvS.of_below HJ.out).trans HK.out.shp⟩
end

section
set_option linter.unusedVariables false
set_option linter.unusedSimpArgs false
open Go.RowKit
theorem nums_memN {S : List Nat} {z : Int} : z ∈ nums S ↔ ∃ i ∈ S, (i : Int) = z := by
  unfold nums
  rw [List.mem_map]
theorem in_hasR {p : Pt} {L : List (List (List Pt))} {z : Int} : decide (z ∈ nums (hasR p L)) = (decide (0 ≤ z ∧ z < L.length) && regQ p (L.getD z.toNat [])) := by
  rw [Bool.eq_iff_iff]
  rw [decide_eq_true_eq, Bool.and_eq_true, decide_eq_true_eq, nums_memN]
  constructor
  · rintro ⟨i, hi, rfl⟩
    unfold hasR at hi
    rw [List.mem_filter, List.mem_range] at hi
    exact ⟨by omega, by rw [Int.toNat_natCast]; exact hi.2⟩
  · rintro ⟨h1, h2⟩
    refine ⟨z.toNat, ?_, by omega⟩
    unfold hasR
    rw [List.mem_filter, List.mem_range]
    exact ⟨by omega, h2⟩
theorem reads_same {W W' : World} {a : Option Addr} {n : Nat} {zs : List Int} (h : Reads W a n zs) (hb : ∀ b o, a = some ⟨b, o, none⟩ → b < W.heap.size → W'.heap[b]? = W.heap[b]?) : Reads W' a n zs := by
  obtain ⟨h1, h2, h3⟩ := h
  refine ⟨h1, h2, ?_⟩
  rcases h3 with h3 | ⟨b, o, rfl, hc⟩
  · exact .inl h3
  · exact .inr ⟨b, o, rfl, fun i hi => (World.cell?_of_block (a := ⟨b, o + i, none⟩) (hb b o rfl (World.block_lt_of_cell? _ _ (hc i hi)))).trans (hc i hi)⟩
theorem reads_own {W : World} {base s : Nat} {a : Option Addr} {c : Nat} {S : List Nat} (h : W.ownsRow base 3 1 (.slice a s c) s (ints (nums S))) (hs : S.length = s) (hf : ∀ i ∈ S, i < 1000000) : Reads W a s (nums S) := by
  obtain ⟨a', c', e, hr, _⟩ := iown_ok h (nums_fit hf (Nat.le_refl _) (by omega))
  injection e with e1 e2 e3
  subst e1
  exact hr
end
end Go.Proofs.YthphdiigjimchaaGreat

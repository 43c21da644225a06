/- apportionref13: Crossings, Edges. The kit: BigRegion, CopyRegion, OverRegion. The laws of slab: square, sample, is, awake; SlabKnown. The law SlabStacks: the walk. The law SlabFinds: the walk. The law SlabSame: the walk. -/
import Derived.Test.YthphdiigjimchaaGreatSbMath
import Derived.Test.YthphdiigjimchaaGreatBtRef
import Derived.Test.YthphdiigjimchaaGreatReOne
import Derived.Test.YthphdiigjimchaaGreatSbOne
import Derived.Test.YthphdiigjimchaaGreatCrE
namespace Go.Proofs.YthphdiigjimchaaGreat
section
set_option linter.unusedVariables false
set_option linter.unusedSimpArgs false
open Go.RowKit
def CsAt (W : World) (p : Pt) (R : List (List Pt)) (x y : Value) (wr : World) : Prop := ∃ k : Nat, y = .int .i64 (k : Int) ∧ x = .int .i64 (crosK p R k : Nat) ∧ k ≤ R.length ∧ Cls W wr
def EgO (W : World) (lo hi : Int) (R : List (List Pt)) (x y : Value) (wr : World) : Prop := ∃ k : Nat, y = .int .i64 (k : Int) ∧ x = .int .i64 (totK lo hi R k : Nat) ∧ k ≤ R.length ∧ Cls W wr
def EgI (W : World) (lo hi : Int) (K : List Pt) (s : Nat) (x y : Value) (wr : World) : Prop := ∃ k : Nat, y = .int .i64 (k : Int) ∧ x = .int .i64 ((s + edgK lo hi K k : Nat) : Int) ∧ k ≤ K.length ∧ Cls W wr
end

section
set_option linter.unusedVariables false
set_option linter.unusedSimpArgs false
open Go.RowKit
def BiAt (W : World) (most : Nat) (R : List (List Pt)) (x y : Value) (wr : World) : Prop := ∃ k : Nat, y = .int .i64 (k : Int) ∧ x = .int .i64 ((allN (R.take k) : Nat) : Int) ∧ k ≤ R.length ∧ allN (R.take k) ≤ most + 8796093022208 ∧ Cls W wr
set_option maxRecDepth 100000 in
set_option maxHeartbeats 2000000 in
theorem k_BigRegion (pp : Nat) (hpp : pp ≤ 100000) (w : World) (a : Option Addr) (n ca : Nat) (R : List (List Pt)) (hR : GRC w a n ca R) (hs : n ≤ 4611686018427387903) (hl : ∀ K ∈ R, K.length ≤ 8796093022208) :
    Calls Tryz.prog 27 #[.agg #[.slice a n ca], .int .i64 (pp : Int)] w fun e w' => e = .returned (.bool (decide (22 < R.length) || decide (pp < allN R))) ∧ Junk w w' := by
  have L1 := Lib.hid hR.len
  have HK := Lib.hid hR.cells
  have HL := Lib.hid hl
  rw [hR.len]
  obtain ⟨B, hB⟩ : ∃ B, (decide (22 < n) || decide (pp < allN R)) = B := ⟨_, rfl⟩
  rw [hB]
  have HB := Lib.hid hB
  clear hR hl hB
  go_enter Tryz.func27, Tryz.ntmps27
  go_wp2_with fail
  obtain ⟨W, hW⟩ : ∃ W, w.alloc (.cells #[.slice a n ca] 28) = W := ⟨_, rfl⟩
  have c2 : W.cell? ⟨w.heap.size, 0, none⟩ = some (.slice a n ca) := by rw [← hW]; simp [go_sem]
  have hj : Below w.heap.size w W := by rw [← hW]; (repeat' first | with_reducible (first | apply Below.refl | assumption | apply bw_a | apply bw_d | apply bw_n | apply bw_p | apply bw_c | apply bw_r) | go_size)
  have l2 : w.heap.size < W.heap.size := World.block_lt_of_cell? _ _ c2
  rw [hW]
  clear hW
  go_loopw [5, 6] (fun x y wr => BiAt W pp R x y wr) (fun _ y _ => n - (intOf y).toNat)
  case atStart => exact ⟨0, rfl, rfl, by omega, by simp [allN], #[], _, (plus_nil _).symm⟩
  case round =>
    obtain ⟨k, rfl, rfl, k1, hk, J, d, rfl⟩ := hrel
    rw [L1.out] at k1
    have hle := alln_take R k
    by_cases hgo : k < n ∧ allN (R.take k) ≤ pp
    · obtain ⟨hlt, hq⟩ := hgo
      rcases HK.out with h | ⟨b, o, rfl, hc⟩
      · omega
      obtain ⟨x, m, c, p1, hp⟩ := hc k hlt
      have hkR : k < R.length := by rw [L1.out]; exact hlt
      have hm : m ≤ 8796093022208 := by rw [← hp.rd.1]; exact HL.out _ (by rw [List.getD_eq_getElem?_getD, List.getElem?_eq_getElem hkR]; exact List.getElem_mem hkR)
      have hb : b < w.heap.size := World.block_lt_of_cell? _ _ p1
      have s1 := (World.cell?_of_block (hj.block _ hb)).trans p1
      have hbW : b < W.heap.size := World.block_lt_of_cell? _ _ s1
      have hN := alln_step hkR
      rw [hp.rd.1] at hN
      have HN := Lib.hid hN
      generalize allN (R.take k) = q at *
      have w1 : IntKind.i64.wrap ((q : Int) + (m : Int)) = ((q + m : Nat) : Int) := by simp [IntKind.wrap, IntKind.signed, IntKind.bits]; omega
      have i1 : (k : Int) < (n : Int) := by omega
      have i2 : (q : Int) ≤ (pp : Int) := by omega
      clear hc p1 hp hN hle
      go_wp2_with fail
      go_roundw
      case rel => exact ⟨k + 1, by go_num, by rw [HN.out]; try rfl, by rw [L1.out]; omega, by rw [HN.out]; omega, _, _, rfl⟩
      case measure => simp [intOf]; omega
    · have HE : Hid (B = (decide (22 < n) || decide (pp < allN (R.take k)))) := Lib.hid (by
        rw [← HB.out]
        congr 1
        rw [decide_eq_decide]
        by_cases h : k < n
        · constructor
          · intro _; omega
          · intro _; omega
        · rw [List.take_of_length_le (by rw [L1.out]; omega)])
      generalize allN (R.take k) = q at *
      clear HB hle
      by_cases h1 : k < n
      · have i1 : (k : Int) < (n : Int) := by omega
        have i2 : ¬ (q : Int) ≤ (pp : Int) := by omega
        have i3 : (q : Int) > (pp : Int) := by omega
        have HE := Lib.hid (show B = true by rw [HE.out, decide_eq_true (show pp < q by omega), Bool.or_true])
        clear hgo
        by_cases h2 : 22 < n
        · have i4 : (n : Int) > 22 := by omega
          go_wp2_with fail
          go_ret
          exact ⟨retB (by rw [HE.out]), junk_of_below (hj.trans ((Junk.below ⟨_, _, rfl⟩).mono hj.size))⟩
        · have i4 : ¬ (n : Int) > 22 := by omega
          go_wp2_with fail
          go_ret
          exact ⟨retB (by rw [HE.out]), junk_of_below (hj.trans ((Junk.below ⟨_, _, rfl⟩).mono hj.size))⟩
      · obtain rfl : k = n := by omega
        have i1 : ¬ (k : Int) < (k : Int) := by omega
        clear hgo h1
        by_cases h2 : 22 < k
        · have i4 : (k : Int) > 22 := by omega
          have HE := Lib.hid (show B = true by rw [HE.out, decide_eq_true h2, Bool.true_or])
          go_wp2_with fail
          go_ret
          exact ⟨retB (by rw [HE.out]), junk_of_below (hj.trans ((Junk.below ⟨_, _, rfl⟩).mono hj.size))⟩
        · have i4 : ¬ (k : Int) > 22 := by omega
          by_cases h3 : pp < q
          · have i5 : (q : Int) > (pp : Int) := by omega
            have HE := Lib.hid (show B = true by rw [HE.out, decide_eq_true h3, Bool.or_true])
            go_wp2_with fail
            go_ret
            exact ⟨retB (by rw [HE.out]), junk_of_below (hj.trans ((Junk.below ⟨_, _, rfl⟩).mono hj.size))⟩
          · have i5 : ¬ (q : Int) > (pp : Int) := by omega
            have HE := Lib.hid (show B = false by rw [HE.out, decide_eq_false h2, decide_eq_false h3]; rfl)
            go_wp2_with fail
            go_ret
            exact ⟨retB (by rw [HE.out]), junk_of_below (hj.trans ((Junk.below ⟨_, _, rfl⟩).mono hj.size))⟩
set_option maxRecDepth 100000 in
theorem k_CopyRegion (w : World) (a : Option Addr) (n ca : Nat) (R : List (List Pt)) (hR : GRC w a n ca R) (hs : n ≤ 1000) (hl : ∀ K ∈ R, K.length ≤ 100000) :
    Calls Tryz.prog 10 #[.agg #[.slice a n ca]] w fun e w' => (∃ x c ps, e = .returned (.agg #[.slice x n c]) ∧ GOwn w' w.heap.size (.slice x n c) ps ∧ ps.map (·.2) = R) ∧ Junk w w' := by
  have HC := Lib.hid (fun w' h => k_CopyRings w' a n ca R h hs hl)
  have HR := Lib.hid hR
  have L1 := Lib.hid hR.len
  clear hR
  go_enter Tryz.func10, Tryz.ntmps10
  go_wp2_with (go_at_call 28; refine (HC.out _ (HR.out.below (by (repeat' first | with_reducible (first | apply Below.refl | assumption | apply bw_a | apply bw_d | apply bw_n | apply bw_p | apply bw_c | apply bw_r) | go_size)))).mono ?_; rintro e w1 ⟨⟨v, rfl, ps, hv, hps⟩, J1, d1, rfl⟩; obtain ⟨x, c, rfl, _⟩ := hv.grc; have HG := Lib.hid hv; have HPS := Lib.hid hps; clear hv hps)
  have hpl : ps.length = n := by have := congrArg List.length HPS.out; rw [List.length_map, L1.out] at this; exact this
  rw [hpl] at HG
  refine bodyPost_ret (results_reg rfl _ _ (w.heap.size + 1) #[.slice x n c] rfl (by simp [go_sem, hpl]) rfl) rfl ⟨⟨_, _, ps, rfl, ?_, HPS.out⟩, junk_of_below (by (repeat' first | with_reducible (first | apply Below.refl | assumption | apply bw_a | apply bw_d | apply bw_n | apply bw_p | apply bw_c | apply bw_r) | go_size))⟩
  have h1 := HG.out
  have h2 : GOwn ((((w.alloc (.cells #[.slice a n ca] 28)).alloc (.cells #[.slice none 0 0] 28)).plus J1 d1).setCell ⟨w.heap.size + 1, 0, none⟩ (.slice x n c)) _ _ ps :=
    h1.set (by simp) _
  rw [hpl]
  have h3 := h2.base (base' := w.heap.size) (by simp; omega)
  simpa [go_sem] using h3
def PRow (base T : Nat) (w : World) (v : Value) (m : Nat) : Prop := (v = .slice none 0 0 ∧ m = 0) ∨ ∃ g cap cur, v = .slice (some ⟨g, 0, none⟩) m cap ∧ base ≤ g ∧ g < T ∧ w.heap[g]? = some (.cells cur 42 (0, 0)) ∧ m ≤ cap ∧ cur.size = cap * 2
theorem set_heap {w : World} {b o : Nat} {u : Value} {cur : Array Value} {ty : TypeId} (h : w.heap[b]? = some (.cells cur ty (0, 0))) : ∃ cur', (w.setCell ⟨b, o, none⟩ u).heap[b]? = some (.cells cur' ty (0, 0)) ∧ cur'.size = cur.size := by
  obtain ⟨hlt, hk⟩ := Array.getElem?_eq_some_iff.1 h
  refine ⟨cur.setIfInBounds o u, ?_, by simp⟩
  show (w.heap.modify b _)[b]? = _
  rw [Array.getElem?_eq_getElem (by rw [Array.size_modify]; exact hlt), Array.getElem_modify_self, hk]
  rfl
theorem PRow.set {base T : Nat} {w : World} {v : Value} {m : Nat} (h : PRow base T w v m) (b o : Nat) (u : Value) : PRow base T (w.setCell ⟨b, o, none⟩ u) v m := by
  rcases h with h | ⟨g, cap, cur, h1, h2, h3, h4, h5, h6⟩
  · exact .inl h
  · by_cases e : g = b
    · subst e
      obtain ⟨cur', k1, k2⟩ := set_heap (o := o) (u := u) h4
      exact .inr ⟨g, cap, cur', h1, h2, h3, k1, h5, by rw [k2]; exact h6⟩
    · exact .inr ⟨g, cap, cur, h1, h2, h3, (Below.heap_setCell _ _ _ _ e).trans h4, h5, h6⟩
structure KeptR (base T : Nat) (w w' : World) : Prop where
  low : Below base w w'
  high : ∀ k, T ≤ k → k < w.heap.size → w'.heap[k]? = w.heap[k]?
structure OvK (W : World) (base T rb : Nat) (ps : List (Value × List Pt)) (wr : World) : Prop where
  kept : KeptR base T W wr
  row : wr.heap[rb]? = W.heap[rb]?
  each : ∀ p ∈ ps, PRow base T wr p.1 p.2.length
theorem OvK.set {W : World} {base T rb : Nat} {ps : List (Value × List Pt)} {wr : World} (h : OvK W base T rb ps wr) {g : Nat} (h1 : base ≤ g) (h2 : g < T) (h3 : g ≠ rb) (o : Nat) (u : Value) : OvK W base T rb ps (wr.setCell ⟨g, o, none⟩ u) :=
  ⟨⟨h.kept.low.setCell h1 _, fun k hk hl => (Below.heap_setCell _ _ _ k (show k ≠ g by omega)).trans (h.kept.high k hk hl)⟩, (Below.heap_setCell _ _ _ rb (fun e => h3 e.symm)).trans h.row, fun p hp => (h.each p hp).set _ _ _⟩
def OvO (W : World) (base T rb : Nat) (ps : List (Value × List Pt)) (x : Value) (wr : World) : Prop := ∃ k : Nat, x = .int .i64 (k : Int) ∧ k ≤ ps.length ∧ OvK W base T rb ps wr
def OvI (W : World) (base T rb : Nat) (ps : List (Value × List Pt)) (m : Nat) (x : Value) (wr : World) : Prop := ∃ k : Nat, x = .int .i64 (k : Int) ∧ k ≤ m ∧ OvK W base T rb ps wr
end

section
set_option linter.unusedVariables false
set_option linter.unusedSimpArgs false
open Go.RowKit
def sqR (a b : Int) : List Pt := [(a, a), (b, a), (b, b), (a, b)]
def smpR : List (List Pt) := [sqR 0 9, sqR 2 4]
end

section
set_option linter.unusedVariables false
set_option linter.unusedSimpArgs false
open Go.RowKit
theorem fineR_ok {R : List (List Pt)} (hf : regFine R) : ∀ p ∈ R.flatten, okC p = true := by
  intro p hp
  obtain ⟨K, hK, hp⟩ := List.mem_flatten.1 hp
  obtain ⟨i, hi, e⟩ := List.mem_iff_getElem.1 hp
  have := (hf.each K hK).ok i hi
  rw [List.getD_eq_getElem?_getD, List.getElem?_eq_getElem hi, Option.getD_some, e] at this
  exact this
theorem fine_fit {R : List (List Pt)} (hf : regFine R) : ∀ p ∈ R.flatten, -1099511627775 ≤ p.2 ∧ p.2 ≤ 1099511627775 := fun p hp => by
  have := fineR_ok hf p hp
  unfold okC at this
  exact (okP_iff.1 this).2
theorem fine_fit2 {R : List (List Pt)} (hf : regFine R) : ∀ p ∈ R.flatten, -9223372036854775808 ≤ p.2 ∧ p.2 ≤ 9223372036854775807 := fun p hp => by
  have := fine_fit hf p hp; omega
theorem fine_bnd2 {R : List (List Pt)} (hf : regFine R) : bndOk R.flatten = true := by
  unfold bndOk
  rw [Bool.and_eq_true]
  refine ⟨decide_eq_true (flat_pos hf), ?_⟩
  unfold allOk
  rw [List.all_eq_true]
  intro p hp
  exact fineR_ok hf p hp
theorem fldS_0 (x y : Int) (w : World) : (Instr.field 33 (.agg #[.int .i64 x, .int .i64 y]) 0).run Tryz.prog w = .ok (.int .i64 x) w := by kernel_rfl
attribute [go_sem] fldS_0
def StAt (W : World) (H : List Int) (m : Nat) (x y : Value) (wr : World) : Prop := ∃ k : Nat, y = .int .i64 (k : Int) ∧ k ≤ m ∧ x = .int .i64 (H.getD k 0) ∧ Cls W wr
end

section
set_option linter.unusedVariables false
set_option linter.unusedSimpArgs false
open Go.RowKit
def FnAt (W : World) (m : Nat) (x : Value) (wr : World) : Prop := ∃ k : Nat, x = .int .i64 (k : Int) ∧ k ≤ m ∧ Cls W wr
end

section
set_option linter.unusedVariables false
set_option linter.unusedSimpArgs false
open Go.RowKit
theorem k_PickS (w : World) (x n : Int) (hx : -9223372036854775808 ≤ x ∧ x ≤ 9223372036854775807) (hn : -9223372036854775808 ≤ n ∧ n ≤ 9223372036854775807) :
    Calls Tryz.prog 24 #[.int .i64 x, .int .i64 n] w fun e w' => e = .returned (.int .i64 (if n < 1 then 0 else x % n)) ∧ Junk w w' := by
  obtain ⟨x0, x1⟩ := hx
  obtain ⟨n0, n1⟩ := hn
  by_cases c1 : n < 1
  · rw [if_pos c1]
    clear x0 x1 n0 n1
    go_enter Tryz.func24, Tryz.ntmps24
    go_wp2
    go_ret
    exact ⟨rfl, junk_of_below (by (repeat' first | with_reducible (first | apply Below.refl | assumption | apply bw_a | apply bw_d | apply bw_n | apply bw_p | apply bw_c | apply bw_r) | go_size))⟩
  rw [if_neg c1]
  obtain ⟨m, hm⟩ : ∃ m, x.tmod n = m := ⟨_, rfl⟩
  obtain ⟨d, hd⟩ : ∃ d, x % n = d := ⟨_, rfl⟩
  have hnz : n ≠ 0 := by omega
  have hnz2 : (n == 0) = false := beq_eq_false_iff_ne.2 hnz
  have hd0 := Int.emod_nonneg x hnz
  have hd1 := Int.emod_lt_of_pos x (show 0 < n by omega)
  have ht : m = d ∨ (m < 0 ∧ m + n = d) := by
    rw [← hm, ← hd]
    rcases Int.lt_or_le x 0 with h | h
    · by_cases hz : x % n = 0
      · left
        have := Int.dvd_of_emod_eq_zero hz
        rw [hz, Int.tmod_eq_emod]; simp [this, hz]
      · right
        have hnd : ¬ n ∣ x := fun h => hz (Int.emod_eq_zero_of_dvd h)
        have : (n.natAbs : Int) = n := by omega
        rw [Int.tmod_eq_emod, if_neg (by omega), this]
        omega
    · left
      exact Int.tmod_eq_emod_of_nonneg h
  rw [hd] at hd0 hd1 ⊢
  have e1 : x % n = d := hd
  rcases ht with ht | ⟨ht1, ht2⟩
  · subst ht
    clear hd
    go_enter Tryz.func24, Tryz.ntmps24
    go_wp2
    go_ret
    exact ⟨rfl, junk_of_below (by (repeat' first | with_reducible (first | apply Below.refl | assumption | apply bw_a | apply bw_d | apply bw_n | apply bw_p | apply bw_c | apply bw_r) | go_size))⟩
  · have e2 : IntKind.i64.wrap (m + n) = m + n := by simp [IntKind.wrap, IntKind.signed, IntKind.bits]; omega
    clear hd e1
    go_enter Tryz.func24, Tryz.ntmps24
    go_wp2
    go_ret
    exact ⟨rfl, junk_of_below (by (repeat' first | with_reducible (first | apply Below.refl | assumption | apply bw_a | apply bw_d | apply bw_n | apply bw_p | apply bw_c | apply bw_r) | go_size))⟩
def GBlk (w : World) (g : Nat) (v : Value) : Prop := w.heap[g]? = some (.cells #[v] 28 (0, 0))
section
variable {w w' : World} {g : Nat} {v : Value}
end
def SmO (W : World) (hb : Nat) (T : List (List Pt)) (m : Nat) (x : Value) (wr : World) : Prop := ∃ (k : Nat) (v : Value) (ps : List (Value × List Pt)), x = .int .i64 (k : Int) ∧ k ≤ m ∧ GBlk wr hb v ∧ GOwn wr (hb + 1) v ps ∧ ps.map (·.2) = T.take k ∧ Below hb W wr
def SmI (W : World) (K : List Pt) (v x : Value) (wr : World) : Prop := ∃ k : Nat, x = .int .i64 (k : Int) ∧ k ≤ K.length ∧ wr.ownsRow W.heap.size 42 2 v k (pcells (K.take k)) ∧ Below W.heap.size W wr
end
end Go.Proofs.YthphdiigjimchaaGreat

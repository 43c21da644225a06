/- slices.IndexFunc, slices.DeleteFunc over a row of numbers of the call's own: the predicate may change what lies outside the row. Package index: At. -/
import Derived.Test.YthphdiigjimchaaGreatBtRef
import Derived.Lib.SliceRun
import Derived.Test.YthphdiigjimchaaGreatIxOne
namespace Go.Proofs.YthphdiigjimchaaGreat
section
set_option linter.unusedVariables false
set_option linter.unusedSimpArgs false
open Go.RowKit
def FirstP (p : Nat → Bool) (S : List Nat) (z : Int) : Prop := (z = -1 ∧ ∀ i ∈ S, p i = false) ∨ ∃ k : Nat, z = k ∧ k < S.length ∧ p (S.getD k 0) = true ∧ ∀ j, j < k → p (S.getD j 0) = false
theorem mem_getN {S : List Nat} {k : Nat} (h : k < S.length) : S.getD k 0 ∈ S := by rw [List.getD_eq_getElem?_getD, List.getElem?_eq_getElem h]; exact List.getElem_mem h
def IfAt (I : World → Prop) (g : Nat) (w : World) (S : List Nat) (p : Nat → Bool) (y : Value) (wr : World) : Prop := ∃ k : Nat, y = .int .i64 (k : Int) ∧ k ≤ S.length ∧ I wr ∧ wr.heap[g]? = w.heap[g]? ∧ ∀ j, j < k → p (S.getD j 0) = false
set_option maxRecDepth 100000 in
set_option maxHeartbeats 2000000 in
theorem n_slIndexFunc (g n c : Nat) (S : List Nat) (hS : S.length = n) (hn : n ≤ 1000) (p : Nat → Bool) (f : Nat) (lb : Array Value) (ef : ∀ args w, (callFunc f args).run Tryz.prog w = .ok (.enter f args) w) (I : World → Prop) (w : World) (hw : I w)
    (hc : ∀ j, j < n → w.cell? ⟨g, j, none⟩ = some (.int .i64 (S.getD j 0 : Nat)))
    (hI : ∀ W, I W → ∀ i ∈ S, Calls Tryz.prog f (#[.int .i64 (i : Int)] ++ lb) W fun e W' => e = .returned (.bool (p i)) ∧ I W' ∧ W'.heap[g]? = W.heap[g]?) :
    Calls Tryz.prog 52 #[.slice (some ⟨g, 0, none⟩) n c, .func (.func f) #[] lb] w fun e w' => (∃ z, e = .returned (.int .i64 z) ∧ FirstP p S z) ∧ I w' ∧ w'.heap[g]? = w.heap[g]? := by
  have HI := Lib.hid hI
  have HC := Lib.hid hc
  clear hI hc
  go_enter Tryz.func52, Tryz.ntmps52
  go_wp2
  go_loopw [5, 8] (fun _ y wr => IfAt I g w S p y wr) (fun _ y _ => n - (intOf y).toNat)
  case atStart => exact ⟨0, rfl, Nat.zero_le _, hw, rfl, fun j hj => absurd hj (Nat.not_lt_zero _)⟩
  case round =>
    obtain ⟨k, rfl, hk, hi, hg, hp⟩ := hrel
    have HP := Lib.hid hp
    have HG := Lib.hid hg
    by_cases hlt : k < n
    · have c1 := (World.cell?_of_block (a := ⟨g, k, none⟩) hg).trans (HC.out k hlt)
      have hcall := HI.out _ hi (S.getD k 0) (mem_getN (by omega))
      have HY := Lib.hid (show S.getD k 0 = S.getD k 0 from rfl)
      obtain ⟨y, hy⟩ : ∃ y, S.getD k 0 = y := ⟨_, rfl⟩
      rw [hy] at c1 hcall
      have HYY := Lib.hid hy
      have i1 : (k : Int) < (n : Int) := by omega
      clear hp hg hy hi HY
      cases hq : p y with
      | true =>
        rw [hq] at hcall
        go_wp2_with (go_at_fn f; refine hcall.mono ?_; rintro e w' ⟨rfl, hi', hg'⟩)
        go_ret
        exact ⟨⟨_, rfl, .inr ⟨k, rfl, by omega, by rw [HYY.out]; exact hq, HP.out⟩⟩, hi', hg'.trans HG.out⟩
      | false =>
        rw [hq] at hcall
        go_wp2_with (go_at_fn f; refine hcall.mono ?_; rintro e w' ⟨rfl, hi', hg'⟩)
        go_roundw
        case rel => exact ⟨k + 1, by go_num, by omega, hi', hg'.trans HG.out, fun j hj => by
          by_cases e : j = k
          · subst e; rw [HYY.out]; exact hq
          · exact HP.out j (by omega)⟩
        case measure => simp [intOf]; omega
    · obtain rfl : k = n := by omega
      have i1 : ¬ (k : Int) < (k : Int) := by omega
      go_wp2
      go_ret
      exact ⟨⟨_, rfl, .inl ⟨rfl, fun i hi2 => by
        obtain ⟨j, hj, e⟩ := List.mem_iff_getElem.1 hi2
        have := HP.out j (by omega)
        rw [List.getD_eq_getElem?_getD, List.getElem?_eq_getElem hj, Option.getD_some, e] at this
        exact this⟩⟩, hi, hg⟩
theorem own_of_cells {w : World} {base g c : Nat} {K : List Nat} (hb : base ≤ g) (hc : ∃ cur, w.heap[g]? = some (.cells cur 3 (0, 0)) ∧ cur.size = c * 1) (hm : K.length ≤ c) (hcm : c ≤ maxLen)
    (hk : ∀ t, t < K.length → w.cell? ⟨g, t, none⟩ = some (.int .i64 (K.getD t 0 : Nat))) : w.ownsRow base 3 1 (.slice (some ⟨g, 0, none⟩) K.length c) K.length (ints (nums K)) := by
  obtain ⟨cur, hcur, hs⟩ := hc
  refine ⟨by simp [ints, nums], .inr ⟨g, c, cur, rfl, hb, hcur, hm, hcm, hs, ?_⟩⟩
  rw [Nat.mul_one]
  apply List.ext_getElem?
  intro t
  by_cases h : t < K.length
  · have e := hk t h
    simp [World.cell?, hcur] at e
    rw [List.getElem?_take_of_lt h]
    unfold ints nums
    rw [List.getElem?_map, List.getElem?_map, List.getElem?_eq_getElem h]
    rw [List.getElem?_eq_getElem h, Option.getD_some] at e
    simpa using e
  · rw [List.getElem?_eq_none (by rw [List.length_take]; omega), List.getElem?_eq_none (by simp [ints, nums]; omega)]
theorem set_shape {w : World} {g o csz : Nat} {u : Value} (h : ∃ cur, w.heap[g]? = some (.cells cur 3 (0, 0)) ∧ cur.size = csz) : ∃ cur, (w.setCell ⟨g, o, none⟩ u).heap[g]? = some (.cells cur 3 (0, 0)) ∧ cur.size = csz := by
  obtain ⟨cur, h1, h2⟩ := h
  obtain ⟨hlt, hk⟩ := Array.getElem?_eq_some_iff.1 h1
  refine ⟨cur.setIfInBounds o u, ?_, by simpa using h2⟩
  show (w.heap.modify g _)[g]? = _
  rw [Array.getElem?_eq_getElem (by rw [Array.size_modify]; exact hlt), Array.getElem_modify_self, hk]
  rfl
theorem cells_shape {g csz : Nat} : ∀ (vs : List Value) (o : Nat) (w : World), (∃ cur, w.heap[g]? = some (.cells cur 3 (0, 0)) ∧ cur.size = csz) → (∃ cur, (w.setCells g o vs).heap[g]? = some (.cells cur 3 (0, 0)) ∧ cur.size = csz) ∧ (∀ k, k ≠ g → (w.setCells g o vs).heap[k]? = w.heap[k]?) ∧ (w.setCells g o vs).heap.size = w.heap.size ∧ Below g w (w.setCells g o vs)
  | [], _, _, h => ⟨h, fun _ _ => rfl, rfl, Below.refl _ _⟩
  | v :: r, o, w, h => by
    obtain ⟨h1, h2, h3, h4⟩ := cells_shape r (o + 1) (w.setCell ⟨g, o, none⟩ v) (set_shape h)
    exact ⟨h1, fun k hk => (h2 k hk).trans (Below.heap_setCell _ _ _ k hk), h3.trans (by simp), ((Below.refl g w).setCell (Nat.le_refl _) v).trans h4⟩
theorem keep_snoc {p : Nat → Bool} {S : List Nat} {j : Nat} (hj : j < S.length) : (S.take (j + 1)).filter (fun i => !p i) = (S.take j).filter (fun i => !p i) ++ (if p (S.getD j 0) then [] else [S.getD j 0]) := by
  rw [List.take_succ_eq_append_getElem hj, List.filter_append]
  have e : S.getD j 0 = S[j] := by rw [List.getD_eq_getElem?_getD, List.getElem?_eq_getElem hj]; rfl
  rw [e]
  cases h : p S[j] <;> simp [h]
def DfAt (I : World → Prop) (g csz : Nat) (S : List Nat) (p : Nat → Bool) (x y : Value) (wr : World) : Prop := ∃ (j : Nat) (K : List Nat), y = .int .i64 (j : Int) ∧ x = .int .i64 (K.length : Nat) ∧ K = (S.take j).filter (fun i => !p i) ∧ K.length < j ∧ j ≤ S.length ∧ I wr ∧
  (∃ cur, wr.heap[g]? = some (.cells cur 3 (0, 0)) ∧ cur.size = csz) ∧ (∀ t, t < K.length → wr.cell? ⟨g, t, none⟩ = some (.int .i64 (K.getD t 0 : Nat))) ∧ ∀ t, K.length ≤ t → t < S.length → ∃ u : Nat, wr.cell? ⟨g, t, none⟩ = some (.int .i64 (u : Int)) ∧ (j ≤ t → u = S.getD t 0)
theorem shape_frozen {w : World} {g csz : Nat} (h : ∃ cur, w.heap[g]? = some (.cells cur 3 (0, 0)) ∧ cur.size = csz) (j : Nat) : w.frozen? ⟨g, j, none⟩ = false := by
  obtain ⟨cur, h, _⟩ := h; simp [World.frozen?, h]
theorem shape_of {w w' : World} {g csz : Nat} (h : ∃ cur, w.heap[g]? = some (.cells cur 3 (0, 0)) ∧ cur.size = csz) (e : w'.heap[g]? = w.heap[g]?) : ∃ cur, w'.heap[g]? = some (.cells cur 3 (0, 0)) ∧ cur.size = csz := by
  obtain ⟨cur, h, h2⟩ := h; exact ⟨cur, e.trans h, h2⟩
set_option maxRecDepth 100000 in
set_option maxHeartbeats 4000000 in
theorem n_slDeleteFunc (g n c : Nat) (S : List Nat) (hS : S.length = n) (hn : n ≤ 1000) (hc0 : n ≤ c) (hcm : c ≤ maxLen) (p : Nat → Bool) (f : Nat) (lb : Array Value) (ef : ∀ args w, (callFunc f args).run Tryz.prog w = .ok (.enter f args) w) (I : World → Prop) (w : World) (hw : I w)
    (base : Nat) (hb : base ≤ g) (hsh : ∃ cur, w.heap[g]? = some (.cells cur 3 (0, 0)) ∧ cur.size = c * 1)
    (hc : ∀ j, j < n → w.cell? ⟨g, j, none⟩ = some (.int .i64 (S.getD j 0 : Nat)))
    (hI : ∀ W, I W → ∀ i ∈ S, Calls Tryz.prog f (#[.int .i64 (i : Int)] ++ lb) W fun e W' => e = .returned (.bool (p i)) ∧ I W' ∧ W'.heap[g]? = W.heap[g]?)
    (hset : ∀ W W', I W → Below g W W' → (∀ k, k ≠ g → W'.heap[k]? = W.heap[k]?) → W'.heap.size = W.heap.size → I W') :
    Calls Tryz.prog 35 #[.slice (some ⟨g, 0, none⟩) n c, .func (.func f) #[] lb] w fun e w' => (∃ m, e = .returned (.slice (some ⟨g, 0, none⟩) m c) ∧ m = (S.filter fun i => !p i).length ∧ w'.ownsRow base 3 1 (.slice (some ⟨g, 0, none⟩) m c) m (ints (nums (S.filter fun i => !p i)))) ∧ I w' := by
  have HF := Lib.hid (n_slIndexFunc g n c S hS hn p f lb ef I w hw hc hI)
  have HI := Lib.hid hI
  have HSet := Lib.hid hset
  have HSh := Lib.hid hsh
  have HC := Lib.hid hc
  have hzv : ∀ w, (zeroValue 3).run Tryz.prog w = .ok (.int .i64 0) w := fun w => by kernel_rfl
  clear hI hset hsh hc hw
  go_enter Tryz.func35, Tryz.ntmps35
  go_upto_region 2 with (go_at_call 52; refine HF.out.mono ?_; rintro e w1 ⟨⟨z, rfl, hz⟩, hi, hg⟩; have HG1 := Lib.hid hg; have HZ := Lib.hid hz; clear hg hz)
  rcases HZ.out with ⟨rfl, hall⟩ | ⟨k0, rfl, hk0, ht, hall⟩
  · have HN := Lib.hid (show (S.filter fun i => !p i) = S from List.filter_eq_self.2 fun i h => by rw [hall i h]; rfl)
    clear hall
    go_wp2_with fail
    go_ret
    rw [HN.out]
    refine ⟨⟨n, rfl, hS.symm, ?_⟩, hi⟩
    subst hS
    exact own_of_cells hb (shape_of HSh.out HG1.out) hc0 hcm fun t ht => (World.cell?_of_block (a := ⟨g, t, none⟩) HG1.out).trans (HC.out t ht)
  · have e1 : ((k0 : Int) == -1) = false := beq_eq_false_iff_ne.2 (by omega)
    have e2 : ¬ ((k0 : Int) = -1) := by omega
    have hst : (S.take (k0 + 1)).filter (fun i => !p i) = S.take k0 := by
      rw [keep_snoc hk0, ht, if_pos rfl, List.append_nil, List.filter_eq_self]
      intro i hi2
      obtain ⟨j, hj, e⟩ := List.mem_iff_getElem.1 hi2
      rw [List.length_take] at hj
      have := hall j (by omega)
      rw [List.getD_eq_getElem?_getD, List.getElem?_eq_getElem (by omega), Option.getD_some] at this
      rw [List.getElem_take] at e
      rw [← e, this]
      rfl
    have HSt := Lib.hid hst
    have hw1 : w1.heap[g]? = w.heap[g]? := HG1.out
    have HS1 := Lib.hid (shape_of HSh.out hw1)
    have HC1 := Lib.hid (fun t (h : t < n) => (World.cell?_of_block (a := ⟨g, t, none⟩) hw1).trans (HC.out t h))
    have hk0n : k0 < n := by omega
    have HI1 := Lib.hid hi
    clear hst ht hall hw1 HC HF HSh HG1 HZ hk0
    go_wp2_with fail
    go_loopw [5, 6] (fun x y wr => DfAt I g (c * 1) S p x y wr) (fun _ y _ => n - (intOf y).toNat)
    case atStart =>
      refine ⟨k0 + 1, S.take k0, by go_num, by rw [List.length_take]; congr 1; omega, HSt.out.symm, by rw [List.length_take]; omega, by omega, hi, HS1.out, fun t ht => ?_, fun t h1 h2 => ⟨_, HC1.out t (by omega), fun _ => rfl⟩⟩
      rw [List.length_take] at ht
      rw [HC1.out t (by omega), List.getD_eq_getElem?_getD, List.getD_eq_getElem?_getD, List.getElem?_take_of_lt (by omega)]
    case round =>
      obtain ⟨j, K, rfl, rfl, hK, hKl, hj, hi, hsh, hkc, hrc⟩ := hrel
      have HKd := Lib.hid hK
      have HCk := Lib.hid hkc
      have HCr := Lib.hid hrc
      have HSh := Lib.hid hsh
      clear hK
      by_cases hlt : j < n
      · have hjS : j < S.length := by omega
        obtain ⟨u, cj, hu⟩ := hrc j (by omega) hjS
        have hu := hu (Nat.le_refl _)
        obtain ⟨o, ci, _⟩ := hrc K.length (Nat.le_refl _) (by omega)
        have hcall := HI.out _ hi (S.getD j 0) (mem_getN hjS)
        have hks := keep_snoc (p := p) hjS
        rw [← HKd.out] at hks
        rw [hu] at cj
        have HU := Lib.hid hu
        obtain ⟨y, hy⟩ : ∃ y, S.getD j 0 = y := ⟨_, rfl⟩
        rw [hy] at cj hcall hks
        have HY := Lib.hid hy
        have HKs := Lib.hid hks
        have i1 : (j : Int) < (n : Int) := by omega
        have hin : K.length < n := by omega
        have lg := World.block_lt_of_cell? _ _ cj
        clear hsh hkc hrc hu hy hks
        cases hq : p y with
        | false =>
          rw [hq] at hcall
          have HQ := Lib.hid hq
          clear hq
          go_wp2_with (go_at_fn f; refine hcall.mono ?_; rintro e w' ⟨rfl, hi', hg'⟩; have c2 := (World.cell?_of_block (a := ⟨g, K.length, none⟩) hg').trans ci; have f2 := shape_frozen (shape_of HSh.out hg') K.length; have HG' := Lib.hid hg'; clear hg')
          go_roundw
          case rel =>
            have hks := HKs.out
            rw [HQ.out, if_neg (by decide)] at hks
            have hco : ∀ t, t ≠ K.length → (w'.setCell ⟨g, K.length, none⟩ (.int .i64 (y : Int))).cell? ⟨g, t, none⟩ = wr.cell? ⟨g, t, none⟩ := fun t ht => by
              rw [World.cell?_setCell_other _ _ _ _ (fun e => by injection e with _ e _; omega)]
              exact World.cell?_of_block (a := ⟨g, t, none⟩) HG'.out
            refine ⟨j + 1, K ++ [y], by go_num, by rw [List.length_append]; go_num, hks.symm, by rw [List.length_append, List.length_singleton]; omega, by omega, HSet.out _ _ hi' (by (repeat' first | with_reducible (first | apply Below.refl | assumption | apply bw_a | apply bw_d | apply bw_n | apply bw_p | apply bw_c | apply bw_r) | go_size)) (fun k hk => Below.heap_setCell _ _ _ k hk) (by simp), set_shape (shape_of HSh.out HG'.out), fun t ht => ?_, fun t h1 h2 => ?_⟩
            · rw [List.length_append, List.length_singleton] at ht
              by_cases e : t = K.length
              · subst e
                rw [World.cell?_setCell_same _ _ _ c2, List.getD_eq_getElem?_getD, List.getElem?_append_right (Nat.le_refl _), Nat.sub_self]; rfl
              · rw [hco t e, HCk.out t (by omega), List.getD_eq_getElem?_getD, List.getD_eq_getElem?_getD, List.getElem?_append_left (by omega)]
            · rw [List.length_append, List.length_singleton] at h1
              obtain ⟨u', k1, k2⟩ := HCr.out t (by omega) h2
              exact ⟨u', (hco t (by omega)).trans k1, fun h => k2 (by omega)⟩
          case measure => simp [intOf]; omega
        | true =>
          rw [hq] at hcall
          have HQ := Lib.hid hq
          clear hq
          go_wp2_with (go_at_fn f; refine hcall.mono ?_; rintro e w' ⟨rfl, hi', hg'⟩; have HG' := Lib.hid hg'; clear hg')
          go_roundw
          case rel =>
            have hks := HKs.out
            rw [HQ.out, if_pos rfl, List.append_nil] at hks
            exact ⟨j + 1, K, by go_num, rfl, hks.symm, by omega, by omega, hi', shape_of HSh.out HG'.out, fun t ht => (World.cell?_of_block (a := ⟨g, t, none⟩) HG'.out).trans (HCk.out t ht), fun t h1 h2 => by
              obtain ⟨u', k1, k2⟩ := HCr.out t h1 h2
              exact ⟨u', (World.cell?_of_block (a := ⟨g, t, none⟩) HG'.out).trans k1, fun h => k2 (by omega)⟩⟩
          case measure => simp [intOf]; omega
      · obtain rfl : j = n := by omega
        have i1 : ¬ (j : Int) < (j : Int) := by omega
        have hcl : ∀ ty, (Builtin.clear_ #[39] ty #[.slice (some ⟨g, K.length, none⟩) (j - K.length) (c - K.length)]).run Tryz.prog wr = .ok (.tuple #[]) (wr.setCells g K.length (List.replicate (j - K.length) (.int .i64 0))) := fun ty =>
          Lib.run_clear_slice wr 39 3 ty _ Tryz.underlying39 hzv rfl rfl g K.length _ _ (by omega) (fun t ht => by
            obtain ⟨u, h1, _⟩ := hrc (K.length + t) (by omega) (by omega)
            rw [h1]; rfl) (fun t _ => shape_frozen hsh _)
        have hKe : K = S.filter fun i => !p i := by rw [HKd.out, List.take_of_length_le (by omega)]
        have HKe := Lib.hid hKe
        obtain ⟨s1, s2, s3, s4⟩ := cells_shape (List.replicate (j - K.length) (Value.int .i64 0)) K.length wr hsh
        have HIe := Lib.hid (HSet.out _ _ hi s4 s2 s3)
        have HSe := Lib.hid s1
        have hck : ∀ t, t < K.length → (wr.setCells g K.length (List.replicate (j - K.length) (Value.int .i64 0))).cell? ⟨g, t, none⟩ = some (.int .i64 (K.getD t 0 : Nat)) := fun t ht => by
          rw [World.cell?_setCells_out g _ _ _ _ (fun _ _ => Or.inl ht)]
          exact hkc t ht
        have HCe := Lib.hid hck
        have ik : (K.length : Int) ≤ (j : Int) := by omega
        clear hsh hkc hrc hKe s1 s2 s3 s4 hck hi
        go_wp2_with fail
        go_ret
        rw [← HKe.out]
        exact ⟨⟨_, rfl, rfl, own_of_cells hb HSe.out (by omega) hcm HCe.out⟩, HIe.out⟩
end

section
set_option linter.unusedVariables false
set_option linter.unusedSimpArgs false
open Go.RowKit
set_option maxRecDepth 100000 in
theorem n_slIndexNil (fv : Value) (w : World) : Calls Tryz.prog 52 #[.slice none 0 0, fv] w fun e w' => e = .returned (.int .i64 (-1)) ∧ w' = w := by
  go_enter Tryz.func52, Tryz.ntmps52
  go_wp2
  go_loopw [5, 8] (fun _ y wr => y = .int .i64 0 ∧ wr = w) (fun _ _ _ => 0)
  case atStart => exact ⟨rfl, rfl⟩
  case round =>
    obtain ⟨rfl, rfl⟩ := hrel
    go_wp2
    go_ret
    exact ⟨rfl, rfl⟩
set_option maxRecDepth 100000 in
theorem n_slDeleteNil (fv : Value) (w : World) : Calls Tryz.prog 35 #[.slice none 0 0, fv] w fun e w' => e = .returned (.slice none 0 0) ∧ w' = w := by
  have H := Lib.hid (n_slIndexNil fv w)
  go_enter Tryz.func35, Tryz.ntmps35
  go_wp2_with (go_at_call 52; refine H.out.mono ?_; rintro e w1 ⟨rfl, hw⟩; rw [hw]; clear hw)
  go_ret
  exact ⟨rfl, rfl⟩
section
variable {w : World} {base xb : Nat} {L : List (List (List Pt))} {U : Nat → Prop}
set_option maxRecDepth 100000 in
theorem n_ixAt1 (h : IxS w base xb L U) {i : Nat} (hi : i < L.length) (px py : Int) (gx gp : Nat) (cx : w.cell? ⟨gx, 0, none⟩ = some (.pointer (some ⟨xb, 0, none⟩))) (c0 : w.cell? ⟨gp, 0, none⟩ = some (.int .i64 px)) (c1 : w.cell? ⟨gp, 1, none⟩ = some (.int .i64 py)) :
    Calls Tryz.prog 36 #[.int .i64 (i : Int), .pointer (some ⟨gx, 0, none⟩), .pointer (some ⟨gp, 0, none⟩)] w fun e w' =>
      (∃ U', e = .returned (.bool (!regQ (px, py) (L.getD i []))) ∧ IxS w' base xb L U' ∧ UGrow w w' U U') ∧ KeptU U base w w' := by
  have HC := Lib.hid (n_ixContains h hi px py)
  have l0 := World.block_lt_of_cell? _ _ cx
  have l1 := World.block_lt_of_cell? _ _ c0
  clear h
  generalize regQ (px, py) (L.getD i []) = r at *
  unfold pt at *
  go_enter Tryz.func36, Tryz.ntmps36
  go_wp2_with (go_at_call 37; refine HC.out.mono ?_; rintro e w1 ⟨⟨U', rfl, h1, h2⟩, h3⟩; have HH := Lib.hid (And.intro h1 (And.intro h2 h3)); clear h1 h2 h3)
  go_ret
  exact ⟨⟨U', rfl, HH.out.1, HH.out.2.1⟩, HH.out.2.2⟩
def AtI (base xb g : Nat) (L : List (List (List Pt))) (U : Nat → Prop) (W2 wr : World) : Prop := ∃ U', IxS wr base xb L U' ∧ UGrow W2 wr U U' ∧ Below base W2 wr ∧ ∀ k, k < W2.heap.size → ¬ U k → k ≠ g → wr.heap[k]? = W2.heap[k]?
set_option maxRecDepth 100000 in
set_option maxHeartbeats 4000000 in
theorem i_at (h : IxS w base xb L U) (px py : Int) : Calls Tryz.prog 15 #[.pointer (some ⟨xb, 0, none⟩), pt px py] w fun e w' =>
    (∃ v U', e = .returned v ∧ IOwn w w' v (hasR (px, py) L) ∧ IxS w' base xb L U' ∧ UGrow w w' U U' ∧ ∀ g n c, v = .slice (some ⟨g, 0, none⟩) n c → ¬ U' g) ∧ KeptU U base w w' := by
  have hfi := h.each
  have HF := Lib.hid (has_filter hfi.2 (px, py))
  have HN := Lib.hid (fun (W : World) (h : IxS W base xb L U) => i_near h px py)
  have hlt := near_lt (L := L) (px, py)
  have hln := near_len (L := L) (px, py)
  have HH := Lib.hid h
  have hat := h.at
  have HA := Lib.hid hat
  have hbase : base ≤ w.heap.size := by
    obtain ⟨_, _, V, ra, rc, sa, sc, fa, fc, hV, hC, hR⟩ := h
    have := hat xb (hV xb hC.vx)
    omega
  have HD : ∀ (W2 : World) (v : Value), IOwn ((w.alloc (.cells #[.pointer (some ⟨xb, 0, none⟩)] 30)).alloc (.cells #[.int .i64 px, .int .i64 py] 42)) W2 v (nearR (px, py) L) → Junk ((w.alloc (.cells #[.pointer (some ⟨xb, 0, none⟩)] 30)).alloc (.cells #[.int .i64 px, .int .i64 py] 42)) W2 →
      Calls Tryz.prog 35 #[v, .func (.func 36) #[] #[.pointer (some ⟨w.heap.size, 0, none⟩), .pointer (some ⟨w.heap.size + 1, 0, none⟩)]] W2 fun e w' =>
        (∃ v U', e = .returned v ∧ IOwn w w' v (hasR (px, py) L) ∧ IxS w' base xb L U' ∧ UGrow w w' U U' ∧ ∀ g n c, v = .slice (some ⟨g, 0, none⟩) n c → ¬ U' g) ∧ KeptU U base w w' := by
    intro W2 v ho hj
    obtain ⟨W1, hW1⟩ : ∃ W1, (w.alloc (.cells #[.pointer (some ⟨xb, 0, none⟩)] 30)).alloc (.cells #[.int .i64 px, .int .i64 py] 42) = W1 := ⟨_, rfl⟩
    have cx : W1.cell? ⟨w.heap.size, 0, none⟩ = some (.pointer (some ⟨xb, 0, none⟩)) := by rw [← hW1]; simp [go_sem]
    have c0 : W1.cell? ⟨w.heap.size + 1, 0, none⟩ = some (.int .i64 px) := by rw [← hW1]; simp [go_sem]
    have c1 : W1.cell? ⟨w.heap.size + 1, 1, none⟩ = some (.int .i64 py) := by rw [← hW1]; simp [go_sem]
    have hz : W1.heap.size = w.heap.size + 2 := by rw [← hW1]; simp
    have hb1 : Below w.heap.size w W1 := by rw [← hW1]; (repeat' first | with_reducible (first | apply Below.refl | assumption | apply bw_a | apply bw_d | apply bw_n | apply bw_p | apply bw_c | apply bw_r) | go_size)
    rw [hW1] at ho hj
    clear hW1
    have hb2 := hj.below
    have hsz := hb2.size
    have hbw : Below w.heap.size w W2 := hb1.trans (hb2.mono (by omega))
    have hx2 : IxS W2 base xb L U := h.below hbw
    have ho' := ho
    obtain ⟨hl0, ho⟩ := ho
    rcases ho with ⟨rfl, h0⟩ | ⟨g, c, cur, rfl, hg, hc, hnc, hcap, hcs, ht⟩
    · have hnil : nearR (px, py) L = [] := List.eq_nil_of_length_eq_zero h0
      refine (n_slDeleteNil _ _).mono ?_
      rintro e w' ⟨rfl, rfl⟩
      refine ⟨⟨_, U, rfl, ?_, hx2, UGrow.refl _ _ _, fun g n c hv => by cases hv⟩, KeptU.of_below hbw hbase⟩
      rw [HF.out, hnil]
      exact inil_owns _ _
    · have gU : ¬ U g := fun hu => by have := (hat g hu).2; omega
      have hgl := heap_lt hc
      have hcell : ∀ j, j < (nearR (px, py) L).length → W2.cell? ⟨g, j, none⟩ = some (.int .i64 ((nearR (px, py) L).getD j 0 : Nat)) := fun j hj => by
        have := ho'.cells (g := g) rfl j (.int .i64 ((nearR (px, py) L).getD j 0 : Nat)) (by
          unfold ints nums
          rw [List.getElem?_map, List.getElem?_map, List.getElem?_eq_getElem hj, List.getD_eq_getElem?_getD, List.getElem?_eq_getElem hj]
          rfl)
        have ha : (⟨g, 0, none⟩ : Addr).add j = ⟨g, j, none⟩ := by unfold Addr.add; split <;> simp_all
        rw [ha] at this
        exact this
      refine (n_slDeleteFunc g _ c (nearR (px, py) L) rfl (by omega) hnc hcap (fun i => !regQ (px, py) (L.getD i [])) 36 #[.pointer (some ⟨w.heap.size, 0, none⟩), .pointer (some ⟨w.heap.size + 1, 0, none⟩)] (enters_of Tryz.func36 (by kernel_rfl) rfl)
        (AtI base xb g L U W2) W2 ⟨U, hx2, UGrow.refl _ _ _, Below.refl _ _, fun _ _ _ _ => rfl⟩ w.heap.size (by omega) ⟨cur, hc, hcs⟩ hcell ?_ ?_).mono ?_
      · rintro W ⟨U', k1, k2, k3, k4⟩ i hi
        have nU : ∀ k, k < W2.heap.size → ¬ U k → ¬ U' k := fun k hk hn hu => by
          rcases k2 k hu with e | e
          · exact hn e
          · omega
        have o1 : W.heap[w.heap.size]? = W1.heap[w.heap.size]? := (k4 _ (by omega) (fun hu => by have := (hat _ hu).2; omega) (by omega)).trans (hb2.block _ (by omega))
        have o2 : W.heap[w.heap.size + 1]? = W1.heap[w.heap.size + 1]? := (k4 _ (by omega) (fun hu => by have := (hat _ hu).2; omega) (by omega)).trans (hb2.block _ (by omega))
        refine (n_ixAt1 k1 (hlt i hi) px py w.heap.size (w.heap.size + 1) ((World.cell?_of_block (a := ⟨w.heap.size, 0, none⟩) o1).trans cx) ((World.cell?_of_block (a := ⟨w.heap.size + 1, 0, none⟩) o2).trans c0) ((World.cell?_of_block (a := ⟨w.heap.size + 1, 1, none⟩) o2).trans c1)).mono ?_
        rintro e w' ⟨⟨U'', rfl, j1, j2⟩, j3⟩
        refine ⟨rfl, ⟨U'', j1, k2.trans j2 k3.size j3.low.size, k3.trans j3.low, fun k hk hn hg => (j3.keep k (Nat.lt_of_lt_of_le hk k3.size) (nU k hk hn)).trans (k4 k hk hn hg)⟩, j3.keep g (Nat.lt_of_lt_of_le hgl k3.size) (nU g hgl gU)⟩
      · rintro W W' ⟨U', k1, k2, k3, k4⟩ hbl hk hs
        have nU : ¬ U' g := fun hu => by
          rcases k2 g hu with e | e
          · exact gU e
          · omega
        exact ⟨U', k1.keep fun k hu => hk k fun e => nU (e ▸ hu), fun k hu => (k2 k hu).imp id fun e => ⟨e.1, by omega⟩, k3.trans (hbl.mono (by omega)), fun k h1 h2 h3 => (hk k h3).trans (k4 k h1 h2 h3)⟩
      · rintro e w' ⟨⟨m, rfl, hm, hrow⟩, U', k1, k2, k3, k4⟩
        have hfil : ((nearR (px, py) L).filter fun i => !!regQ (px, py) (L.getD i [])) = hasR (px, py) L := by rw [HF.out]; apply List.filter_congr; intro i _; simp
        rw [hfil] at hm hrow
        subst hm
        refine ⟨⟨_, U', rfl, hrow, k1, fun k hu => ?_, fun g' n' c' hv hu => ?_⟩, (hbw.mono hbase).trans k3, fun k hk hn => (k4 k (by have := hbw.size; omega) hn (by omega)).trans (hbw.block k hk)⟩
        · rcases k2 k hu with e | e
          · exact .inl e
          · exact .inr ⟨by have := hbw.size; omega, e.2⟩
        · injection hv with e1 _ _
          injection e1 with e1
          injection e1 with e1
          subst e1
          rcases k2 g hu with e | e
          · exact gU e
          · omega
  have HDD := Lib.hid HD
  clear HD h hat hfi hlt hln hbase
  unfold pt at *
  go_enter Tryz.func15, Tryz.ntmps15
  go_wp2_with (first
    | (go_at_call 16; refine (HN.out _ (HH.out.below (by (repeat' first | with_reducible (first | apply Below.refl | assumption | apply bw_a | apply bw_d | apply bw_n | apply bw_p | apply bw_c | apply bw_r) | go_size)))).mono ?_; rintro e w1 ⟨⟨v, rfl, ho⟩, hj⟩; have HO := Lib.hid (And.intro ho hj); clear ho hj)
    | (go_at_call 35; refine (HDD.out _ _ HO.out.1 HO.out.2).mono ?_; rintro e w2 ⟨⟨v2, U2, rfl, h1⟩, h2⟩; have HR := Lib.hid (And.intro h1 h2); clear h1 h2))
  go_ret
  exact ⟨⟨_, U2, rfl, HR.out.1⟩, HR.out.2⟩
end
end
end Go.Proofs.YthphdiigjimchaaGreat

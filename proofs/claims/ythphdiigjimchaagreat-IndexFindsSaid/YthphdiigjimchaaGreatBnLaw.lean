/- Contract of apportionkit's SameInts. Conditions: both slices read as lists of ints. The laws of boxtree: box, sample, awake. The law BoxtreeStands: the walk. The law BoxtreeFinds: the walk. The law BoxtreeDeep: the walk. Contract of apportionkit.Pick. BoxtreeTurned: places that are exchanged; what is found in another order; slices of numbers that come in. The law BoxtreeKnown: the walk. The law BoxtreeTurned: the walk. -/
import Derived.Test.YthphdiigjimchaaGreatKitOne
import Derived.Test.YthphdiigjimchaaGreatKitTwo
import Derived.Test.YthphdiigjimchaaGreatBtBld
import Derived.Test.YthphdiigjimchaaGreatBRow
import Derived.Test.YthphdiigjimchaaGreatPtOne
namespace Go.Proofs.YthphdiigjimchaaGreat
section
set_option linter.unusedVariables false
set_option linter.unusedSimpArgs false
open Go.RowKit
theorem lt_of_cell' {w : World} {b i : Nat} {v : Value} (h : w.cell? ⟨b, i, none⟩ = some v) : b < w.heap.size := World.block_lt_of_cell? _ _ h
theorem list_eq_of_getD (xs ys : List Int) (h : xs.length = ys.length) (hg : ∀ j, j < xs.length → xs.getD j 0 = ys.getD j 0) : xs = ys := by
  apply List.ext_getElem h
  intro i h1 h2
  have := hg i h1
  simpa [List.getD_eq_getElem?_getD, h1, h2] using this
set_option maxHeartbeats 1000000 in
theorem k_SameInts (a b : Option Addr) (n m ca cb : Nat) (xs ys : List Int) (w : World) (hx : Reads w a n xs) (hy : Reads w b m ys) (hn : n ≤ 1152921504606846976) (hm : m ≤ 1152921504606846976) :
    Calls Tryz.prog 18 #[.slice a n ca, .slice b m cb] w fun e w' => e = .returned (.bool (decide (xs = ys))) ∧ Junk w w' := by
  by_cases hne : n = m
  · subst hne
    obtain ⟨xl, _, hxc⟩ := hx
    obtain ⟨yl, _, hyc⟩ := hy
    have HX := Lib.hid hxc; have HY := Lib.hid hyc
    have XL := Lib.hid xl; have YL := Lib.hid yl
    clear hxc hyc xl yl
    obtain ⟨q, hq⟩ : ∃ q, q = decide (xs = ys) := ⟨_, rfl⟩
    rw [← hq]
    have HQ := Lib.hid hq; clear hq
    go_enter Tryz.func18, Tryz.ntmps18
    go_wp2_with fail
    go_loopw [5] (fun i wr => ∃ (k : Nat) (J : Array Obj) (d : Nat), i = .int .i64 k ∧ k ≤ n ∧ (∀ j, j < k → xs.getD j 0 = ys.getD j 0) ∧ wr = w.plus J d) (fun i _ => n - (intOf i).toNat)
    case atStart => exact ⟨0, #[], w.drawn, rfl, Nat.zero_le _, fun j h => by omega, by unfold World.plus; simp⟩
    case round =>
      obtain ⟨k, J, d, rfl, hk, hall, rfl⟩ := hrel
      have HA := Lib.hid hall; clear hall
      by_cases hlt : k < n
      · rcases HX.out with h0 | ⟨b1, o1, rfl, hx1⟩
        · omega
        rcases HY.out with h0 | ⟨b2, o2, rfl, hy1⟩
        · omega
        have c1 := hx1 k hlt
        have c2 := hy1 k hlt
        clear hx1 hy1
        have s1 := lt_of_cell' c1
        have s2 := lt_of_cell' c2
        obtain ⟨x, hxv⟩ : ∃ x, x = xs.getD k 0 := ⟨_, rfl⟩
        obtain ⟨y, hyv⟩ : ∃ y, y = ys.getD k 0 := ⟨_, rfl⟩
        rw [← hxv] at c1; rw [← hyv] at c2
        have HXV := Lib.hid hxv; have HYV := Lib.hid hyv
        clear hxv hyv
        by_cases hxy : x = y
        · subst hxy
          have HN := Lib.hid (show ∀ j, j < k + 1 → xs.getD j 0 = ys.getD j 0 from fun j hj => by
            by_cases e : j = k
            · rw [e, ← HXV.out, ← HYV.out]
            · exact HA.out j (by omega))
          go_upto_region 6 with fail
          go_quiet (fail)
          go_wp2_with fail
          go_round
          case rel => exact ⟨k + 1, J, _, by go_num, by omega, HN.out, rfl⟩
          case measure => simp [intOf]; omega
        · have hb : (x == y) = false := by rw [beq_eq_false_iff_ne]; exact hxy
          have hb2 : (x != y) = true := by simp [hxy]
          obtain rfl : q = false := by
            rw [HQ.out, decide_eq_false_iff_not]
            intro e; exact hxy (by rw [HXV.out, HYV.out, e])
          go_upto_region 6 with fail
          go_quiet (fail)
          go_wp2
          go_ret
          exact ⟨by simp, junk_of_below (by (repeat' first | with_reducible (first | apply Below.refl | assumption | apply bw_a | apply bw_d | apply bw_n | apply bw_p | apply bw_c | apply bw_r) | go_size))⟩
      · obtain rfl : k = n := by omega
        obtain rfl : q = true := by
          rw [HQ.out, decide_eq_true_iff]
          exact list_eq_of_getD _ _ (by rw [XL.out, YL.out]) (fun j hj => HA.out j (by rw [XL.out] at hj; exact hj))
        go_wp2
        go_ret
        exact ⟨by simp, junk_of_below (by (repeat' first | with_reducible (first | apply Below.refl | assumption | apply bw_a | apply bw_d | apply bw_n | apply bw_p | apply bw_c | apply bw_r) | go_size))⟩
  · have hq : decide (xs = ys) = false := by
      rw [decide_eq_false_iff_not]; intro e
      have h1 := hx.1; have h2 := hy.1
      rw [e] at h1; omega
    rw [hq]
    have hb : ((n : Int) == (m : Int)) = false := by rw [beq_eq_false_iff_ne]; omega
    clear hq hx hy
    go_enter Tryz.func18, Tryz.ntmps18
    go_wp2
    go_ret
    exact ⟨by simp, junk_of_below (by (repeat' first | with_reducible (first | apply Below.refl | assumption | apply bw_a | apply bw_d | apply bw_n | apply bw_p | apply bw_c | apply bw_r) | go_size))⟩
end

section
set_option linter.unusedVariables false
set_option linter.unusedSimpArgs false
open Go.RowKit
theorem iown_reads {w w' : World} {v : Value} {K : List Nat} (h : IOwn w w' v K) (hf : ∀ i ∈ K, i < 1000000) : ∃ a c, v = .slice a K.length c ∧ Reads w' a K.length (nums K) ∧ SOk a K.length c := by
  obtain ⟨a, c, e, hr, hk⟩ := iown_ok h (nums_fit hf (Nat.le_refl _) (Nat.le_refl _))
  exact ⟨a, c, e, hr, hk⟩
theorem same_lit (K M : List Nat) (hM : ∀ i ∈ M, i < 1000000) (hl : K.length ≤ 1000000) (hl2 : M.length ≤ 1000000) (W : World) (a : Option Addr) (g c : Nat) (h : Reads W a K.length (nums K)) (hc : ∀ i, i < M.length → W.cell? ⟨g, 0 + i, none⟩ = some (.int .i64 ((M.getD i 0 : Nat) : Int))) :
    Calls Tryz.prog 18 #[.slice a K.length c, .slice (some ⟨g, 0, none⟩) M.length M.length] W fun e w' => e = .returned (.bool (decide (K = M))) ∧ Junk W w' := by
  have e : decide (K = M) = decide (nums K = nums M) := by
    rw [decide_eq_decide]
    constructor
    · intro h; rw [h]
    · intro h
      unfold nums at h
      exact (List.map_inj_right (fun (a b : Nat) (h : (a : Int) = (b : Int)) => by omega)).1 h
  rw [e]
  refine k_SameInts a _ K.length M.length c M.length (nums K) (nums M) W h ⟨nums_len M, nums_fit hM (Nat.le_refl _) (Nat.le_refl _), .inr ⟨g, 0, rfl, fun i hi => ?_⟩⟩ (by omega) (by omega)
  rw [nums_get hi]
  exact hc i hi
theorem same_two (K M : List Nat) (hl : K.length ≤ 1000000) (hl2 : M.length ≤ 1000000) (W : World) (a b : Option Addr) (c d : Nat) (h : Reads W a K.length (nums K)) (h2 : Reads W b M.length (nums M)) :
    Calls Tryz.prog 18 #[.slice a K.length c, .slice b M.length d] W fun e w' => e = .returned (.bool (decide (K = M))) ∧ Junk W w' := by
  have e : decide (K = M) = decide (nums K = nums M) := by
    rw [decide_eq_decide]
    constructor
    · intro h; rw [h]
    · intro h
      unfold nums at h
      exact (List.map_inj_right (fun (a b : Nat) (h : (a : Int) = (b : Int)) => by omega)).1 h
  rw [e]
  exact k_SameInts a b K.length M.length c d (nums K) (nums M) W h h2 (by omega) (by omega)
def smpL : List Bx := [(0, 0, 4, 4), (2, 2, 6, 6), (9, 9, 9, 12)]
end

section
set_option linter.unusedVariables false
set_option linter.unusedSimpArgs false
open Go.RowKit
theorem ints_self (K : List Nat) (n : Nat) (hK : K.length = n) (hl : n ≤ 1000000) (W : World) (a b : Option Addr) (c d : Nat) (h : Reads W a n (nums K)) (h2 : Reads W b n (nums K)) :
    Calls Tryz.prog 18 #[.slice a n c, .slice b n d] W fun e w' => e = .returned (.bool true) ∧ Junk W w' := by
  subst hK
  have := same_two K K hl hl W a b c d h h2
  rw [decide_eq_true rfl] at this
  exact this
end

section
set_option linter.unusedVariables false
set_option linter.unusedSimpArgs false
open Go.RowKit
def FiA (W1 : World) (g n : Nat) (L : List Bx) (x : Value) (wr : World) : Prop := ∃ k : Nat, x = .int .i64 (k : Int) ∧ k ≤ n ∧ Kept2 g g W1 wr ∧
  ∀ i, k ≤ i → i < n → (wr.cell? ⟨g, i * 4, none⟩ = some (.int .i64 (L.getD i Bx0).1) ∧ wr.cell? ⟨g, i * 4 + 1, none⟩ = some (.int .i64 (L.getD i Bx0).2.1) ∧ wr.cell? ⟨g, i * 4 + 2, none⟩ = some (.int .i64 (L.getD i Bx0).2.2.1) ∧ wr.cell? ⟨g, i * 4 + 3, none⟩ = some (.int .i64 (L.getD i Bx0).2.2.2)) ∧
    ∀ j, wr.frozen? ⟨g, i * 4 + j, none⟩ = false
def FiB (W : World) (n : Nat) (x : Value) (wr : World) : Prop := ∃ k : Nat, x = .int .i64 (k : Int) ∧ k ≤ n ∧ Below W.heap.size W wr
def FiC (W : World) (g n : Nat) (x : Value) (wr : World) : Prop := ∃ k : Nat, x = .int .i64 (k : Int) ∧ k ≤ n ∧ Kept2 g g W wr ∧ ∀ i, k ≤ i → i < n → (∃ v, wr.cell? ⟨g, i, none⟩ = some v) ∧ wr.frozen? ⟨g, i, none⟩ = false
theorem own_row1 {w : World} {base : Nat} {v : Value} {n : Nat} {l : List Nat} (h : w.ownsRow base 3 1 v n (ints (nums l))) (hL : l.length = n) (h0 : 0 < n) : ∃ g c, v = .slice (some ⟨g, 0, none⟩) n c ∧ base ≤ g ∧ g < w.heap.size ∧ (∀ i, i < n → ∃ u, w.cell? ⟨g, i, none⟩ = some u) ∧ ∀ j, w.frozen? ⟨g, j, none⟩ = false := by
  have h' := h
  obtain ⟨_, h2⟩ := h
  rcases h2 with ⟨rfl, rfl⟩ | ⟨g, cap, cur, rfl, hg, hc, hnc, hcap, hcs, ht⟩
  · omega
  refine ⟨g, cap, rfl, hg, heap_lt hc, fun i hi => ?_, fun j => by simp [World.frozen?, hc]⟩
  have hl2 : (ints (nums l)).length = n := by unfold ints nums; rw [List.length_map, List.length_map]; exact hL
  have := h'.cells (g := g) rfl i ((ints (nums l))[i]'(by omega)) (List.getElem?_eq_getElem (by omega))
  have ha : (⟨g, 0, none⟩ : Addr).add i = ⟨g, i, none⟩ := by unfold Addr.add; split <;> simp_all
  rw [ha] at this
  exact ⟨_, this⟩
theorem fic_next {W wr : World} {g n k : Nat} (hk : k < n) (hK : Kept2 g g W wr) (hc : ∀ i, k ≤ i → i < n → (∃ v, wr.cell? ⟨g, i, none⟩ = some v) ∧ wr.frozen? ⟨g, i, none⟩ = false) (u : Value) : FiC W g n (.int .i64 ((k + 1 : Nat) : Int)) (wr.setCell ⟨g, k, none⟩ u) := by
  have hb : Below 0 wr (wr.setCell ⟨g, k, none⟩ u) := by (repeat' first | with_reducible (first | apply Below.refl | assumption | apply bw_a | apply bw_d | apply bw_n | apply bw_p | apply bw_c | apply bw_r) | go_size)
  refine ⟨k + 1, rfl, hk, hK.trans ⟨hb, fun j hj h1 _ => Below.heap_setCell _ _ _ j h1⟩, fun i h1 h2 => ?_⟩
  obtain ⟨⟨v, hv⟩, hf⟩ := hc i (by omega) h2
  refine ⟨⟨v, ?_⟩, by rw [World.frozen?_setCell]; exact hf⟩
  rw [World.cell?_setCell_other _ _ _ _ (fun e => by injection e with _ e _; omega)]
  exact hv
end

section
set_option linter.unusedVariables false
set_option linter.unusedSimpArgs false
open Go.RowKit
def DpM (W : World) (h n : Nat) (O : List Nat) (x : Value) (wr : World) : Prop := ∃ (k : Nat) (us : List Bool), x = .int .i64 (k : Int) ∧ k ≤ n ∧ us.length = n ∧ Blk wr h (brw us) 4 ∧ Kept2 h h W wr ∧ ∀ j, j < n → us[j]? = some (decide (j ∈ O.take k))
end

section
set_option linter.unusedVariables false
set_option linter.unusedSimpArgs false
open Go.RowKit
theorem kp_Pick (w : World) (x n : Int) (hx : -9223372036854775808 ≤ x ∧ x ≤ 9223372036854775807) (hn : -9223372036854775808 ≤ n ∧ n ≤ 9223372036854775807) :
    Calls Tryz.prog 24 #[.int .i64 x, .int .i64 n] w fun e w' => e = .returned (.int .i64 (if n < 1 then 0 else x % n)) ∧ Junk w w' := by
  obtain ⟨x0, x1⟩ := hx
  obtain ⟨n0, n1⟩ := hn
  by_cases c1 : n < 1
  · rw [if_pos c1]
    clear x0 x1 n0 n1
    go_enter Tryz.func24, Tryz.ntmps24
    go_wp2
    go_ret
    exact ⟨rfl, junk_of_below (by (repeat' first | with_reducible (first | apply Below.refl | assumption | apply bw_a | apply bw_d | apply bw_n | apply bw_p | apply bw_c | apply bw_r) | go_size))⟩
  rw [if_neg c1]
  obtain ⟨m, hm⟩ : ∃ m, x.tmod n = m := ⟨_, rfl⟩
  obtain ⟨d, hd⟩ : ∃ d, x % n = d := ⟨_, rfl⟩
  have hnz : n ≠ 0 := by omega
  have hnz2 : (n == 0) = false := beq_eq_false_iff_ne.2 hnz
  have hd0 := Int.emod_nonneg x hnz
  have hd1 := Int.emod_lt_of_pos x (show 0 < n by omega)
  have ht : m = d ∨ (m < 0 ∧ m + n = d) := by
    rw [← hm, ← hd]
    rcases Int.lt_or_le x 0 with h | h
    · by_cases hz : x % n = 0
      · left
        have := Int.dvd_of_emod_eq_zero hz
        rw [hz, Int.tmod_eq_emod]; simp [this, hz]
      · right
        have hnd : ¬ n ∣ x := fun h => hz (Int.emod_eq_zero_of_dvd h)
        have : (n.natAbs : Int) = n := by omega
        rw [Int.tmod_eq_emod, if_neg (by omega), this]
        omega
    · left
      exact Int.tmod_eq_emod_of_nonneg h
  rw [hd] at hd0 hd1 ⊢
  have e1 : x % n = d := hd
  rcases ht with ht | ⟨ht1, ht2⟩
  · subst ht
    clear hd
    go_enter Tryz.func24, Tryz.ntmps24
    go_wp2
    go_ret
    exact ⟨rfl, junk_of_below (by (repeat' first | with_reducible (first | apply Below.refl | assumption | apply bw_a | apply bw_d | apply bw_n | apply bw_p | apply bw_c | apply bw_r) | go_size))⟩
  · have e2 : IntKind.i64.wrap (m + n) = m + n := by simp [IntKind.wrap, IntKind.signed, IntKind.bits]; omega
    clear hd e1
    go_enter Tryz.func24, Tryz.ntmps24
    go_wp2
    go_ret
    exact ⟨rfl, junk_of_below (by (repeat' first | with_reducible (first | apply Below.refl | assumption | apply bw_a | apply bw_d | apply bw_n | apply bw_p | apply bw_c | apply bw_r) | go_size))⟩
end

section
set_option linter.unusedVariables false
set_option linter.unusedSimpArgs false
open Go.RowKit Go.ChangeShapes Go.WideShapes Go.ChangeAt Go.Joins
def swapL (A : List Nat) (a b : Nat) : List Nat := (A.set a (A.getD b 0)).set b (A.getD a 0)
theorem tswap_len (A : List Nat) (a b : Nat) : (swapL A a b).length = A.length := by unfold swapL; rw [List.length_set, List.length_set]
theorem tswap_get {A : List Nat} {a b k : Nat} (ha : a < A.length) (hb : b < A.length) (hk : k < A.length) : (swapL A a b).getD k 0 = if k = b then A.getD a 0 else if k = a then A.getD b 0 else A.getD k 0 := by
  unfold swapL
  rw [List.getD_eq_getElem?_getD, List.getElem?_set, List.length_set]
  by_cases e : k = b
  · subst e; simp [hb]
  · have e' : ¬b = k := fun h => e h.symm
    by_cases e2 : k = a
    · subst e2; simp [e, e', hb, ha]
    · have e2' : ¬a = k := fun h => e2 h.symm
      simp [e, e', e2, e2', List.getD_eq_getElem?_getD]
theorem tswap_perm {A : List Nat} {a b : Nat} (ha : a < A.length) (hb : b < A.length) : (swapL A a b).Perm A := by
  have h := (Array.swap_perm (xs := A.toArray) (i := a) (j := b) (by simpa using ha) (by simpa using hb)).toList
  have e : (A.toArray.swap a b (by simpa using ha) (by simpa using hb)).toList = swapL A a b := by
    apply List.ext_getElem
    · rw [tswap_len]; simp
    · intro k h1 h2
      have hk : k < A.length := by rw [tswap_len] at h2; exact h2
      have e1 := tswap_get ha hb hk
      rw [List.getD_eq_getElem?_getD, List.getElem?_eq_getElem h2] at e1
      have g : ∀ i (hi : i < A.length), A.getD i 0 = A[i] := fun i hi => by rw [List.getD_eq_getElem?_getD, List.getElem?_eq_getElem hi]; rfl
      rw [g a ha, g b hb, g k hk] at e1
      have e3 : (swapL A a b)[k] = if k = b then A[a] else if k = a then A[b] else A[k] := e1
      rw [e3, Array.getElem_toList, Array.getElem_swap]
      simp only [List.getElem_toArray]
      by_cases c1 : k = a
      · subst c1
        by_cases c2 : k = b
        · subst c2; simp
        · simp [c2]
      · simp [c1]
  rw [e] at h
  simpa using h
def Bc (w : World) (g k : Nat) (b : Bx) : Prop := w.cell? ⟨g, k * 4, none⟩ = some (.int .i64 b.1) ∧ w.cell? ⟨g, k * 4 + 1, none⟩ = some (.int .i64 b.2.1) ∧ w.cell? ⟨g, k * 4 + 2, none⟩ = some (.int .i64 b.2.2.1) ∧ w.cell? ⟨g, k * 4 + 3, none⟩ = some (.int .i64 b.2.2.2)
theorem made_ints (n : Nat) (hn : n ≤ 1099511627776) : ∃ Z : Array Value, (∀ w : World, (Instr.makeSlice 39 (.int .i64 n) (.int .i64 n)).run Tryz.prog w = .ok (.slice (some ⟨w.heap.size, 0, none⟩) n n) (w.alloc (.cells Z 3))) ∧ ∀ k, k < n → Z[k]? = some (.int .i64 0) := by
  obtain ⟨i, hi, hz, hs, hb⟩ := info_int
  refine ⟨madeCells (Value.int .i64 0).cells n, fun w => ?_, ?_⟩
  · have h := run_make (P := Tryz.prog) w 39 3 i (.int .i64 0) Tryz.underlying39 hi hz .i64 .i64 n n (by omega) (by omega) (by rw [hb]; omega) (by omega)
    rw [hs, Nat.mul_one, Int.toNat_natCast] at h
    exact h
  · intro k hk
    simp [madeCells, hk, Value.cells, Nat.mod_one]
section
variable {H : Type} {enc : TypeId × Value → H} {w : World} {base : Nat} {spare : Nat → Bool} {held : Bool}
theorem ints_open {fuel : Nat} {cs : List Value} {x : DataW H × List MemPlace} (h : DataW.trod enc Tryz.prog w base spare held fuel 39 cs = some x) :
    ∃ a n c K, cs = [.slice a n c] ∧ Reads w a n K ∧ n ≤ 9223372036854775807 ∧ (a = none → n = 0 ∧ c = 0) := by
  rcases Deep.open_slice Tryz.underlying39 h with ⟨rfl, _⟩ | ⟨a, len, cap, m, n, D, Pl, rfl, hb, hl, hm, hmm, rfl, hx⟩
  · exact ⟨none, 0, 0, [], rfl, ⟨rfl, fun i hi => by omega, .inl rfl⟩, by decide, fun _ => ⟨rfl, rfl⟩⟩
  · have hlm : len ≤ m := by rw [hmm]; split <;> omega
    have each : ∀ i, i < len → ∃ z : Int, w.cell? (a.add i) = some (.int .i64 z) ∧ (-9223372036854775808 ≤ z ∧ z ≤ 9223372036854775807) := by
      intro i hi
      obtain ⟨cs', h1, h2⟩ := hx i (by omega)
      rw [in_cells] at h1
      obtain ⟨_, hlen, hcell⟩ := World.cells?_some h1
      match cs', hlen with
      | [v0], _ =>
        obtain ⟨u, e0, _, k0⟩ := DataW.trod_int Tryz.underlying3 h2
        simp at e0
        subst e0
        have e1 := hcell 0 (by omega)
        rw [Deep.add_add] at e1
        exact ⟨u, by simpa using e1, bounds_i64 k0⟩
    obtain ⟨K, hK⟩ := Deep.choose_lt each
    have hg : ∀ i, i < len → ((List.range len).map K).getD i 0 = K i := fun i hi => by
      rw [List.getD_eq_getElem?_getD, List.getElem?_map, List.getElem?_range hi]; rfl
    refine ⟨some a, len, cap, (List.range len).map K, rfl, ⟨by simp, fun i hi => by rw [hg i hi]; exact (hK i hi).2, ?_⟩, Nat.le_trans hl (Nat.le_trans hm (by decide)), fun e => by cases e⟩
    by_cases hz : len = 0
    · exact .inl hz
    · right
      obtain ⟨b, off, sp⟩ := a
      have h1 := (hK 0 (by omega)).1
      have hsp : sp = none := by
        cases sp with
        | none => rfl
        | some s => unfold Addr.add World.cell? at h1; simp at h1; split at h1 <;> simp_all
      subst hsp
      refine ⟨b, off, rfl, fun i hi => ?_⟩
      have := (hK i hi).1
      have ha : (⟨b, off, none⟩ : Addr).add i = ⟨b, off + i, none⟩ := by unfold Addr.add; split <;> simp_all
      rw [ha] at this
      rw [hg i hi]
      exact this
end
end

section
set_option linter.unusedVariables false
set_option linter.unusedSimpArgs false
open Go.RowKit
end

section
set_option linter.unusedVariables false
set_option linter.unusedSimpArgs false
open Go.RowKit
def TuA (W : World) (g n : Nat) (x : Value) (wr : World) : Prop := ∃ k : Nat, x = .int .i64 (k : Int) ∧ k ≤ n ∧ Kept2 g g W wr ∧ (∀ j, j < n → wr.cell? ⟨g, j, none⟩ = some (.int .i64 (if j < k then (j : Int) else 0))) ∧ ∀ j, wr.frozen? ⟨g, j, none⟩ = false
theorem tua_next {W wr : World} {g n k : Nat} (hk : k < n) (hK : Kept2 g g W wr) (hc : (∀ j, j < n → wr.cell? ⟨g, j, none⟩ = some (.int .i64 (if j < k then (j : Int) else 0))) ∧ ∀ j, wr.frozen? ⟨g, j, none⟩ = false) : TuA W g n (.int .i64 ((k + 1 : Nat) : Int)) (wr.setCell ⟨g, k, none⟩ (.int .i64 (k : Int))) := by
  have hb : Below 0 wr (wr.setCell ⟨g, k, none⟩ (.int .i64 (k : Int))) := by (repeat' first | with_reducible (first | apply Below.refl | assumption | apply bw_a | apply bw_d | apply bw_n | apply bw_p | apply bw_c | apply bw_r) | go_size)
  refine ⟨k + 1, rfl, hk, hK.trans ⟨hb, fun j hj h1 _ => Below.heap_setCell _ _ _ j h1⟩, fun j hj => ?_, fun j => by rw [World.frozen?_setCell]; exact hc.2 j⟩
  have c := hc.1 j hj
  by_cases e : j = k
  · subst e
    rw [World.cell?_setCell_same _ _ _ c, if_pos (by omega)]
  · rw [World.cell?_setCell_other _ _ _ _ (fun h => by injection h with _ h _; omega), c]
    congr 2
    by_cases h : j < k
    · rw [if_pos h, if_pos (by omega)]
    · rw [if_neg h, if_neg (by omega)]
structure TuS (W : World) (gm ga n : Nat) (L : List Bx) (A : List Nat) (wr : World) : Prop where
  pm : A.Perm (List.range n)
  bx : ∀ k, k < n → Bc wr gm k (L.getD (A.getD k 0) Bx0)
  ax : ∀ k, k < n → wr.cell? ⟨ga, k, none⟩ = some (.int .i64 ((A.getD k 0 : Nat) : Int))
  fm : ∀ j, 0 < n → wr.frozen? ⟨gm, j, none⟩ = false
  fa : ∀ j, 0 < n → wr.frozen? ⟨ga, j, none⟩ = false
  lm : 0 < n → gm < wr.heap.size ∧ ga < wr.heap.size
  kp : Kept2 gm ga W wr
def TuB (W : World) (gm ga n tn : Nat) (L : List Bx) (x : Value) (wr : World) : Prop := ∃ (i : Nat) (A : List Nat), x = .int .i64 (i : Int) ∧ i ≤ tn ∧ TuS W gm ga n L A wr
abbrev exW (w : World) (gm ga a b : Nat) (x y : Bx) (p q : Int) : World := (((s4W (s4W w gm (a * 4) (.int .i64 y.1) (.int .i64 y.2.1) (.int .i64 y.2.2.1) (.int .i64 y.2.2.2)) gm (b * 4) (.int .i64 x.1) (.int .i64 x.2.1) (.int .i64 x.2.2.1) (.int .i64 x.2.2.2)).setCell ⟨ga, a, none⟩ (.int .i64 q)).setCell ⟨ga, b, none⟩ (.int .i64 p))
theorem ireads_at {w : World} {a : Option Addr} {n : Nat} {Z : List Int} (h : Reads w a n Z) {k : Nat} (hk : k < n) : ∃ b o, a = some ⟨b, o, none⟩ ∧ w.cell? ⟨b, o + k, none⟩ = some (.int .i64 (Z.getD k 0)) ∧ b < w.heap.size ∧ (-9223372036854775808 ≤ Z.getD k 0 ∧ Z.getD k 0 ≤ 9223372036854775807) := by
  rcases h.2.2 with h0 | ⟨b, o, rfl, hc⟩
  · omega
  · exact ⟨b, o, rfl, hc k hk, World.block_lt_of_cell? _ _ (hc k hk), h.2.1 k hk⟩
theorem pick_at (n : Nat) (h0 : 0 < n) (hn : n ≤ 100) (z : Int) (hz : -9223372036854775808 ≤ z ∧ z ≤ 9223372036854775807) : ∃ b : Nat, b < n ∧ ∀ W, Calls Tryz.prog 24 #[.int .i64 z, .int .i64 (n : Int)] W fun e w' => e = .returned (.int .i64 (b : Int)) ∧ Junk W w' := by
  have g0 := Int.emod_nonneg z (b := (n : Int)) (by omega)
  have g1 := Int.emod_lt_of_pos z (show (0 : Int) < (n : Int) by omega)
  refine ⟨(z % (n : Int)).toNat, by omega, fun W => ?_⟩
  have h := kp_Pick W z n hz ⟨by omega, by omega⟩
  rw [if_neg (by omega)] at h
  rw [show (((z % (n : Int)).toNat : Nat) : Int) = z % (n : Int) by omega]
  exact h
theorem range_get {n k : Nat} (h : k < n) : (List.range n).getD k 0 = k := by
  rw [List.getD_eq_getElem?_getD, List.getElem?_range h]; rfl
def TuM (W : World) (h n s : Nat) (O : List Nat) (x : Value) (wr : World) : Prop := ∃ (k : Nat) (us : List Bool), x = .int .i64 (k : Int) ∧ k ≤ s ∧ us.length = n ∧ Blk wr h (brw us) 4 ∧ Kept2 h h W wr ∧ ∀ j, j < n → us[j]? = some (decide (j ∈ O.take k))
end
end Go.Proofs.YthphdiigjimchaaGreat

/- Contract of apportionkit's SameInts. Conditions: both slices read as lists of ints. The laws of boxtree: box, sample, awake. The law BoxtreeStands: the walk. -/
import Derived.Test.YtnpkhhchbahcpaaKitOne
import Derived.Test.YtnpkhhchbahcpaaKitTwo
import Derived.Test.YtnpkhhchbahcpaaBtBld
namespace Go.Proofs.Ytnpkhhchbahcpaa
section
set_option linter.unusedVariables false
set_option linter.unusedSimpArgs false
open Go.RowKit

theorem lt_of_cell' {w : World} {b i : Nat} {v : Value} (h : w.cell? ⟨b, i, none⟩ = some v) : b < w.heap.size := World.block_lt_of_cell? _ _ h

theorem list_eq_of_getD (xs ys : List Int) (h : xs.length = ys.length) (hg : ∀ j, j < xs.length → xs.getD j 0 = ys.getD j 0) : xs = ys := by
  apply List.ext_getElem h
  intro i h1 h2
  have := hg i h1
  simpa [List.getD_eq_getElem?_getD, h1, h2] using this

set_option maxHeartbeats 1000000 in
theorem k_SameInts (a b : Option Addr) (n m ca cb : Nat) (xs ys : List Int) (w : World) (hx : Reads w a n xs) (hy : Reads w b m ys) (hn : n ≤ 1152921504606846976) (hm : m ≤ 1152921504606846976) :
    Calls Try.prog 14 #[.slice a n ca, .slice b m cb] w fun e w' => e = .returned (.bool (decide (xs = ys))) ∧ Junk w w' := by
  by_cases hne : n = m
  · subst hne
    obtain ⟨xl, _, hxc⟩ := hx
    obtain ⟨yl, _, hyc⟩ := hy
    have HX := Lib.hid hxc; have HY := Lib.hid hyc
    have XL := Lib.hid xl; have YL := Lib.hid yl
    clear hxc hyc xl yl
    obtain ⟨q, hq⟩ : ∃ q, q = decide (xs = ys) := ⟨_, rfl⟩
    rw [← hq]
    have HQ := Lib.hid hq; clear hq
    go_enter Try.func14, Try.ntmps14
    go_wp2_with fail
    go_loopw [5] (fun i wr => ∃ (k : Nat) (J : Array Obj) (d : Nat), i = .int .i64 k ∧ k ≤ n ∧ (∀ j, j < k → xs.getD j 0 = ys.getD j 0) ∧ wr = w.plus J d) (fun i _ => n - (intOf i).toNat)
    case atStart => exact ⟨0, #[], w.drawn, rfl, Nat.zero_le _, fun j h => by omega, by unfold World.plus; simp⟩
    case round =>
      obtain ⟨k, J, d, rfl, hk, hall, rfl⟩ := hrel
      have HA := Lib.hid hall; clear hall
      by_cases hlt : k < n
      · rcases HX.out with h0 | ⟨b1, o1, rfl, hx1⟩
        · omega
        rcases HY.out with h0 | ⟨b2, o2, rfl, hy1⟩
        · omega
        have c1 := hx1 k hlt
        have c2 := hy1 k hlt
        clear hx1 hy1
        have s1 := lt_of_cell' c1
        have s2 := lt_of_cell' c2
        obtain ⟨x, hxv⟩ : ∃ x, x = xs.getD k 0 := ⟨_, rfl⟩
        obtain ⟨y, hyv⟩ : ∃ y, y = ys.getD k 0 := ⟨_, rfl⟩
        rw [← hxv] at c1; rw [← hyv] at c2
        have HXV := Lib.hid hxv; have HYV := Lib.hid hyv
        clear hxv hyv
        by_cases hxy : x = y
        · subst hxy
          have HN := Lib.hid (show ∀ j, j < k + 1 → xs.getD j 0 = ys.getD j 0 from fun j hj => by
            by_cases e : j = k
            · rw [e, ← HXV.out, ← HYV.out]
            · exact HA.out j (by omega))
          go_upto_region 6 with fail
          go_quiet (fail)
          go_wp2_with fail
          go_round
          case rel => exact ⟨k + 1, J, _, by go_num, by omega, HN.out, rfl⟩
          case measure => simp [intOf]; omega
        · have hb : (x == y) = false := by rw [beq_eq_false_iff_ne]; exact hxy
          have hb2 : (x != y) = true := by simp [hxy]
          obtain rfl : q = false := by
            rw [HQ.out, decide_eq_false_iff_not]
            intro e; exact hxy (by rw [HXV.out, HYV.out, e])
          go_upto_region 6 with fail
          go_quiet (fail)
          go_wp2
          go_ret
          exact ⟨by simp, junk_of_below (by (repeat' (first | (with_reducible exact Below.refl _ _) | (with_reducible assumption) | (with_reducible refine Below.alloc ?_ ?_ _) | (with_reducible refine Below.drew ?_) | (with_reducible refine below_drewN ?_ _) | (with_reducible refine below_plus ?_ ?_ _ _) | (with_reducible refine Below.setCell ?_ ?_ _) | (with_reducible refine Below.setRow ?_ ?_ _) | go_size)))⟩
      · obtain rfl : k = n := by omega
        obtain rfl : q = true := by
          rw [HQ.out, decide_eq_true_iff]
          exact list_eq_of_getD _ _ (by rw [XL.out, YL.out]) (fun j hj => HA.out j (by rw [XL.out] at hj; exact hj))
        go_wp2
        go_ret
        exact ⟨by simp, junk_of_below (by (repeat' (first | (with_reducible exact Below.refl _ _) | (with_reducible assumption) | (with_reducible refine Below.alloc ?_ ?_ _) | (with_reducible refine Below.drew ?_) | (with_reducible refine below_drewN ?_ _) | (with_reducible refine below_plus ?_ ?_ _ _) | (with_reducible refine Below.setCell ?_ ?_ _) | (with_reducible refine Below.setRow ?_ ?_ _) | go_size)))⟩
  · have hq : decide (xs = ys) = false := by
      rw [decide_eq_false_iff_not]; intro e
      have h1 := hx.1; have h2 := hy.1
      rw [e] at h1; omega
    rw [hq]
    have hb : ((n : Int) == (m : Int)) = false := by rw [beq_eq_false_iff_ne]; omega
    clear hq hx hy
    go_enter Try.func14, Try.ntmps14
    go_wp2
    go_ret
    exact ⟨by simp, junk_of_below (by (repeat' (first | (with_reducible exact Below.refl _ _) | (with_reducible assumption) | (with_reducible refine Below.alloc ?_ ?_ _) | (with_reducible refine Below.drew ?_) | (with_reducible refine below_drewN ?_ _) | (with_reducible refine below_plus ?_ ?_ _ _) | (with_reducible refine Below.setCell ?_ ?_ _) | (with_reducible refine Below.setRow ?_ ?_ _) | go_size)))⟩
end

section
set_option linter.unusedVariables false
set_option linter.unusedSimpArgs false
open Go.RowKit

set_option maxRecDepth 100000 in
theorem l_btBox (a b c d : Int) (w : World) : Calls Try.prog 24 #[.int .i64 a, .int .i64 b, .int .i64 c, .int .i64 d] w fun e w' => e = .returned (bxV a b c d) ∧ Junk w w' := by
  unfold bxV
  go_enter Try.func24, Try.ntmps24
  go_wp2
  refine bodyPost_ret (results_bx rfl _ _ w.heap.size #[.int .i64 a, .int .i64 b, .int .i64 c, .int .i64 d] rfl (by simp [go_sem]) rfl) rfl ⟨rfl, junk_of_below (by (repeat' (first | (with_reducible exact Below.refl _ _) | (with_reducible assumption) | (with_reducible refine Below.alloc ?_ ?_ _) | (with_reducible refine Below.drew ?_) | (with_reducible refine below_drewN ?_ _) | (with_reducible refine below_plus ?_ ?_ _ _) | (with_reducible refine Below.setCell ?_ ?_ _) | (with_reducible refine Below.setRow ?_ ?_ _) | go_size)))⟩

/-- A row of the call's own, as a slice that reads as a list. -/
theorem iown_reads {w w' : World} {v : Value} {K : List Nat} (h : IOwn w w' v K) (hf : ∀ i ∈ K, i < 1000000) : ∃ a c, v = .slice a K.length c ∧ Reads w' a K.length (nums K) ∧ SOk a K.length c := by
  obtain ⟨a, c, e, hr, hk⟩ := iown_ok h (nums_fit hf (Nat.le_refl _) (Nat.le_refl _))
  exact ⟨a, c, e, hr, hk⟩
theorem scan_lt {q : Bx → Bool} {L : List Bx} (hl : L.length ≤ 1000000) : ∀ i ∈ scanB q L, i < 1000000 := fun i hi => by have := (scan_mem.1 hi).1; omega
theorem ord_lt {L : List Bx} (hl : L.length ≤ 1000000) : ∀ i ∈ ordB L, i < 1000000 := fun i hi => by
  have := (ordB_perm L).mem_iff.1 hi
  rw [List.mem_range] at this
  omega
theorem at_lit (px py : Int) (L : List Bx) (K : List Nat) (hk : scanB (inB px py) L = K) (hl : L.length ≤ 1000000) (W : World) (B T tb : Nat) (h : TreeB W B T tb L) :
    Calls Try.prog 13 #[.pointer (some ⟨tb, 0, none⟩), pt px py] W fun e w' => (∃ a c, e = .returned (.slice a K.length c) ∧ Reads w' a K.length (nums K) ∧ SOk a K.length c) ∧ Junk W w' := by
  refine (n_treeAt px py h).mono ?_
  rintro e w' ⟨⟨v, rfl, ho⟩, hj⟩
  rw [hk] at ho
  obtain ⟨a, c, rfl, hr, hs⟩ := iown_reads ho (fun i hi => scan_lt hl i (by rw [hk]; exact hi))
  exact ⟨⟨a, c, rfl, hr, hs⟩, hj⟩
theorem over_lit (y1 y2 y3 y4 : Int) (L : List Bx) (K : List Nat) (hk : scanB (meetB (y1, y2, y3, y4)) L = K) (hl : L.length ≤ 1000000) (W : World) (B T tb : Nat) (h : TreeB W B T tb L) :
    Calls Try.prog 16 #[.pointer (some ⟨tb, 0, none⟩), bxV y1 y2 y3 y4] W fun e w' => (∃ a c, e = .returned (.slice a K.length c) ∧ Reads w' a K.length (nums K) ∧ SOk a K.length c) ∧ Junk W w' := by
  refine (n_treeOver y1 y2 y3 y4 h).mono ?_
  rintro e w' ⟨⟨v, rfl, ho⟩, hj⟩
  rw [hk] at ho
  obtain ⟨a, c, rfl, hr, hs⟩ := iown_reads ho (fun i hi => scan_lt hl i (by rw [hk]; exact hi))
  exact ⟨⟨a, c, rfl, hr, hs⟩, hj⟩
theorem order_lit (L : List Bx) (K : List Nat) (hk : ordB L = K) (hl : L.length ≤ 1000000) (W : World) (B T tb : Nat) (h : TreeB W B T tb L) :
    Calls Try.prog 20 #[.pointer (some ⟨tb, 0, none⟩)] W fun e w' => (∃ a c, e = .returned (.slice a K.length c) ∧ Reads w' a K.length (nums K) ∧ SOk a K.length c) ∧ Junk W w' := by
  refine (n_treeOrder h).mono ?_
  rintro e w' ⟨⟨v, rfl, ho⟩, hj⟩
  rw [hk] at ho
  obtain ⟨a, c, rfl, hr, hs⟩ := iown_reads ho (fun i hi => ord_lt hl i (by rw [hk]; exact hi))
  exact ⟨⟨a, c, rfl, hr, hs⟩, hj⟩
theorem depth_lit (L : List Bx) (d : Nat) (hd : depthF L.length = d) (hl : L.length ≤ 1000) (W : World) (B T tb : Nat) (h : TreeB W B T tb L) :
    Calls Try.prog 18 #[.pointer (some ⟨tb, 0, none⟩)] W fun e w' => e = .returned (.int .i64 (d : Int)) ∧ Junk W w' := by
  have := n_treeDepth h hl
  rw [hd] at this
  exact this
/-- Two lists of numbers, of which the second is laid. -/
theorem same_lit (K M : List Nat) (hM : ∀ i ∈ M, i < 1000000) (hl : K.length ≤ 1000000) (hl2 : M.length ≤ 1000000) (W : World) (a : Option Addr) (g c : Nat) (h : Reads W a K.length (nums K)) (hc : ∀ i, i < M.length → W.cell? ⟨g, 0 + i, none⟩ = some (.int .i64 ((M.getD i 0 : Nat) : Int))) :
    Calls Try.prog 14 #[.slice a K.length c, .slice (some ⟨g, 0, none⟩) M.length M.length] W fun e w' => e = .returned (.bool (decide (K = M))) ∧ Junk W w' := by
  have e : decide (K = M) = decide (nums K = nums M) := by
    rw [decide_eq_decide]
    constructor
    · intro h; rw [h]
    · intro h
      unfold nums at h
      exact (List.map_inj_right (fun (a b : Nat) (h : (a : Int) = (b : Int)) => by omega)).1 h
  rw [e]
  refine k_SameInts a _ K.length M.length c M.length (nums K) (nums M) W h ⟨nums_len M, nums_fit hM (Nat.le_refl _) (Nat.le_refl _), .inr ⟨g, 0, rfl, fun i hi => ?_⟩⟩ (by omega) (by omega)
  rw [nums_get hi]
  exact hc i hi
/-- Two lists of numbers. -/
theorem same_two (K M : List Nat) (hl : K.length ≤ 1000000) (hl2 : M.length ≤ 1000000) (W : World) (a b : Option Addr) (c d : Nat) (h : Reads W a K.length (nums K)) (h2 : Reads W b M.length (nums M)) :
    Calls Try.prog 14 #[.slice a K.length c, .slice b M.length d] W fun e w' => e = .returned (.bool (decide (K = M))) ∧ Junk W w' := by
  have e : decide (K = M) = decide (nums K = nums M) := by
    rw [decide_eq_decide]
    constructor
    · intro h; rw [h]
    · intro h
      unfold nums at h
      exact (List.map_inj_right (fun (a b : Nat) (h : (a : Int) = (b : Int)) => by omega)).1 h
  rw [e]
  exact k_SameInts a b K.length M.length c d (nums K) (nums M) W h h2 (by omega) (by omega)

theorem build_lit (w : World) (a : Option Addr) (n ca : Nat) (L : List Bx) (hX : XRC w a n ca L) (hin : InBs L) (hn : n ≤ 1000) :
    Calls Try.prog 11 #[.slice a n ca] w fun e w' => (∃ tb B T, e = .returned (.tuple #[.pointer (some ⟨tb, 0, none⟩), .int .i64 0]) ∧ TreeB w' B T tb L ∧ w.heap.size ≤ B) ∧ Junk w w' :=
  (n_btBuild w a n ca L hX hin hn).mono fun e w' ⟨⟨tb, h1, h2⟩, h3⟩ => ⟨⟨tb, _, _, h1, h2, Nat.le_refl _⟩, h3⟩
/-- The examples' boxes. -/
def smpL : List Bx := [(0, 0, 4, 4), (2, 2, 6, 6), (9, 9, 9, 12)]
theorem smp_in : InBs smpL := by
  intro b hb
  unfold smpL at hb
  simp only [List.mem_cons, List.not_mem_nil, or_false] at hb
  rcases hb with rfl | rfl | rfl <;> (unfold InB In6; decide)
theorem smp_reads {w : World} {g : Nat} (h : w.rowAt g = some #[.int .i64 0, .int .i64 0, .int .i64 4, .int .i64 4, .int .i64 2, .int .i64 2, .int .i64 6, .int .i64 6, .int .i64 9, .int .i64 9, .int .i64 9, .int .i64 12]) : XRC w (some ⟨g, 0, none⟩) 3 3 smpL := by
  refine ⟨⟨rfl, .inr ⟨g, 0, rfl, fun i hi => ?_⟩⟩, ⟨Nat.le_refl _, fun e => by cases e⟩⟩
  have hi3 : i = 0 ∨ i = 1 ∨ i = 2 := by omega
  rcases hi3 with rfl | rfl | rfl <;> exact ⟨ucell_of_row h _, ucell_of_row h _, ucell_of_row h _, ucell_of_row h _⟩
set_option maxRecDepth 100000 in
set_option maxHeartbeats 2000000 in
theorem l_btSample (w : World) : Calls Try.prog 23 #[] w fun e w' => (∃ tb B T, e = .returned (.pointer (some ⟨tb, 0, none⟩)) ∧ TreeB w' B T tb smpL ∧ w.heap.size ≤ B) ∧ Junk w w' := by
  have H1 := Lib.hid (fun w' => l_btBox 0 0 4 4 w')
  have H2 := Lib.hid (fun w' => l_btBox 2 2 6 6 w')
  have H3 := Lib.hid (fun w' => l_btBox 9 9 9 12 w')
  have HB := Lib.hid (fun (W : World) (g : Nat) (h : XRC W (some ⟨g, 0, none⟩) 3 3 smpL) => n_btBuild W (some ⟨g, 0, none⟩) 3 3 smpL h smp_in (by decide))
  unfold bxV at *
  go_enter Try.func23, Try.ntmps23
  go_wp2_with (first | (go_at_call 24; (with_reducible refine (H1.out _).mono ?_); rintro e w1 ⟨rfl, J1, d1, rfl⟩) | (go_at_call 24; (with_reducible refine (H2.out _).mono ?_); rintro e w1 ⟨rfl, J2, d2, rfl⟩) | (go_at_call 24; (with_reducible refine (H3.out _).mono ?_); rintro e w1 ⟨rfl, J3, d3, rfl⟩) | (go_at_call 11; refine (HB.out _ _ (smp_reads (by simp [go_sem]))).mono ?_; rintro e w1 ⟨⟨tb, rfl, ht⟩, J4, d4, rfl⟩; have HT := Lib.hid ht; clear ht))
  go_ret
  exact ⟨⟨tb, _, _, rfl, HT.out, by simp; omega⟩, junk_of_below (by (repeat' (first | (with_reducible exact Below.refl _ _) | (with_reducible assumption) | (with_reducible refine Below.alloc ?_ ?_ _) | (with_reducible refine Below.drew ?_) | (with_reducible refine below_drewN ?_ _) | (with_reducible refine below_plus ?_ ?_ _ _) | (with_reducible refine Below.setCell ?_ ?_ _) | (with_reducible refine Below.setRow ?_ ?_ _) | go_size)))⟩

theorem smp_at3 : scanB (inB 3 3) smpL = [0, 1] := by decide
theorem smp_at4 : scanB (inB 4 4) smpL = [1] := by decide
set_option maxRecDepth 100000 in
set_option maxHeartbeats 4000000 in
theorem l_btAwake (w : World) : Calls Try.prog 10 #[] w fun e w' => e = .returned (.bool true) ∧ Junk w w' := by
  have HS := Lib.hid l_btSample
  have HA1 := Lib.hid (fun W B T tb h => at_lit 3 3 smpL [0, 1] smp_at3 (by decide) W B T tb h)
  have HA2 := Lib.hid (fun W B T tb h => at_lit 4 4 smpL [1] smp_at4 (by decide) W B T tb h)
  have HD := Lib.hid (fun W B T tb h => depth_lit smpL 3 (by decide +kernel) (by decide) W B T tb h)
  have HC1 := Lib.hid (fun W a g c h hc => same_lit [0, 1] [0, 1] (by decide) (by decide) (by decide) W a g c h hc)
  have HC2 := Lib.hid (fun W a g c h hc => same_lit [1] [1] (by decide) (by decide) (by decide) W a g c h hc)
  generalize smpL = L at *
  unfold pt at *
  simp only [List.length_cons, List.length_nil] at HA1 HA2 HC1 HC2
  go_enter Try.func10, Try.ntmps10
  go_wp2_with (first
    | (go_at_call 23; refine (HS.out _).mono ?_; rintro e w1 ⟨⟨tb, B, T, rfl, ht, _⟩, J1, d1, rfl⟩; have HT := Lib.hid ht; clear ht)
    | (go_at_call 13; (with_reducible refine (HA1.out _ B T tb ?_).mono ?_); (exact HT.out.below (by ((try simp only [← Array.append_assoc]); repeat' (first | (with_reducible exact Below.refl _ _) | (with_reducible assumption) | (with_reducible refine Below.alloc ?_ ?_ _) | (with_reducible refine Below.drew ?_) | (with_reducible refine below_drewN ?_ _) | (with_reducible exact below_d _ _ _ _ _) | (with_reducible refine below_snoc _ _ ?_ ?_) | (with_reducible refine below_plus ?_ ?_ _ _) | (with_reducible refine Below.setCell ?_ ?_ _) | (with_reducible refine Below.setRow ?_ ?_ _) | go_size)))); rintro e w1 ⟨⟨a1, c1, rfl, hr, _⟩, J2, d2, rfl⟩; (try simp only [plus_plus, Array.append_assoc] at hr); have HR1 := Lib.hid hr; clear hr)
    | (go_at_call 13; (with_reducible refine (HA2.out _ B T tb ?_).mono ?_); (exact HT.out.below (by ((try simp only [← Array.append_assoc]); repeat' (first | (with_reducible exact Below.refl _ _) | (with_reducible assumption) | (with_reducible refine Below.alloc ?_ ?_ _) | (with_reducible refine Below.drew ?_) | (with_reducible refine below_drewN ?_ _) | (with_reducible exact below_d _ _ _ _ _) | (with_reducible refine below_snoc _ _ ?_ ?_) | (with_reducible refine below_plus ?_ ?_ _ _) | (with_reducible refine Below.setCell ?_ ?_ _) | (with_reducible refine Below.setRow ?_ ?_ _) | go_size)))); rintro e w1 ⟨⟨a2, c2, rfl, hr, _⟩, J3, d3, rfl⟩; (try simp only [plus_plus, Array.append_assoc] at hr); have HR2 := Lib.hid hr; clear hr)
    | (go_at_call 18; refine (HD.out _ _ _ _ (HT.out.below (by ((try simp only [← Array.append_assoc]); repeat' (first | (with_reducible exact Below.refl _ _) | (with_reducible assumption) | (with_reducible refine Below.alloc ?_ ?_ _) | (with_reducible refine Below.drew ?_) | (with_reducible refine below_drewN ?_ _) | (with_reducible exact below_d _ _ _ _ _) | (with_reducible refine below_snoc _ _ ?_ ?_) | (with_reducible refine below_plus ?_ ?_ _ _) | (with_reducible refine Below.setCell ?_ ?_ _) | (with_reducible refine Below.setRow ?_ ?_ _) | go_size))))).mono ?_; rintro e w1 ⟨rfl, J4, d4, rfl⟩)
    | (go_at_call 14; refine (HC1.out _ _ _ _ (HR1.out.below (by ((try simp only [← Array.append_assoc]); repeat' (first | (with_reducible exact Below.refl _ _) | (with_reducible assumption) | (with_reducible refine Below.alloc ?_ ?_ _) | (with_reducible refine Below.drew ?_) | (with_reducible refine below_drewN ?_ _) | (with_reducible exact below_d _ _ _ _ _) | (with_reducible refine below_snoc _ _ ?_ ?_) | (with_reducible refine below_plus ?_ ?_ _ _) | (with_reducible refine Below.setCell ?_ ?_ _) | (with_reducible refine Below.setRow ?_ ?_ _) | go_size)))) (fun i hi => ?_)).mono ?_; (have h2 : i = 0 ∨ i = 1 := (by omega)); (rcases h2 with rfl | rfl <;> simp [go_sem]); rintro e w1 ⟨rfl, J5, d5, rfl⟩; clear HR1)
    | (go_at_call 14; refine (HC2.out _ _ _ _ (HR2.out.below (by ((try simp only [← Array.append_assoc]); repeat' (first | (with_reducible exact Below.refl _ _) | (with_reducible assumption) | (with_reducible refine Below.alloc ?_ ?_ _) | (with_reducible refine Below.drew ?_) | (with_reducible refine below_drewN ?_ _) | (with_reducible exact below_d _ _ _ _ _) | (with_reducible refine below_snoc _ _ ?_ ?_) | (with_reducible refine below_plus ?_ ?_ _ _) | (with_reducible refine Below.setCell ?_ ?_ _) | (with_reducible refine Below.setRow ?_ ?_ _) | go_size)))) (fun i hi => ?_)).mono ?_; (have h2 : i = 0 := (by omega)); (subst h2; simp [go_sem]); rintro e w1 ⟨rfl, J6, d6, rfl⟩))
  go_ret
  exact ⟨rfl, junk_of_below (by (repeat' (first | (with_reducible exact Below.refl _ _) | (with_reducible assumption) | (with_reducible refine Below.alloc ?_ ?_ _) | (with_reducible refine Below.drew ?_) | (with_reducible refine below_drewN ?_ _) | (with_reducible refine below_plus ?_ ?_ _ _) | (with_reducible refine Below.setCell ?_ ?_ _) | (with_reducible refine Below.setRow ?_ ?_ _) | go_size)))⟩
end

section
set_option linter.unusedVariables false
set_option linter.unusedSimpArgs false
open Go.RowKit

theorem ints_self (K : List Nat) (n : Nat) (hK : K.length = n) (hl : n ≤ 1000000) (W : World) (a b : Option Addr) (c d : Nat) (h : Reads W a n (nums K)) (h2 : Reads W b n (nums K)) :
    Calls Try.prog 14 #[.slice a n c, .slice b n d] W fun e w' => e = .returned (.bool true) ∧ Junk W w' := by
  subst hK
  have := same_two K K hl hl W a b c d h h2
  rw [decide_eq_true rfl] at this
  exact this
theorem order_len (L : List Bx) (n : Nat) (hn : L.length = n) (hl : n ≤ 1000000) (W : World) (B T tb : Nat) (h : TreeB W B T tb L) :
    Calls Try.prog 20 #[.pointer (some ⟨tb, 0, none⟩)] W fun e w' => (∃ a c, e = .returned (.slice a n c) ∧ Reads w' a n (nums (ordB L))) ∧ Junk W w' := by
  have hlen : (ordB L).length = n := by rw [(ordB_perm L).length_eq, List.length_range]; exact hn
  have := order_lit L (ordB L) rfl (by omega) W B T tb h
  rw [hlen] at this
  exact this.mono fun e w' ⟨⟨a, c, h1, h2, _⟩, h3⟩ => ⟨⟨a, c, h1, h2⟩, h3⟩
set_option maxRecDepth 100000 in
set_option maxHeartbeats 4000000 in
theorem l_boxtreeStands (w : World) (a : Option Addr) (n ca : Nat) (L : List Bx) (hX : XRC w a n ca L) (hin : InBs L) (hs : n ≤ 9223372036854775807) (hz : a = none → n = 0 ∧ ca = 0) (i : Int) (hi : -9223372036854775808 ≤ i ∧ i ≤ 9223372036854775807) :
    Calls Try.prog 4 #[.slice a n ca, .int .i64 i] w fun e w' => e = .returned (.bool true) ∧ Junk w w' := by
  have HAw := Lib.hid l_btAwake
  by_cases hbig : 120 < n
  · have i1 : (n : Int) > 120 := by omega
    have i2 : (120 : Int) < (n : Int) := by omega
    clear hX hin hs hz hi hbig
    go_enter Try.func4, Try.ntmps4
    go_wp2_with (go_at_call 10; refine (HAw.out _).mono ?_; rintro e w1 ⟨rfl, J1, d1, rfl⟩)
    go_ret
    exact ⟨rfl, junk_of_below (by (repeat' (first | (with_reducible exact Below.refl _ _) | (with_reducible assumption) | (with_reducible refine Below.alloc ?_ ?_ _) | (with_reducible refine Below.drew ?_) | (with_reducible refine below_drewN ?_ _) | (with_reducible refine below_plus ?_ ?_ _ _) | (with_reducible refine Below.setCell ?_ ?_ _) | (with_reducible refine Below.setRow ?_ ?_ _) | go_size)))⟩
  have i1 : ¬ (n : Int) > 120 := by omega
  have hL := hX.rd.1
  have HX := Lib.hid hX
  have HB := Lib.hid (fun (W : World) (h : XRC W a n ca L) => build_lit W a n ca L h hin (by omega))
  have HD := Lib.hid (fun W B T tb h => depth_lit L (depthF n) (by rw [hL]) (by omega) W B T tb h)
  have HRD := Lib.hid (fun W => r_btDepth n n W (Nat.le_refl _) (by omega))
  have HO := Lib.hid (fun W B T tb h => order_len L n hL (by omega) W B T tb h)
  have HRO := Lib.hid (fun (W : World) (h : XRC W a n ca L) => r_btOrder W a n ca L hin h.rd (by omega))
  have HSm := Lib.hid (fun W x y c d h h2 => ints_self (ordB L) n (by rw [(ordB_perm L).length_eq, List.length_range]; exact hL) (by omega) W x y c d h h2)
  have hdp : depthF n ≤ 120 := Nat.le_trans (depth_self n) (by omega)
  generalize depthF n = D at *
  generalize ordB L = O at *
  have i2 : ((D : Int) != (D : Int)) = false := by simp
  by_cases hr : 0 ≤ i ∧ i < n
  · obtain ⟨j, rfl⟩ : ∃ j : Nat, i = j := ⟨i.toNat, by omega⟩
    have hj : j < n := by omega
    obtain ⟨bl, ol, x1, x2, x3, x4, ea, ex, b1, b2, b3, b4, lbl⟩ := xreads_at hX.rd (k := j) hj
    subst ea
    have HBx := Lib.hid (fun W B T tb h => show Calls Try.prog 22 #[.pointer (some ⟨tb, 0, none⟩), .int .i64 (j : Int)] W fun e w' => e = .returned (.tuple #[bxV x1 x2 x3 x4, .int .i64 0]) ∧ Junk W w' by
      have := n_treeBox (i := (j : Int)) (show TreeB W B T tb L from h)
      unfold bxAt at this
      rw [if_pos ⟨by omega, by omega⟩, Int.toNat_natCast, ex] at this
      exact this)
    have i3 : ¬ (j : Int) < 0 := by omega
    have i4 : ¬ (j : Int) ≥ (n : Int) := by omega
    have i5 : ¬ (n : Int) ≤ (j : Int) := by omega
    have i6 : (j : Int) < (n : Int) := by omega
    unfold bxV at HBx
    clear hX hin hs hz hi hbig hr hL hdp ex hj
    go_enter Try.func4, Try.ntmps4
    go_wp2_with (first
      | (go_at_call 11; refine (HB.out _ (HX.out.below (by ((try simp only [← Array.append_assoc]); repeat' (first | (with_reducible exact Below.refl _ _) | (with_reducible assumption) | (with_reducible refine Below.alloc ?_ ?_ _) | (with_reducible refine Below.drew ?_) | (with_reducible refine below_drewN ?_ _) | (with_reducible exact below_d _ _ _ _ _) | (with_reducible refine below_snoc _ _ ?_ ?_) | (with_reducible refine below_plus ?_ ?_ _ _) | (with_reducible refine Below.setCell ?_ ?_ _) | (with_reducible refine Below.setRow ?_ ?_ _) | go_size))))).mono ?_; rintro e w1 ⟨⟨tb, B, T, rfl, ht, _⟩, J1, d1, rfl⟩; have HT := Lib.hid ht; clear ht)
      | (go_at_call 18; refine (HD.out _ B T tb (HT.out.below (by ((try simp only [← Array.append_assoc]); repeat' (first | (with_reducible exact Below.refl _ _) | (with_reducible assumption) | (with_reducible refine Below.alloc ?_ ?_ _) | (with_reducible refine Below.drew ?_) | (with_reducible refine below_drewN ?_ _) | (with_reducible exact below_d _ _ _ _ _) | (with_reducible refine below_snoc _ _ ?_ ?_) | (with_reducible refine below_plus ?_ ?_ _ _) | (with_reducible refine Below.setCell ?_ ?_ _) | (with_reducible refine Below.setRow ?_ ?_ _) | go_size))))).mono ?_; rintro e w1 ⟨rfl, J2, d2, rfl⟩)
      | (go_at_call 19; refine (HRD.out _).mono ?_; rintro e w1 ⟨rfl, J3, d3, rfl⟩)
      | (go_at_call 20; refine (HO.out _ B T tb (HT.out.below (by ((try simp only [← Array.append_assoc]); repeat' (first | (with_reducible exact Below.refl _ _) | (with_reducible assumption) | (with_reducible refine Below.alloc ?_ ?_ _) | (with_reducible refine Below.drew ?_) | (with_reducible refine below_drewN ?_ _) | (with_reducible exact below_d _ _ _ _ _) | (with_reducible refine below_snoc _ _ ?_ ?_) | (with_reducible refine below_plus ?_ ?_ _ _) | (with_reducible refine Below.setCell ?_ ?_ _) | (with_reducible refine Below.setRow ?_ ?_ _) | go_size))))).mono ?_; rintro e w1 ⟨⟨a1, c1, rfl, hr⟩, J4, d4, rfl⟩; (try simp only [plus_plus, Array.append_assoc] at hr); have HR1 := Lib.hid hr; clear hr)
      | (go_at_call 21; refine (HRO.out _ (HX.out.below (by ((try simp only [← Array.append_assoc]); repeat' (first | (with_reducible exact Below.refl _ _) | (with_reducible assumption) | (with_reducible refine Below.alloc ?_ ?_ _) | (with_reducible refine Below.drew ?_) | (with_reducible refine below_drewN ?_ _) | (with_reducible exact below_d _ _ _ _ _) | (with_reducible refine below_snoc _ _ ?_ ?_) | (with_reducible refine below_plus ?_ ?_ _ _) | (with_reducible refine Below.setCell ?_ ?_ _) | (with_reducible refine Below.setRow ?_ ?_ _) | go_size))))).mono ?_; rintro e w1 ⟨⟨a2, c2, rfl, hr, _⟩, J5, d5, rfl⟩; (try simp only [plus_plus, Array.append_assoc] at hr); have HR2 := Lib.hid hr; clear hr)
      | (go_at_call 14; refine (HSm.out _ _ _ _ _ (HR1.out.below (by ((try simp only [← Array.append_assoc]); repeat' (first | (with_reducible exact Below.refl _ _) | (with_reducible assumption) | (with_reducible refine Below.alloc ?_ ?_ _) | (with_reducible refine Below.drew ?_) | (with_reducible refine below_drewN ?_ _) | (with_reducible exact below_d _ _ _ _ _) | (with_reducible refine below_snoc _ _ ?_ ?_) | (with_reducible refine below_plus ?_ ?_ _ _) | (with_reducible refine Below.setCell ?_ ?_ _) | (with_reducible refine Below.setRow ?_ ?_ _) | go_size)))) (HR2.out.below (by ((try simp only [← Array.append_assoc]); repeat' (first | (with_reducible exact Below.refl _ _) | (with_reducible assumption) | (with_reducible refine Below.alloc ?_ ?_ _) | (with_reducible refine Below.drew ?_) | (with_reducible refine below_drewN ?_ _) | (with_reducible exact below_d _ _ _ _ _) | (with_reducible refine below_snoc _ _ ?_ ?_) | (with_reducible refine below_plus ?_ ?_ _ _) | (with_reducible refine Below.setCell ?_ ?_ _) | (with_reducible refine Below.setRow ?_ ?_ _) | go_size))))).mono ?_; rintro e w1 ⟨rfl, J6, d6, rfl⟩)
      | (go_at_call 22; refine (HBx.out _ B T tb (HT.out.below (by ((try simp only [← Array.append_assoc]); repeat' (first | (with_reducible exact Below.refl _ _) | (with_reducible assumption) | (with_reducible refine Below.alloc ?_ ?_ _) | (with_reducible refine Below.drew ?_) | (with_reducible refine below_drewN ?_ _) | (with_reducible exact below_d _ _ _ _ _) | (with_reducible refine below_snoc _ _ ?_ ?_) | (with_reducible refine below_plus ?_ ?_ _ _) | (with_reducible refine Below.setCell ?_ ?_ _) | (with_reducible refine Below.setRow ?_ ?_ _) | go_size))))).mono ?_; rintro e w1 ⟨rfl, J7, d7, rfl⟩)
      | (go_at_call 10; refine (HAw.out _).mono ?_; rintro e w1 ⟨rfl, J8, d8, rfl⟩))
    refine region_quiet_all (C := Cls _) (by kernel_rfl) (by kernel_rfl) (cls_drawn _) ?_
    repeat (first | (refine qw_skip (by rfl) ?_; simp only [Act.put, List.setIfInBounds_toArray, List.set_cons_succ, List.set_cons_zero]) | (refine qw_want (by rfl) (fun K hK => ?_); go_simp; first | (refine hK _ ?_; clear hK K) | (apply Exists.intro; refine ⟨?_, hK _ ?_⟩; (rintro w3_ ⟨J3_, d3_, rfl⟩; first | (with_reducible exact rfl) | (go_simp; with_reducible exact rfl) | (go_simp; (first | (with_reducible refine (HAw.out _).mono ?_)); rintro e_ w_ ⟨rfl, J4_, d4_, rfl⟩; exact ⟨rfl, J3_ ++ J4_, d4_, by simp only [plus_plus, Array.append_assoc]⟩)); clear hK K)))
    refine qw_nil ?_
    rintro w3 ⟨J9, d9, rfl⟩
    go_wp2_with fail
    go_ret
    exact ⟨rfl, junk_of_below (by (repeat' (first | (with_reducible exact Below.refl _ _) | (with_reducible assumption) | (with_reducible refine Below.alloc ?_ ?_ _) | (with_reducible refine Below.drew ?_) | (with_reducible refine below_drewN ?_ _) | (with_reducible refine below_plus ?_ ?_ _ _) | (with_reducible refine Below.setCell ?_ ?_ _) | (with_reducible refine Below.setRow ?_ ?_ _) | go_size)))⟩
  · have HBx := Lib.hid (fun W B T tb h => show Calls Try.prog 22 #[.pointer (some ⟨tb, 0, none⟩), .int .i64 i] W fun e w' => e = .returned (.tuple #[bxV 0 0 0 0, .int .i64 6]) ∧ Junk W w' by
      have := n_treeBox (i := i) (show TreeB W B T tb L from h)
      unfold bxAt at this
      rw [if_neg (by omega)] at this
      exact this)
    unfold bxV at HBx
    clear hX hin hs hz hi hbig hL hdp
    by_cases h0 : i < 0
    · clear hr
      go_enter Try.func4, Try.ntmps4
      go_wp2_with (first
        | (go_at_call 11; refine (HB.out _ (HX.out.below (by ((try simp only [← Array.append_assoc]); repeat' (first | (with_reducible exact Below.refl _ _) | (with_reducible assumption) | (with_reducible refine Below.alloc ?_ ?_ _) | (with_reducible refine Below.drew ?_) | (with_reducible refine below_drewN ?_ _) | (with_reducible exact below_d _ _ _ _ _) | (with_reducible refine below_snoc _ _ ?_ ?_) | (with_reducible refine below_plus ?_ ?_ _ _) | (with_reducible refine Below.setCell ?_ ?_ _) | (with_reducible refine Below.setRow ?_ ?_ _) | go_size))))).mono ?_; rintro e w1 ⟨⟨tb, B, T, rfl, ht, _⟩, J1, d1, rfl⟩; have HT := Lib.hid ht; clear ht)
        | (go_at_call 18; refine (HD.out _ B T tb (HT.out.below (by ((try simp only [← Array.append_assoc]); repeat' (first | (with_reducible exact Below.refl _ _) | (with_reducible assumption) | (with_reducible refine Below.alloc ?_ ?_ _) | (with_reducible refine Below.drew ?_) | (with_reducible refine below_drewN ?_ _) | (with_reducible exact below_d _ _ _ _ _) | (with_reducible refine below_snoc _ _ ?_ ?_) | (with_reducible refine below_plus ?_ ?_ _ _) | (with_reducible refine Below.setCell ?_ ?_ _) | (with_reducible refine Below.setRow ?_ ?_ _) | go_size))))).mono ?_; rintro e w1 ⟨rfl, J2, d2, rfl⟩)
        | (go_at_call 19; refine (HRD.out _).mono ?_; rintro e w1 ⟨rfl, J3, d3, rfl⟩)
        | (go_at_call 20; refine (HO.out _ B T tb (HT.out.below (by ((try simp only [← Array.append_assoc]); repeat' (first | (with_reducible exact Below.refl _ _) | (with_reducible assumption) | (with_reducible refine Below.alloc ?_ ?_ _) | (with_reducible refine Below.drew ?_) | (with_reducible refine below_drewN ?_ _) | (with_reducible exact below_d _ _ _ _ _) | (with_reducible refine below_snoc _ _ ?_ ?_) | (with_reducible refine below_plus ?_ ?_ _ _) | (with_reducible refine Below.setCell ?_ ?_ _) | (with_reducible refine Below.setRow ?_ ?_ _) | go_size))))).mono ?_; rintro e w1 ⟨⟨a1, c1, rfl, hr⟩, J4, d4, rfl⟩; (try simp only [plus_plus, Array.append_assoc] at hr); have HR1 := Lib.hid hr; clear hr)
        | (go_at_call 21; refine (HRO.out _ (HX.out.below (by ((try simp only [← Array.append_assoc]); repeat' (first | (with_reducible exact Below.refl _ _) | (with_reducible assumption) | (with_reducible refine Below.alloc ?_ ?_ _) | (with_reducible refine Below.drew ?_) | (with_reducible refine below_drewN ?_ _) | (with_reducible exact below_d _ _ _ _ _) | (with_reducible refine below_snoc _ _ ?_ ?_) | (with_reducible refine below_plus ?_ ?_ _ _) | (with_reducible refine Below.setCell ?_ ?_ _) | (with_reducible refine Below.setRow ?_ ?_ _) | go_size))))).mono ?_; rintro e w1 ⟨⟨a2, c2, rfl, hr, _⟩, J5, d5, rfl⟩; (try simp only [plus_plus, Array.append_assoc] at hr); have HR2 := Lib.hid hr; clear hr)
        | (go_at_call 14; refine (HSm.out _ _ _ _ _ (HR1.out.below (by ((try simp only [← Array.append_assoc]); repeat' (first | (with_reducible exact Below.refl _ _) | (with_reducible assumption) | (with_reducible refine Below.alloc ?_ ?_ _) | (with_reducible refine Below.drew ?_) | (with_reducible refine below_drewN ?_ _) | (with_reducible exact below_d _ _ _ _ _) | (with_reducible refine below_snoc _ _ ?_ ?_) | (with_reducible refine below_plus ?_ ?_ _ _) | (with_reducible refine Below.setCell ?_ ?_ _) | (with_reducible refine Below.setRow ?_ ?_ _) | go_size)))) (HR2.out.below (by ((try simp only [← Array.append_assoc]); repeat' (first | (with_reducible exact Below.refl _ _) | (with_reducible assumption) | (with_reducible refine Below.alloc ?_ ?_ _) | (with_reducible refine Below.drew ?_) | (with_reducible refine below_drewN ?_ _) | (with_reducible exact below_d _ _ _ _ _) | (with_reducible refine below_snoc _ _ ?_ ?_) | (with_reducible refine below_plus ?_ ?_ _ _) | (with_reducible refine Below.setCell ?_ ?_ _) | (with_reducible refine Below.setRow ?_ ?_ _) | go_size))))).mono ?_; rintro e w1 ⟨rfl, J6, d6, rfl⟩)
        | (go_at_call 22; refine (HBx.out _ B T tb (HT.out.below (by ((try simp only [← Array.append_assoc]); repeat' (first | (with_reducible exact Below.refl _ _) | (with_reducible assumption) | (with_reducible refine Below.alloc ?_ ?_ _) | (with_reducible refine Below.drew ?_) | (with_reducible refine below_drewN ?_ _) | (with_reducible exact below_d _ _ _ _ _) | (with_reducible refine below_snoc _ _ ?_ ?_) | (with_reducible refine below_plus ?_ ?_ _ _) | (with_reducible refine Below.setCell ?_ ?_ _) | (with_reducible refine Below.setRow ?_ ?_ _) | go_size))))).mono ?_; rintro e w1 ⟨rfl, J7, d7, rfl⟩)
        | (go_at_call 10; refine (HAw.out _).mono ?_; rintro e w1 ⟨rfl, J8, d8, rfl⟩))
      go_ret
      exact ⟨rfl, junk_of_below (by (repeat' (first | (with_reducible exact Below.refl _ _) | (with_reducible assumption) | (with_reducible refine Below.alloc ?_ ?_ _) | (with_reducible refine Below.drew ?_) | (with_reducible refine below_drewN ?_ _) | (with_reducible refine below_plus ?_ ?_ _ _) | (with_reducible refine Below.setCell ?_ ?_ _) | (with_reducible refine Below.setRow ?_ ?_ _) | go_size)))⟩
    · have i3 : (n : Int) ≤ i := by omega
      have i4 : i ≥ (n : Int) := by omega
      clear hr
      go_enter Try.func4, Try.ntmps4
      go_wp2_with (first
        | (go_at_call 11; refine (HB.out _ (HX.out.below (by ((try simp only [← Array.append_assoc]); repeat' (first | (with_reducible exact Below.refl _ _) | (with_reducible assumption) | (with_reducible refine Below.alloc ?_ ?_ _) | (with_reducible refine Below.drew ?_) | (with_reducible refine below_drewN ?_ _) | (with_reducible exact below_d _ _ _ _ _) | (with_reducible refine below_snoc _ _ ?_ ?_) | (with_reducible refine below_plus ?_ ?_ _ _) | (with_reducible refine Below.setCell ?_ ?_ _) | (with_reducible refine Below.setRow ?_ ?_ _) | go_size))))).mono ?_; rintro e w1 ⟨⟨tb, B, T, rfl, ht, _⟩, J1, d1, rfl⟩; have HT := Lib.hid ht; clear ht)
        | (go_at_call 18; refine (HD.out _ B T tb (HT.out.below (by ((try simp only [← Array.append_assoc]); repeat' (first | (with_reducible exact Below.refl _ _) | (with_reducible assumption) | (with_reducible refine Below.alloc ?_ ?_ _) | (with_reducible refine Below.drew ?_) | (with_reducible refine below_drewN ?_ _) | (with_reducible exact below_d _ _ _ _ _) | (with_reducible refine below_snoc _ _ ?_ ?_) | (with_reducible refine below_plus ?_ ?_ _ _) | (with_reducible refine Below.setCell ?_ ?_ _) | (with_reducible refine Below.setRow ?_ ?_ _) | go_size))))).mono ?_; rintro e w1 ⟨rfl, J2, d2, rfl⟩)
        | (go_at_call 19; refine (HRD.out _).mono ?_; rintro e w1 ⟨rfl, J3, d3, rfl⟩)
        | (go_at_call 20; refine (HO.out _ B T tb (HT.out.below (by ((try simp only [← Array.append_assoc]); repeat' (first | (with_reducible exact Below.refl _ _) | (with_reducible assumption) | (with_reducible refine Below.alloc ?_ ?_ _) | (with_reducible refine Below.drew ?_) | (with_reducible refine below_drewN ?_ _) | (with_reducible exact below_d _ _ _ _ _) | (with_reducible refine below_snoc _ _ ?_ ?_) | (with_reducible refine below_plus ?_ ?_ _ _) | (with_reducible refine Below.setCell ?_ ?_ _) | (with_reducible refine Below.setRow ?_ ?_ _) | go_size))))).mono ?_; rintro e w1 ⟨⟨a1, c1, rfl, hr⟩, J4, d4, rfl⟩; (try simp only [plus_plus, Array.append_assoc] at hr); have HR1 := Lib.hid hr; clear hr)
        | (go_at_call 21; refine (HRO.out _ (HX.out.below (by ((try simp only [← Array.append_assoc]); repeat' (first | (with_reducible exact Below.refl _ _) | (with_reducible assumption) | (with_reducible refine Below.alloc ?_ ?_ _) | (with_reducible refine Below.drew ?_) | (with_reducible refine below_drewN ?_ _) | (with_reducible exact below_d _ _ _ _ _) | (with_reducible refine below_snoc _ _ ?_ ?_) | (with_reducible refine below_plus ?_ ?_ _ _) | (with_reducible refine Below.setCell ?_ ?_ _) | (with_reducible refine Below.setRow ?_ ?_ _) | go_size))))).mono ?_; rintro e w1 ⟨⟨a2, c2, rfl, hr, _⟩, J5, d5, rfl⟩; (try simp only [plus_plus, Array.append_assoc] at hr); have HR2 := Lib.hid hr; clear hr)
        | (go_at_call 14; refine (HSm.out _ _ _ _ _ (HR1.out.below (by ((try simp only [← Array.append_assoc]); repeat' (first | (with_reducible exact Below.refl _ _) | (with_reducible assumption) | (with_reducible refine Below.alloc ?_ ?_ _) | (with_reducible refine Below.drew ?_) | (with_reducible refine below_drewN ?_ _) | (with_reducible exact below_d _ _ _ _ _) | (with_reducible refine below_snoc _ _ ?_ ?_) | (with_reducible refine below_plus ?_ ?_ _ _) | (with_reducible refine Below.setCell ?_ ?_ _) | (with_reducible refine Below.setRow ?_ ?_ _) | go_size)))) (HR2.out.below (by ((try simp only [← Array.append_assoc]); repeat' (first | (with_reducible exact Below.refl _ _) | (with_reducible assumption) | (with_reducible refine Below.alloc ?_ ?_ _) | (with_reducible refine Below.drew ?_) | (with_reducible refine below_drewN ?_ _) | (with_reducible exact below_d _ _ _ _ _) | (with_reducible refine below_snoc _ _ ?_ ?_) | (with_reducible refine below_plus ?_ ?_ _ _) | (with_reducible refine Below.setCell ?_ ?_ _) | (with_reducible refine Below.setRow ?_ ?_ _) | go_size))))).mono ?_; rintro e w1 ⟨rfl, J6, d6, rfl⟩)
        | (go_at_call 22; refine (HBx.out _ B T tb (HT.out.below (by ((try simp only [← Array.append_assoc]); repeat' (first | (with_reducible exact Below.refl _ _) | (with_reducible assumption) | (with_reducible refine Below.alloc ?_ ?_ _) | (with_reducible refine Below.drew ?_) | (with_reducible refine below_drewN ?_ _) | (with_reducible exact below_d _ _ _ _ _) | (with_reducible refine below_snoc _ _ ?_ ?_) | (with_reducible refine below_plus ?_ ?_ _ _) | (with_reducible refine Below.setCell ?_ ?_ _) | (with_reducible refine Below.setRow ?_ ?_ _) | go_size))))).mono ?_; rintro e w1 ⟨rfl, J7, d7, rfl⟩)
        | (go_at_call 10; refine (HAw.out _).mono ?_; rintro e w1 ⟨rfl, J8, d8, rfl⟩))
      go_ret
      exact ⟨rfl, junk_of_below (by (repeat' (first | (with_reducible exact Below.refl _ _) | (with_reducible assumption) | (with_reducible refine Below.alloc ?_ ?_ _) | (with_reducible refine Below.drew ?_) | (with_reducible refine below_drewN ?_ _) | (with_reducible refine below_plus ?_ ?_ _ _) | (with_reducible refine Below.setCell ?_ ?_ _) | (with_reducible refine Below.setRow ?_ ?_ _) | go_size)))⟩
end
end Go.Proofs.Ytnpkhhchbahcpaa

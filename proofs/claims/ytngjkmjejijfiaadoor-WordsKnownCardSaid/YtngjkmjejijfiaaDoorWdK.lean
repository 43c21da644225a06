/- Contracts of apportionkit's SameTexts and OverTexts. -/
import Derived.Test.YtngjkmjejijfiaaDoorWdL
import Derived.Test.YtngjkmjejijfiaaDoorRowSet
import Derived.LoopN
namespace Go.Proofs.YtngjkmjejijfiaaDoor
set_option linter.unusedVariables false
set_option linter.unusedSimpArgs false
open Go.RowKit

theorem take_eq_s {K M : List Tx} {k : Nat} (h : K.take k = M.take k) (hk : k < K.length) (hm : k < M.length) (e : K.getD k [] = M.getD k []) : K.take (k + 1) = M.take (k + 1) := by
  rw [List.take_succ_eq_append_getElem hk, List.take_succ_eq_append_getElem hm, h]
  rw [List.getD_eq_getElem?_getD, List.getD_eq_getElem?_getD, List.getElem?_eq_getElem hk, List.getElem?_eq_getElem hm] at e
  rw [show K[k] = M[k] from e]
set_option maxRecDepth 100000 in
set_option maxHeartbeats 1000000 in
theorem k_SameTexts (w : World) (a b : Option Addr) (n m ca cb : Nat) (K M : List Tx) (hK : SReads w a n K) (hM : SReads w b m M) (hn : n ≤ 1000000) (hm : m ≤ 1000000) :
    Calls Tryd.prog 14 #[.slice a n ca, .slice b m cb] w fun e w' => e = .returned (.bool (decide (K = M))) ∧ Junk w w' := by
  obtain ⟨hKl, hKc⟩ := hK
  obtain ⟨hMl, hMc⟩ := hM
  by_cases hnm : n = m
  · subst hnm
    have HKc := Lib.hid hKc; have HMc := Lib.hid hMc; have HKl := Lib.hid hKl; have HMl := Lib.hid hMl
    obtain ⟨r, hr⟩ : ∃ r, decide (K = M) = r := ⟨_, rfl⟩
    rw [hr]
    have HR := Lib.hid hr
    clear hKc hMc hr hKl hMl
    go_enter Tryd.func14, Tryd.ntmps14
    go_wp2_with fail
    go_loopw [5] (fun i wr => ∃ (k d : Nat), i = .int .i64 (k : Int) ∧ k ≤ n ∧ K.take k = M.take k ∧ wr = w.drewN d) (fun i _ => n - (intOf i).toNat)
    case atStart => exact ⟨0, 0, rfl, Nat.zero_le _, rfl, rfl⟩
    case round =>
      obtain ⟨k, d, rfl, hk, ht, rfl⟩ := hrel
      have HT := Lib.hid ht
      clear ht
      by_cases hlt : k < n
      · obtain ⟨b1, o1, rfl, hc1⟩ : ∃ b off, a = some ⟨b, off, none⟩ ∧ ∀ i, i < n → w.cell? ⟨b, off + i, none⟩ = some (sV (K.getD i [])) := HKc.out.resolve_left (by omega)
        obtain ⟨b2, o2, rfl, hc2⟩ : ∃ b' off, b = some ⟨b', off, none⟩ ∧ ∀ i, i < n → w.cell? ⟨b', off + i, none⟩ = some (sV (M.getD i [])) := HMc.out.resolve_left (by omega)
        have c1 := hc1 k hlt
        have c3 := hc2 k hlt
        have HE := Lib.hid (fun e => take_eq_s HT.out (by have := HKl.out; omega) (by have := HMl.out; omega) e)
        have HNE := Lib.hid (fun (e : K.getD k [] ≠ M.getD k []) => (show K ≠ M from fun h => e (by rw [h])))
        generalize K.getD k [] = x at *
        generalize M.getD k [] = y at *
        clear hc1 hc2
        by_cases e : x = y
        · have HT2 := Lib.hid (HE.out e)
          have hne : (x == y) = true := beq_iff_eq.2 e
          clear e
          go_wp2_with fail
          go_quiet (fail)
          go_wp2_with fail
          go_roundw
          case rel => exact ⟨k + 1, _, by go_num, by omega, HT2.out, rfl⟩
          case measure => simp [intOf]; omega
        · have HT2 := Lib.hid (HNE.out e)
          have hne : (x == y) = false := beq_eq_false_iff_ne.2 e
          clear e
          go_wp2_with fail
          go_quiet (fail)
          go_wp2
          go_ret
          exact ⟨by rw [← HR.out, decide_eq_false HT2.out]; rfl, junk_of_below (by (repeat' first | with_reducible (first | apply Below.refl | assumption | apply bw_a | apply bw_d | apply bw_n | apply bw_p | apply bw_c | apply bw_r) | go_size))⟩
      · obtain rfl : k = n := by omega
        have HEQ := Lib.hid (show K = M by
          have h := HT.out
          rwa [List.take_of_length_le (by have := HKl.out; omega), List.take_of_length_le (by have := HMl.out; omega)] at h)
        go_wp2
        go_ret
        exact ⟨by rw [← HR.out, decide_eq_true HEQ.out]; rfl, junk_of_below (by (repeat' first | with_reducible (first | apply Below.refl | assumption | apply bw_a | apply bw_d | apply bw_n | apply bw_p | apply bw_c | apply bw_r) | go_size))⟩
  · have hne : ((n : Int) != (m : Int)) = true := by rw [bne_iff_ne]; omega
    have HN := Lib.hid (show K ≠ M from fun h => hnm (by rw [← hKl, ← hMl, h]))
    clear hKc hMc hKl hMl hnm
    go_enter Tryd.func14, Tryd.ntmps14
    go_wp2
    go_ret
    exact ⟨by rw [decide_eq_false HN.out]; rfl, junk_of_below (by (repeat' first | with_reducible (first | apply Below.refl | assumption | apply bw_a | apply bw_d | apply bw_n | apply bw_p | apply bw_c | apply bw_r) | go_size))⟩

/-- Nothing but the row of v has turned. -/
structure OnlyS (v : Value) (w w' : World) : Prop where
  os : w'.os = w.os
  tape : w'.tape = w.tape
  output : w'.output = w.output
  size : w'.heap.size = w.heap.size
  block : ∀ k, v.ownBlock ≠ some k → w'.heap[k]? = w.heap[k]?
theorem OnlyS.refl (v : Value) (w : World) : OnlyS v w w := ⟨rfl, rfl, rfl, rfl, fun _ _ => rfl⟩
theorem OnlyS.setRow {w w' : World} {g n cap : Nat} (h : OnlyS (.slice (some ⟨g, 0, none⟩) n cap) w w') (c : Array Value) : OnlyS (.slice (some ⟨g, 0, none⟩) n cap) w (w'.setRow g c) :=
  ⟨h.os, h.tape, h.output, by simpa using h.size, fun k hk => by rw [setRow_other w' g k c (fun e => hk (by subst e; rfl))]; exact h.block k hk⟩
theorem OnlyS.below {v : Value} {w w' : World} {B : Nat} (h : OnlyS v w w') (hB : ∀ k, v.ownBlock = some k → B ≤ k) : Below B w w' :=
  ⟨h.os, h.tape, h.output, Nat.le_of_eq h.size.symm, fun k hk => h.block k (fun e => by have := hB k e; omega)⟩
theorem sx_cat (x y : Tx) : (⟨x.toArray⟩ : ByteArray) ++ ⟨y.toArray⟩ = ⟨(x ++ y).toArray⟩ := by
  apply ByteArray.ext
  simp
def SOverAt (w : World) (v : Value) (g cap : Nat) (i : Value) (wr : World) : Prop := ∃ (k : Nat) (cur : Array Value), i = .int .i64 (k : Int) ∧ k ≤ cap ∧ wr.rowAt g = some cur ∧ cur.size = cap ∧ (∀ j, k ≤ j → j < cap → ∃ x : Tx, x.length ≤ 1000000 ∧ cur[j]? = some (sV x)) ∧ OnlyS v w wr
set_option maxHeartbeats 2000000 in
theorem k_OverTexts (w : World) (base : Nat) (v : Value) (L : List Tx) (hfull : SFull w base v L) :
    Calls Tryd.prog 15 #[v] w fun e w' => e = .returned (.tuple #[]) ∧ OnlyS v w w' := by
  obtain ⟨⟨hl, hown⟩, hall, _⟩ := hfull
  rcases hown with ⟨rfl, h0⟩ | ⟨g, cap, cur, rfl, hbg, hg, hnc, hcm, hcs, htake⟩
  · clear hl h0 hall
    go_enter Tryd.func15, Tryd.ntmps15
    go_wp2_with fail
    go_loopw [3] (fun i wr => i = .int .i64 0 ∧ wr = w) (fun _ _ => 0)
    case atStart => exact ⟨rfl, rfl⟩
    case round =>
      obtain ⟨rfl, rfl⟩ := hrel
      go_wp2
      go_end0
      exact ⟨rfl, OnlyS.refl _ _⟩
  · obtain ⟨cur2, hg2, hu2⟩ := hall g _ cap rfl
    obtain rfl : cur = cur2 := by rw [hg] at hg2; injection hg2 with h; injection h
    have hrow : w.rowAt g = some cur := by unfold World.rowAt; rw [hg]; rfl
    have hcap : cap ≤ 9223372036854775807 := by unfold maxLen at hcm; omega
    have HB0 := Lib.hid (show cur.size = cap by omega)
    have HR0 := Lib.hid hrow
    have HU0 := Lib.hid (show ∀ j, 0 ≤ j → j < cap → ∃ x : Tx, x.length ≤ 1000000 ∧ cur[j]? = some (sV x) by
      intro j _ hj
      obtain ⟨x, hx, he⟩ := hu2 cur[j] (by simp)
      exact ⟨x, hx, by rw [Array.getElem?_eq_getElem (by omega), he]⟩)
    clear hg hg2 hcs htake hall hl hcm hrow hu2
    go_enter Tryd.func15, Tryd.ntmps15
    go_wp2_with fail
    go_loopw [3] (fun i wr => SOverAt w (.slice (some ⟨g, 0, none⟩) L.length cap) g cap i wr) (fun i _ => cap - (intOf i).toNat)
    case atStart => exact ⟨0, cur, rfl, Nat.zero_le _, HR0.out, HB0.out, HU0.out, OnlyS.refl _ _⟩
    case round =>
      obtain ⟨k, c, rfl, hk, hrow, hsz, hu, hb⟩ := hrel
      have HB := Lib.hid hb
      clear hb
      by_cases hlt : k < cap
      · obtain ⟨x, hx, hce⟩ := hu k (Nat.le_refl _) hlt
        have hadd : ((x.length + 1 : Nat) : Int) ≤ 9223372036854775807 := by omega
        have hcell := ucell_of_row hrow k
        have hfz := ufrozen_of_row hrow
        rw [hce] at hcell
        have HS := Lib.hid (usetCell_of_row hrow k (sV (x ++ [33])))
        have HR := Lib.hid (rowAt_setRow (c' := c.setIfInBounds k (sV (x ++ [33]))) hrow)
        have HU := Lib.hid (show ∀ j, k + 1 ≤ j → j < cap → ∃ y : Tx, y.length ≤ 1000000 ∧ (c.setIfInBounds k (sV (x ++ [33])))[j]? = some (sV y) by
          intro j h1 h2
          obtain ⟨y, hy, he⟩ := hu j (by omega) h2
          exact ⟨y, hy, by rw [Array.getElem?_setIfInBounds, if_neg (by omega)]; exact he⟩)
        have HZ := Lib.hid hsz
        have hlti : (k : Int) < (cap : Int) := by omega
        clear hrow hu hce hsz
        go_wp2_with fail
        go_roundw
        case rel => exact ⟨k + 1, c.setIfInBounds k (sV (x ++ [33])), by go_num, by omega, by rw [sx_cat x [33], HS.out]; exact HR.out, by simpa using HZ.out, HU.out, by rw [sx_cat x [33], HS.out]; exact OnlyS.setRow HB.out _⟩
        case measure => simp [intOf]; omega
      · obtain rfl : k = cap := by omega
        go_wp2
        go_end0
        exact ⟨rfl, HB.out⟩
end Go.Proofs.YtngjkmjejijfiaaDoor

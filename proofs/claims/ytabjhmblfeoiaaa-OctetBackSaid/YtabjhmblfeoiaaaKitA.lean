/- Contract of apportionkit's SameInts. Conditions: both slices read as lists of ints. -/
import Derived.Test.YtabjhmblfeoiaaaLists
import Derived.Test.YtabjhmblfeoiaaaQTail
namespace Go.Proofs.Ytabjhmblfeoiaaa
set_option linter.unusedVariables false
set_option linter.unusedSimpArgs false
open Go.RowKit

theorem lt_of_cell' {w : World} {b i : Nat} {v : Value} (h : w.cell? ⟨b, i, none⟩ = some v) : b < w.heap.size := World.block_lt_of_cell? _ _ h

theorem list_eq_of_getD (xs ys : List Int) (h : xs.length = ys.length) (hg : ∀ j, j < xs.length → xs.getD j 0 = ys.getD j 0) : xs = ys := by
  apply List.ext_getElem h
  intro i h1 h2
  have := hg i h1
  simpa [List.getD_eq_getElem?_getD, h1, h2] using this

set_option maxHeartbeats 1000000 in
theorem k_SameInts (a b : Option Addr) (n m ca cb : Nat) (xs ys : List Int) (w : World) (hx : Reads w a n xs) (hy : Reads w b m ys) (hn : n ≤ 1152921504606846976) (hm : m ≤ 1152921504606846976) :
    Calls Try.prog 29 #[.slice a n ca, .slice b m cb] w fun e w' => e = .returned (.bool (decide (xs = ys))) ∧ Junk w w' := by
  by_cases hne : n = m
  · subst hne
    obtain ⟨xl, _, hxc⟩ := hx
    obtain ⟨yl, _, hyc⟩ := hy
    have HX := Lib.hid hxc; have HY := Lib.hid hyc
    have XL := Lib.hid xl; have YL := Lib.hid yl
    clear hxc hyc xl yl
    obtain ⟨q, hq⟩ : ∃ q, q = decide (xs = ys) := ⟨_, rfl⟩
    rw [← hq]
    have HQ := Lib.hid hq; clear hq
    go_enter Try.func29, Try.ntmps29
    go_wp2_with fail
    go_loopw [5] (fun i wr => ∃ (k : Nat) (J : Array Obj) (d : Nat), i = .int .i64 k ∧ k ≤ n ∧ (∀ j, j < k → xs.getD j 0 = ys.getD j 0) ∧ wr = w.plus J d) (fun i _ => n - (intOf i).toNat)
    case atStart => exact ⟨0, #[], w.drawn, rfl, Nat.zero_le _, fun j h => by omega, by unfold World.plus; simp⟩
    case round =>
      obtain ⟨k, J, d, rfl, hk, hall, rfl⟩ := hrel
      have HA := Lib.hid hall; clear hall
      by_cases hlt : k < n
      · rcases HX.out with h0 | ⟨b1, o1, rfl, hx1⟩
        · omega
        rcases HY.out with h0 | ⟨b2, o2, rfl, hy1⟩
        · omega
        have c1 := hx1 k hlt
        have c2 := hy1 k hlt
        clear hx1 hy1
        have s1 := lt_of_cell' c1
        have s2 := lt_of_cell' c2
        obtain ⟨x, hxv⟩ : ∃ x, x = xs.getD k 0 := ⟨_, rfl⟩
        obtain ⟨y, hyv⟩ : ∃ y, y = ys.getD k 0 := ⟨_, rfl⟩
        rw [← hxv] at c1; rw [← hyv] at c2
        have HXV := Lib.hid hxv; have HYV := Lib.hid hyv
        clear hxv hyv
        by_cases hxy : x = y
        · subst hxy
          have HN := Lib.hid (show ∀ j, j < k + 1 → xs.getD j 0 = ys.getD j 0 from fun j hj => by
            by_cases e : j = k
            · rw [e, ← HXV.out, ← HYV.out]
            · exact HA.out j (by omega))
          go_upto_region 6 with fail
          go_quiet (fail)
          go_wp2_with fail
          go_round
          case rel => exact ⟨k + 1, J, _, by go_num, by omega, HN.out, rfl⟩
          case measure => simp [intOf]; omega
        · have hb : (x == y) = false := by rw [beq_eq_false_iff_ne]; exact hxy
          have hb2 : (x != y) = true := by simp [hxy]
          obtain rfl : q = false := by
            rw [HQ.out, decide_eq_false_iff_not]
            intro e; exact hxy (by rw [HXV.out, HYV.out, e])
          go_upto_region 6 with fail
          go_quiet (fail)
          go_wp2
          go_ret
          exact ⟨by simp, junk_of_below (by (repeat' (first | (with_reducible exact Below.refl _ _) | (with_reducible assumption) | (with_reducible refine Below.alloc ?_ ?_ _) | (with_reducible refine Below.drew ?_) | (with_reducible refine below_drewN ?_ _) | (with_reducible refine below_plus ?_ ?_ _ _) | (with_reducible refine Below.setCell ?_ ?_ _) | (with_reducible refine Below.setRow ?_ ?_ _) | go_size)))⟩
      · obtain rfl : k = n := by omega
        obtain rfl : q = true := by
          rw [HQ.out, decide_eq_true_iff]
          exact list_eq_of_getD _ _ (by rw [XL.out, YL.out]) (fun j hj => HA.out j (by rw [XL.out] at hj; exact hj))
        go_wp2
        go_ret
        exact ⟨by simp, junk_of_below (by (repeat' (first | (with_reducible exact Below.refl _ _) | (with_reducible assumption) | (with_reducible refine Below.alloc ?_ ?_ _) | (with_reducible refine Below.drew ?_) | (with_reducible refine below_drewN ?_ _) | (with_reducible refine below_plus ?_ ?_ _ _) | (with_reducible refine Below.setCell ?_ ?_ _) | (with_reducible refine Below.setRow ?_ ?_ _) | go_size)))⟩
  · have hq : decide (xs = ys) = false := by
      rw [decide_eq_false_iff_not]; intro e
      have h1 := hx.1; have h2 := hy.1
      rw [e] at h1; omega
    rw [hq]
    have hb : ((n : Int) == (m : Int)) = false := by rw [beq_eq_false_iff_ne]; omega
    clear hq hx hy
    go_enter Try.func29, Try.ntmps29
    go_wp2
    go_ret
    exact ⟨by simp, junk_of_below (by (repeat' (first | (with_reducible exact Below.refl _ _) | (with_reducible assumption) | (with_reducible refine Below.alloc ?_ ?_ _) | (with_reducible refine Below.drew ?_) | (with_reducible refine below_drewN ?_ _) | (with_reducible refine below_plus ?_ ?_ _ _) | (with_reducible refine Below.setCell ?_ ?_ _) | (with_reducible refine Below.setRow ?_ ?_ _) | go_size)))⟩
end Go.Proofs.Ytabjhmblfeoiaaa

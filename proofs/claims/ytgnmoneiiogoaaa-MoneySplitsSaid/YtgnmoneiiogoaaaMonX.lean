/- Contract of money's Split. Conditions: the weights read as a list of ints. -/
import Derived.Test.YtgnmoneiiogoaaaMonV
namespace Go.Proofs.Ytgnmoneiiogoaaa
set_option linter.unusedVariables false
set_option linter.unusedSimpArgs false
open Go.RowKit

/-- The parts with the total's sign. -/
def SParts (t : Int) (zs : List Int) (n : Nat) (P : Nat → Int) : Prop :=
  ∃ G, Parts (t.natAbs : Int) zs (sumL zs) n G ∧ ∀ i, i < n → P i = if t < 0 then - G i else G i

/-- What Split leaves. -/
def SplitDone (t : Int) (zs : List Int) (n : Nat) (w : World) (e : Ending) (w' : World) : Prop :=
  (¬ (-1099511627775 ≤ t ∧ t ≤ 1099511627775) ∧ e = .returned (.tuple #[.slice none 0 0, .int .i64 5]) ∧ Junk w w') ∨
  ((-1099511627775 ≤ t ∧ t ≤ 1099511627775) ∧ ¬ Good zs ∧ e = .returned (.tuple #[.slice none 0 0, .int .i64 2]) ∧ Junk w w') ∨
  ((-1099511627775 ≤ t ∧ t ≤ 1099511627775) ∧ Good zs ∧ ∃ P J d, e = .returned (.tuple #[.slice (some ⟨w.heap.size, 0, none⟩) n n, .int .i64 0]) ∧ SParts t zs n P ∧ w' = (w.alloc (.cells (nrow P n) 3)).plus J d)

theorem parts_bd {t : Int} {zs : List Int} {W : Int} {n : Nat} {P : Nat → Int} (h : Parts t zs W n P) (t0 : 0 ≤ t) (W0 : 1 ≤ W) (hz : ∀ i, i < n → 0 ≤ zs.getD i 0 ∧ zs.getD i 0 ≤ W) (i : Nat) (hi : i < n) : 0 ≤ P i ∧ P i ≤ t + 1 := by
  obtain ⟨z, r, d, hn, hs, hr, hr2, hp⟩ := h
  have := qf_bd t zs W i t0 (hz i hi).1 (hz i hi).2 W0
  have hh : 0 ≤ had1 d r i ∧ had1 d r i ≤ 1 := by unfold had1; split <;> omega
  rw [hp i hi]; omega

theorem good_le {zs : List Int} (h : Good zs) (i : Nat) (hi : i < zs.length) : 0 ≤ zs.getD i 0 ∧ zs.getD i 0 ≤ sumL zs := by
  obtain ⟨h1, h2, h3⟩ := h
  have g1 := sumF_mono (fun i => zs.getD i 0) (i + 1) zs.length (by omega) (fun i hi => (h2 i hi).1)
  have g2 := sumF_nonneg (fun i => zs.getD i 0) i (fun j hj => (h2 j (by omega)).1)
  rw [← sumF_take zs zs.length (Nat.le_refl _), List.take_length] at g1
  have g3 : sumF (fun i => zs.getD i 0) (i + 1) = sumF (fun i => zs.getD i 0) i + zs.getD i 0 := rfl
  exact ⟨(h2 i hi).1, by omega⟩

set_option maxHeartbeats 4000000 in
theorem n_Split (a : Option Addr) (n cap : Nat) (zs : List Int) (t : Int) (w : World) (hr : Reads w a n zs) (hm : n ≤ 1152921504606846976) (t0 : -9223372036854775808 ≤ t) (t1 : t ≤ 9223372036854775807) :
    Calls Try.prog 16 #[.int .i64 t, .slice a n cap] w (SplitDone t zs n w) := by
  have HC := n_Check t
  rcases amtErr_two t with ⟨h1, a0, a1⟩ | ⟨h1, h2⟩
  · rw [h1] at HC
    by_cases hg : Good zs
    · have hn20 : n ≤ 1000 := by have h1 := hr.1; have h2 := hg.1; omega
      obtain ⟨W0, W1⟩ := good_sum hg
      have hlen := hr.1
      obtain ⟨z, hz⟩ : ∃ z, n = z + 1 := ⟨n - 1, by
        have : n ≠ 0 := fun e => by
          rw [e] at hlen
          rw [List.eq_nil_of_length_eq_zero hlen] at W0
          simp [sumL] at W0
        omega⟩
      have HW := Lib.hid (fun w hr => n_weigh a n cap zs (sumL zs) 0 w hr hm (fun _ => ⟨rfl, rfl⟩) (fun h => absurd hg h))
      have HZ := Lib.hid (fun w hr => n_splitSize a n cap z zs (t.natAbs : Int) (sumL zs) w hr hz (by omega) (by omega) (by omega) hg.2.1 rfl W0 W1)
      have HP := Lib.hid (fun P (h : Parts (t.natAbs : Int) zs (sumL zs) n P) => parts_bd h (by omega) W0 (fun i hi => good_le hg i (by omega)))
      generalize hQ : SplitDone t zs n w = Q
      have HQ := Lib.hid (show ∀ e w', ((-1099511627775 ≤ t ∧ t ≤ 1099511627775) ∧ Good zs ∧ ∃ P J d, e = .returned (.tuple #[.slice (some ⟨w.heap.size, 0, none⟩) n n, .int .i64 0]) ∧ SParts t zs n P ∧ w' = (w.alloc (.cells (nrow P n) 3)).plus J d) → Q e w' from fun e w' h => by rw [← hQ]; exact .inr (.inr h))
      have HG := Lib.hid hg; have HC := Lib.hid HC; have HR := Lib.hid hr
      generalize hS : sumL zs = S at *
      have HS := Lib.hid hS
      have nb : n ≤ 1000000 := by omega
      clear hQ hg hr hz hlen h1 hS hn20
      obtain ⟨m, hm1⟩ : ∃ m, m = (t.natAbs : Int) := ⟨_, rfl⟩
      rw [← hm1] at HZ HP
      by_cases hneg : t < 0
      · have HM := Lib.hid hm1
        obtain rfl : t = -m := by omega
        have m0 : 0 < m := by omega
        have m1 : m ≤ 1099511627775 := by omega
        clear hm1 hneg a0 a1
        go_enter Try.func16, Try.ntmps16
        go_wp2_with fail
        refine (HC.out _).mono ?_; rintro e w' ⟨rfl, rfl⟩
        go_wp2_with fail
        refine (HW.out _ HR.out).mono ?_; rintro e w' ⟨rfl, rfl⟩
        go_wp2_with fail
        rw [show max (-m) m = m by omega]
        refine (HZ.out _ HR.out).mono ?_
        intro e w' hsz
        obtain ⟨P, J, d, rfl, hP, rfl⟩ := hsz
        have HB := Lib.hid (HP.out P hP)
        have HPP := Lib.hid hP
        clear hP
        go_wp2_with fail
        go_loopw [35] (fun i wr => ∃ (k : Nat) (p : Nat → Int), i = .int .i64 k ∧ k ≤ n ∧ (∀ i, i < n → p i = if i < k then - P i else P i) ∧ wr = (w.alloc (Obj.cells (nrow p n) 3)).plus J d) (fun i _ => n - (intOf i).toNat)
        case atStart => exact ⟨0, P, rfl, Nat.zero_le _, fun i hi => (if_neg (by omega)).symm, rfl⟩
        case round =>
          obtain ⟨k, p, rfl, hk, hp, rfl⟩ := hrel
          have HP2 := Lib.hid hp; clear hp
          by_cases hlt : k < n
          · have pg := nrow_get p n k hlt
            have hpk : p k = P k := by rw [HP2.out k hlt, if_neg (by omega)]
            obtain ⟨b0, b1⟩ := HB.out k hlt
            rw [← hpk] at b0 b1
            have b2 : p k ≤ 1099511627776 := by omega
            have HPK := Lib.hid hpk
            clear hpk b1
            go_wp2_with fail
            go_roundw
            case rel => exact ⟨k + 1, fun i => if i = k then - p k else p i, by go_num, by omega, fun i hi => by
              by_cases e : i = k
              · subst e; simp only [if_true]; rw [if_pos (by omega), HPK.out]
              · simp only [e, if_false]; rw [HP2.out i hi]
                by_cases e2 : i < k
                · rw [if_pos e2, if_pos (by omega)]
                · rw [if_neg e2, if_neg (by omega)], by rw [nrow_set]⟩
            case measure => simp [intOf]; omega
          · obtain rfl : k = n := by omega
            go_wp2_with fail
            refine HQ.out _ _ ⟨⟨by omega, by omega⟩, HG.out, p, J, d, rfl, ⟨P, ?_, fun i hi => by rw [HP2.out i hi, if_pos hi, if_pos (by omega)]⟩, rfl⟩
            rw [HS.out, show ((-m).natAbs : Int) = m by omega]; exact HPP.out
      · obtain rfl : t = m := by omega
        clear hm1
        go_enter Try.func16, Try.ntmps16
        go_wp2_with fail
        refine (HC.out _).mono ?_; rintro e w' ⟨rfl, rfl⟩
        go_wp2_with fail
        refine (HW.out _ HR.out).mono ?_; rintro e w' ⟨rfl, rfl⟩
        go_wp2_with fail
        rw [show max t (-t) = t by omega]
        refine (HZ.out _ HR.out).mono ?_
        intro e w' hsz
        obtain ⟨P, J, d, rfl, hP, rfl⟩ := hsz
        have HPP := Lib.hid hP
        clear hP
        go_wp2_with fail
        refine HQ.out _ _ ⟨⟨a0, a1⟩, HG.out, P, J, d, rfl, ⟨P, ?_, fun i _ => (if_neg (by omega)).symm⟩, rfl⟩
        rw [HS.out, show (t.natAbs : Int) = t by omega]; exact HPP.out
    · have HW := Lib.hid (fun w hr => n_weigh a n cap zs 0 2 w hr hm (fun h => absurd h hg) (fun _ => ⟨rfl, rfl⟩))
      generalize hQ : SplitDone t zs n w = Q
      have HQ := Lib.hid (show ∀ e w', (e = .returned (.tuple #[.slice none 0 0, .int .i64 2]) ∧ Junk w w') → Q e w' from fun e w' h => by rw [← hQ]; exact .inr (.inl ⟨⟨a0, a1⟩, hg, h⟩))
      have HC := Lib.hid HC; have HR := Lib.hid hr
      clear hQ hg hr h1 a0 a1
      go_enter Try.func16, Try.ntmps16
      go_wp2_with fail
      refine (HC.out _).mono ?_; rintro e w' ⟨rfl, rfl⟩
      go_wp2_with fail
      refine (HW.out _ HR.out).mono ?_; rintro e w' ⟨rfl, rfl⟩
      go_wp2_with fail
      exact HQ.out _ _ ⟨rfl, junk_of_below (by (repeat' (first | (with_reducible exact Below.refl _ _) | (with_reducible assumption) | (with_reducible refine Below.alloc ?_ ?_ _) | (with_reducible refine Below.drew ?_) | (with_reducible refine below_drewN ?_ _) | (with_reducible refine below_plus ?_ ?_ _ _) | (with_reducible refine Below.setCell ?_ ?_ _) | (with_reducible refine Below.setRow ?_ ?_ _) | go_size)))⟩
  · rw [h1] at HC
    generalize hQ : SplitDone t zs n w = Q
    have HQ := Lib.hid (show ∀ e w', (e = .returned (.tuple #[.slice none 0 0, .int .i64 5]) ∧ Junk w w') → Q e w' from fun e w' h => by rw [← hQ]; exact .inl ⟨h2, h⟩)
    have HC := Lib.hid HC
    clear hQ hr h1 h2
    go_enter Try.func16, Try.ntmps16
    go_wp2_with fail
    refine (HC.out _).mono ?_; rintro e w' ⟨rfl, rfl⟩
    go_wp2_with fail
    exact HQ.out _ _ ⟨rfl, junk_of_below (by (repeat' (first | (with_reducible exact Below.refl _ _) | (with_reducible assumption) | (with_reducible refine Below.alloc ?_ ?_ _) | (with_reducible refine Below.drew ?_) | (with_reducible refine below_drewN ?_ _) | (with_reducible refine below_plus ?_ ?_ _ _) | (with_reducible refine Below.setCell ?_ ?_ _) | (with_reducible refine Below.setRow ?_ ?_ _) | go_size)))⟩
end Go.Proofs.Ytgnmoneiiogoaaa

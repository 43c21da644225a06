/- Contract of money's splitSize. Conditions: 1 to 1000 weights, none negative, not all 0. -/
import Derived.Test.YtgnmoneiiogoaaaMonR
namespace Go.Proofs.Ytgnmoneiiogoaaa
set_option linter.unusedVariables false
set_option linter.unusedSimpArgs false
open Go.RowKit

theorem plus_nil (w : World) : w.plus #[] w.drawn = w := by unfold World.plus; simp

theorem rowAt_new {X Y : World} {J : Array Obj} {d e b : Nat} {r : Option (Array Value)} (hs : X.heap.size = Y.heap.size) (hb : X.heap.size ≤ b) (h : (X.plus J d).rowAt b = r) : (Y.plus J e).rowAt b = r := by
  rw [← h]
  apply rowAt_of_block
  show (Y.heap ++ J)[b]? = (X.heap ++ J)[b]?
  rw [Array.getElem?_append_right (by omega), Array.getElem?_append_right hb, hs]

theorem alloc_plus_eat (w : World) (o : Obj) (J : Array Obj) (d : Nat) : (w.alloc o).plus J d = w.plus (#[o] ++ J) d := by
  unfold World.plus World.alloc; simp

/-- What the parts of a split are. -/
def Parts (t : Int) (zs : List Int) (W : Int) (n : Nat) (P : Nat → Int) : Prop :=
  ∃ (z r : Nat) (d : Array (Fin (z + 1))), n = z + 1 ∧ Sorted (Ff t zs W) z d ∧ t - sumF (Qf t zs W) n = r ∧ r < n ∧ ∀ i, i < n → P i = Qf t zs W i + had1 d r i

/-- What splitSize leaves: the parts in a row of their own, the call's first block. -/
def Sized (t : Int) (zs : List Int) (W : Int) (n : Nat) (w : World) (e : Ending) (w' : World) : Prop :=
  ∃ P J d, e = .returned (.slice (some ⟨w.heap.size, 0, none⟩) n n) ∧ Parts t zs W n P ∧ w' = (w.alloc (.cells (nrow P n) 3)).plus J d

set_option maxHeartbeats 4000000 in
theorem n_splitSize (a : Option Addr) (n cap z : Nat) (zs : List Int) (t W : Int) (w : World) (hr : Reads w a n zs) (hn : n = z + 1) (hz20 : z < 1000) (t0 : 0 ≤ t) (t1 : t ≤ 1099511627775)
    (hz : ∀ i, i < zs.length → 0 ≤ zs.getD i 0 ∧ zs.getD i 0 ≤ 1099511627775) (hW : sumL zs = W) (W0 : 1 ≤ W) (W1 : W ≤ 1099511627775000) :
    Calls Try.prog 26 #[.int .i64 t, .int .i64 W, .slice a n cap] w (Sized t zs W n w) := by
  obtain ⟨hzl, hzb, hzc⟩ := hr
  rcases hzc with h0 | ⟨b, off, rfl, hc⟩
  · omega
  have lb : b < w.heap.size := lt_of_cell' (hc 0 (by omega))
  have hmk := made_ints n (by omega)
  have HRB := Lib.hid (fun k (hk : k ≤ n) => rem_bd t zs W t0 W0 (fun i hi => (hz i hi).1) hW k (by rw [hzl]; exact hk))
  have HRE := Lib.hid (rem_end t zs W t0 W0 (fun i hi => (hz i hi).1) hW (by omega))
  rw [hzl] at HRE
  have HZW := Lib.hid (fun k (hk : k < n) => (⟨(hz k (by omega)).1, (hz k (by omega)).2, by
    have h1 := sumF_mono (fun i => zs.getD i 0) (k + 1) zs.length (by omega) (fun i hi => (hz i hi).1)
    have h2 := sumF_nonneg (fun i => zs.getD i 0) k (fun i hi => (hz i (by omega)).1)
    rw [← sumF_take zs zs.length (Nat.le_refl _), List.take_length, hW] at h1
    have h3 : sumF (fun i => zs.getD i 0) (k + 1) = sumF (fun i => zs.getD i 0) k + zs.getD k 0 := rfl
    omega⟩ : 0 ≤ zs.getD k 0 ∧ zs.getD k 0 ≤ 1099511627775 ∧ zs.getD k 0 ≤ W))
  have HC := Lib.hid hc
  have HB := Lib.hid (fun w' h => n_byRest (w.heap.size + 1) n z n hn (Ff t zs W) w' hz20 h)
  generalize hQ : Sized t zs W n w = Q
  have HQ := Lib.hid hQ
  have HN := Lib.hid hn
  have nb : n ≤ 1000000 := by omega
  have n1 : 1 ≤ n := by omega
  clear hQ hn hz20 hc hz hW hzb hzl
  go_enter Try.func26, Try.ntmps26
  go_wp2_with fail
  go_loopw [9, 23] (fun rm i wr => ∃ (k : Nat) (p f : Nat → Int) (J : Array Obj) (d : Nat), i = .int .i64 k ∧ k ≤ n ∧ rm = .int .i64 (t - sumF (Qf t zs W) k) ∧ (∀ j, j < k → p j = Qf t zs W j ∧ f j = Ff t zs W j) ∧
    wr = ((w.alloc (Obj.cells (nrow p n) 3)).alloc (Obj.cells (nrow f n) 3)).plus J d) (fun _ i _ => n - (intOf i).toNat)
  case atStart => exact ⟨0, fun _ => 0, fun _ => 0, #[], w.drawn, rfl, Nat.zero_le _, by simp [sumF], fun j h => by omega, (plus_nil _).symm⟩
  case round =>
    obtain ⟨k, p, f, J, d, rfl, hk, rfl, hpf, rfl⟩ := hrel
    have HPF := Lib.hid hpf; clear hpf
    by_cases hlt : k < n
    · have c1 := HC.out k hlt
      have lb1 : b < w.heap.size + 1 := by omega
      have lb2 : b < w.heap.size + 1 + 1 := by omega
      obtain ⟨z0, z1, z2⟩ := HZW.out k hlt
      obtain ⟨r0, r1⟩ := HRB.out k hk
      obtain ⟨r2, r3⟩ := HRB.out (k + 1) hlt
      have HS := Lib.hid (show t - sumF (Qf t zs W) (k + 1) = t - sumF (Qf t zs W) k - Qf t zs W k by show t - (sumF (Qf t zs W) k + Qf t zs W k) = _; omega)
      rw [HS.out] at r2 r3
      have HP := Lib.hid (n_prop t (zs.getD k 0) W t0 t1 z0 z1 z2 W0 W1)
      change Hid (∀ w, Calls _ _ _ _ fun e w' => e = .returned (.tuple #[.int .i64 (Qf t zs W k), .int .i64 (Ff t zs W k)]) ∧ _) at HP
      generalize zs.getD k 0 = x at *
      generalize hq : Qf t zs W k = q at *
      generalize hf : Ff t zs W k = g at *
      generalize hs : sumF (Qf t zs W) k = s at *
      have HQF := Lib.hid hq; have HFF := Lib.hid hf; have HSF := Lib.hid hs
      clear hq hf hs
      go_wp2_with fail
      refine (HP.out _).mono ?_; rintro e w' ⟨rfl, J2, d2, rfl⟩
      go_wp2_with fail
      go_roundw
      case rel => exact ⟨k + 1, fun i => if i = k then q else p i, fun i => if i = k then g else f i, _, _, by go_num, by omega, by rw [HS.out], fun j hj => by
        by_cases e : j = k
        · rw [e]; simp only [if_true]; exact ⟨HQF.out.symm, HFF.out.symm⟩
        · simp only [e, if_false]; exact HPF.out j (by omega), by rw [nrow_set, nrow_set]⟩
      case measure => simp [intOf]; omega
    · obtain rfl : k = n := by omega
      obtain ⟨r, hr1, hr2, hr3⟩ := HRE.out
      rw [hr1, nrow_congr (fun i hi => (HPF.out i hi).1), nrow_congr (fun i hi => (HPF.out i hi).2)]
      have HR1 := Lib.hid hr1
      clear hr1 hr3
      go_wp2_with fail
      refine (HB.out _ (by simp [go_sem])).mono ?_
      intro e w' hby
      obtain ⟨b2, d', rfl, hb2, lb2, hsd, J2, d2, rfl⟩ := hby
      rw [plus_plus] at hb2
      have HSD := Lib.hid hsd; have HB2 := Lib.hid hb2
      clear hsd hb2
      have lb3 : w.heap.size + 1 + 1 ≤ b2 := by simp at lb2; omega
      have HD := Lib.hid (fun j : Nat => Fin.isLt (d'[j]!))
      have HX := Lib.hid (fun i (hi : i < k) => qf_bd t zs W i t0 (HZW.out i hi).1 (HZW.out i hi).2.2 W0)
      clear lb2
      go_wp2_with fail
      go_loopw [53] (fun i wr => ∃ (j : Nat) (p : Nat → Int) (d : Nat), i = .int .i64 j ∧ j ≤ r ∧ (∀ i, i < k → p i = Qf t zs W i + had1 d' j i) ∧
        wr = ((w.alloc (Obj.cells (nrow p k) 3)).alloc (Obj.cells (nrow (Ff t zs W) k) 3)).plus (J ++ J2) d) (fun i _ => r - (intOf i).toNat)
      case atStart => exact ⟨0, _, _, rfl, Nat.zero_le _, fun i hi => by rw [had_zero, Int.add_zero], rfl⟩
      case round =>
        obtain ⟨j, p, d, rfl, hj, hp, rfl⟩ := hrel
        have HP := Lib.hid hp; clear hp
        by_cases hlt : j < r
        · have c1 : (((w.alloc (Obj.cells (nrow p k) 3)).alloc (Obj.cells (nrow (Ff t zs W) k) 3)).plus (J ++ J2) d).cell? ⟨b2, j, none⟩ = some (.int .i64 (d'[j]!.val : Nat)) := by
            rw [cell_of_row (rowAt_new (X := ((w.alloc (Obj.cells (nrow (Qf t zs W) k) 3)).alloc (Obj.cells (nrow (Ff t zs W) k) 3))) (by simp) (by simp; omega) HB2.out), nrow_get _ _ _ (by omega)]
          have hx : d'[j]!.val < k := by have := HD.out j; have := HN.out; omega
          have HS := Lib.hid (fun i => had_step d' j i (fun q hq e => by
            have := HSD.out.inj q j (by have := HN.out; omega) (by have := HN.out; omega) e
            omega))
          have hpx := HP.out _ hx
          obtain ⟨q0, q1⟩ := HX.out _ hx
          have hh : 0 ≤ had1 d' j (d'[j]!.val) ∧ had1 d' j (d'[j]!.val) ≤ 1 := by unfold had1; split <;> omega
          obtain ⟨y, hy⟩ : ∃ y, y = d'[j]!.val := ⟨_, rfl⟩
          rw [← hy] at c1 hx hpx q0 q1 hh
          have HY := Lib.hid hy
          have b0 : 0 ≤ p y := by omega
          have b1 : p y ≤ 1099511627776 := by omega
          have pg := nrow_get p k y hx
          clear hy hpx q0 q1 hh
          go_wp2_with fail
          go_roundw
          case rel => exact ⟨j + 1, fun i => if i = y then p y + 1 else p i, _, by go_num, by omega, fun i hi => by
            rw [HS.out i, ← HY.out]
            by_cases e : i = y
            · subst e; simp only [if_true]; rw [HP.out _ hi]; omega
            · simp only [e, if_false]; exact HP.out i hi, by rw [nrow_set]⟩
          case measure => simp [intOf]; omega
        · obtain rfl : j = r := by omega
          go_wp2_with fail
          rw [← HQ.out]
          exact ⟨p, _, _, rfl, ⟨z, j, d', HN.out, HSD.out, HR1.out, hr2, HP.out⟩, by rw [alloc_plus_eat]⟩
end Go.Proofs.Ytgnmoneiiogoaaa

/- Contract of money's byRest: the indices in the order of their rests. Conditions: 1 to 1000 rests in a row. -/
import Derived.Test.YtgnmoneiiogoaaaSortT
import Derived.Test.YtgnmoneiiogoaaaNRow
import Derived.Test.YtgnmoneiiogoaaaSplM
import Derived.Test.YtgnmoneiiogoaaaMonS
namespace Go.Proofs.Ytgnmoneiiogoaaa
set_option linter.unusedVariables false
set_option linter.unusedSimpArgs false
open Go.RowKit

set_option maxHeartbeats 2000000 in
theorem n_less (bR bI R I n c c' : Nat) (W : World) (G : Nat → Nat) (F : Nat → Int) (h1 : W.cell? ⟨bR, 0, none⟩ = some (.slice (some ⟨R, 0, none⟩) n c)) (h2 : W.cell? ⟨bI, 0, none⟩ = some (.slice (some ⟨I, 0, none⟩) n c'))
    (hI : ∀ t, t < n → W.cell? ⟨I, t, none⟩ = some (.int .i64 (G t))) (hG : ∀ t, t < n → G t < n) (hR : ∀ t, t < n → W.cell? ⟨R, t, none⟩ = some (.int .i64 (F t))) (i j : Nat) (hi : i < n) (hj : j < n) :
    Calls Try.prog 56 #[.int .i64 i, .int .i64 j, .pointer (some ⟨bR, 0, none⟩), .pointer (some ⟨bI, 0, none⟩)] W fun e w' => e = .returned (.bool (decide (F (G j) < F (G i)))) ∧ ∃ q, w' = W.drewN q := by
  have ci := hI i hi
  have cj := hI j hj
  have gi := hG i hi
  have gj := hG j hj
  have ri := hR _ gi
  have rj := hR _ gj
  generalize G i = x at *
  generalize G j = y at *
  generalize F x = p at *
  generalize F y = q at *
  clear hI hG hR
  go_enter Try.func56, Try.ntmps56
  go_wp2
  go_quiet (fail)
  go_wp2
  go_ret
  exact ⟨rfl, nq, rfl⟩

theorem n_sort (z n R I bR bI c c' c'' : Nat) (F g : Nat → Int) (W : World) (hn : n = z + 1) (hz : z < 1000) (hg : ∀ i, i < n → g i = i) (hI : W.rowAt I = some (nrow g n)) (hR : W.rowAt R = some (nrow F n))
    (h1 : W.cell? ⟨bR, 0, none⟩ = some (.slice (some ⟨R, 0, none⟩) n c)) (h2 : W.cell? ⟨bI, 0, none⟩ = some (.slice (some ⟨I, 0, none⟩) n c')) (n1 : R ≠ I) (n2 : bR ≠ I) (n3 : bI ≠ I) :
    Calls Try.prog 55 #[.iface 29 (.slice (some ⟨I, 0, none⟩) n c''), .func (.func 56) #[] #[.pointer (some ⟨bR, 0, none⟩), .pointer (some ⟨bI, 0, none⟩)]] W fun e w' =>
      e = .returned (.tuple #[]) ∧ ∃ d' J q, Sorted F z d' ∧ w' = (W.setRow I (nrow (fun i => ((d'[i]!.val : Nat) : Int)) n)).plus J q := by
  subst hn
  have lI : I < W.heap.size := by obtain ⟨t, h⟩ := rowAt_some hI; exact (Array.getElem?_eq_some_iff.1 h).1
  have lR : R < W.heap.size := by obtain ⟨t, h⟩ := rowAt_some hR; exact (Array.getElem?_eq_some_iff.1 h).1
  have l1 := lt_of_cell' h1
  have l2 := lt_of_cell' h2
  rcases Nat.eq_zero_or_pos z with h0 | h0
  · subst h0
    refine (s_SliceStable_tiny _ 1 c'' (Nat.le_refl _) _ _ W).mono ?_
    rintro e w' ⟨rfl, os, rfl⟩
    refine ⟨rfl, idx 0, os, W.drawn, ⟨Sort.permIn_refl _ _ _, fun i j _ h h' => by omega⟩, ?_⟩
    have e : W.setRow I (nrow (fun i => (((idx 0)[i]!.val : Nat) : Int)) (0 + 1)) = W := by
      have e2 : nrow (fun i => (((idx 0)[i]!.val : Nat) : Int)) (0 + 1) = nrow g (0 + 1) := nrow_congr fun i hi => by rw [idx_get 0 i hi, hg i hi]
      rw [e2]
      obtain ⟨t, hb⟩ := rowAt_some hI
      unfold World.setRow
      congr 1
      apply Array.ext_getElem?
      intro k
      rw [Array.getElem?_modify]
      by_cases hk : I = k
      · subst hk; rw [if_pos rfl, hb]; rfl
      · rw [if_neg hk]
    rw [e]; rfl
  · have hH : Sort.Holds (encN (z := z)) W I 0 (idx z) := fun j hj => by
      rw [idx_size] at hj
      refine ⟨?_, by rw [frozen_of_row hI]⟩
      rw [Nat.zero_add, cell_of_row hI, nrow_get _ _ _ hj, hg j hj]
      unfold encN; rw [idx_get z j hj]
    have hless : LessReads Try.prog 56 #[.pointer (some ⟨bR, 0, none⟩), .pointer (some ⟨bI, 0, none⟩)] (encN (z := z)) (ltr (z := z) F) I 0 (idx z).size W := by
      intro m os dk hs i j hi hj
      rw [idx_size] at hs hi hj
      have e : sortWorld (encN (z := z)) W I 0 m dk os = Sort.putRow encN (Sort.grow (Sort.ahead W m) os) I 0 dk := by
        unfold sortWorld; rw [Sort.putRow_grow _ (Sort.ahead W m) _ I 0 _ lI]
      have hHg : Sort.Holds (encN (z := z)) (Sort.grow (Sort.ahead W m) os) I 0 (idx z) := Sort.holds_grow _ _ _ I 0 _ lI (Sort.holds_ahead _ _ _ _ _ _ hH)
      have o : ∀ b k, b ≠ I → b < W.heap.size → (sortWorld (encN (z := z)) W I 0 m dk os).cell? ⟨b, k, none⟩ = W.cell? ⟨b, k, none⟩ := fun b k hb hl => by
        rw [e, Sort.cell?_putRow_other _ _ I 0 dk _ (Or.inl hb), Sort.cell?_grow _ _ _ (by show b < W.heap.size; exact hl), Sort.cell?_ahead]
      have h := n_less bR bI R I (z + 1) c c' (sortWorld (encN (z := z)) W I 0 m dk os) (fun t => dk[t]!.val) F (by rw [o _ _ n2 l1]; exact h1) (by rw [o _ _ n3 l2]; exact h2)
        (fun t ht => by
          have := Sort.cell?_putRow encN (Sort.grow (Sort.ahead W m) os) I 0 (idx z) dk hHg (by rw [idx_size]; exact hs) t (by omega)
          rw [Nat.zero_add] at this
          rw [e, this]; rfl)
        (fun t ht => dk[t]!.isLt) (fun t ht => by rw [o _ _ n1 lR, cell_of_row hR, nrow_get _ _ _ ht]) i j hi hj
      exact h
    have hS := s_SliceStable' F 56 #[.pointer (some ⟨bR, 0, none⟩), .pointer (some ⟨bI, 0, none⟩)] (enters_of Try.func56 (by kernel_rfl) rfl) I c'' (idx z) (by rw [idx_size]; omega) (by rw [idx_size]; omega)
      (fun i hi => idx_get z i (by rw [idx_size] at hi; exact hi)) W hless hH lI
    rw [idx_size] at hS
    refine hS.mono ?_
    rintro e w' ⟨rfl, d', n, os, hp, hs, rfl⟩
    refine ⟨rfl, d', os, W.drawn + n, ⟨hp, hs⟩, ?_⟩
    rw [putRow_nrow _ I (z + 1) g d' (show (Sort.ahead W n).rowAt I = _ from hI) (by rw [hp.1, idx_size])]
    rfl

/-- What byRest leaves: a row of its own, with the indices in the order of the rests. -/
def ByRest (n z : Nat) (F : Nat → Int) (w : World) (e : Ending) (w' : World) : Prop :=
  ∃ b d', e = .returned (.slice (some ⟨b, 0, none⟩) n n) ∧ w'.rowAt b = some (nrow (fun i => ((d'[i]!.val : Nat) : Int)) n) ∧ w.heap.size ≤ b ∧ Sorted F z d' ∧ Junk w w'

set_option maxHeartbeats 2000000 in
theorem n_byRest (R n z c : Nat) (hn : n = z + 1) (F : Nat → Int) (w : World) (hz : z < 1000) (hR : w.rowAt R = some (nrow F n)) :
    Calls Try.prog 41 #[.slice (some ⟨R, 0, none⟩) n c] w (ByRest n z F w) := by
  have lR : R < w.heap.size := by obtain ⟨t, h⟩ := rowAt_some hR; exact (Array.getElem?_eq_some_iff.1 h).1
  have hmk := made_ints n (by omega)
  have HS := Lib.hid (fun g W hg hI hR' h1 h2 => n_sort z n R (w.heap.size + 1) w.heap.size (w.heap.size + 1 + 1) c n n F g W hn hz hg hI hR' h1 h2 (by omega) (by omega) (by omega))
  have HR := Lib.hid hR
  clear hR
  have HN := Lib.hid hn
  generalize hQ : ByRest n z F w = Q
  have HQ := Lib.hid hQ
  have nb : n ≤ 1000000 := by omega
  clear hQ hn hz
  go_enter Try.func41, Try.ntmps41
  go_wp2_with fail
  go_loopw [10] (fun i wr => ∃ (k q : Nat) (g : Nat → Int), i = .int .i64 k ∧ k ≤ n ∧ (∀ j, j < k → g j = j) ∧
    wr = (((w.alloc (Obj.cells #[Value.slice (some { block := R, off := 0 }) n c] 29)).alloc (Obj.cells (nrow g n) 3)).alloc (Obj.cells #[Value.slice (some { block := w.heap.size + 1, off := 0 }) n n] 29)).drewN q) (fun i _ => n - (intOf i).toNat)
  case atStart => exact ⟨0, 0, _, rfl, Nat.zero_le _, fun j h => by omega, rfl⟩
  case round =>
    obtain ⟨k, q, g, rfl, hk, hg, rfl⟩ := hrel
    have HG := Lib.hid hg; clear hg
    by_cases hlt : k < n
    · go_wp2_with fail
      go_roundw
      case rel => exact ⟨k + 1, q, fun i => if i = k then (k : Int) else g i, by go_num, by omega, fun j hj => by
        by_cases e : j = k
        · simp [e]
        · simp only [e, if_false]; exact HG.out j (by omega), by rw [nrow_set]⟩
      case measure => simp [intOf]; omega
    · obtain rfl : k = n := by omega
      go_wp2_with fail
      refine (HS.out g _ HG.out ?_ ?_ ?_ ?_).mono ?_
      · simp [go_sem]
      · rw [rowAt_drewN, rowAt_alloc_past _ _ _ (by simp; omega), rowAt_alloc_past _ _ _ (by simp; omega), rowAt_alloc_past _ _ _ lR]; exact HR.out
      · simp [go_sem]
      · simp [go_sem]
      rintro e w' ⟨rfl, d', J, q', hs, rfl⟩
      have HSD := Lib.hid hs; clear hs
      go_wp2_with fail
      rw [← HQ.out]
      exact ⟨w.heap.size + 1, d', rfl, by simp [go_sem], by omega, HSD.out, junk_of_below (by (repeat' (first | (with_reducible exact Below.refl _ _) | (with_reducible assumption) | (with_reducible refine Below.alloc ?_ ?_ _) | (with_reducible refine Below.drew ?_) | (with_reducible refine below_drewN ?_ _) | (with_reducible refine below_plus ?_ ?_ _ _) | (with_reducible refine Below.setCell ?_ ?_ _) | (with_reducible refine Below.setRow ?_ ?_ _) | go_size)))⟩
end Go.Proofs.Ytgnmoneiiogoaaa

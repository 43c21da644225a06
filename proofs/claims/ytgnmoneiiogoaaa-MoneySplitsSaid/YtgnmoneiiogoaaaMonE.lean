/- Contracts of the laws' own small functions: tax, split, fault; and of awake. -/
import Derived.Test.YtgnmoneiiogoaaaMonX
import Derived.Test.YtgnmoneiiogoaaaMonK
namespace Go.Proofs.Ytgnmoneiiogoaaa
set_option linter.unusedVariables false
set_option linter.unusedSimpArgs false
open Go.RowKit

/-- The first of the sorted is the one ahead of all. -/
theorem sorted_first {F : Nat → Int} {z : Nat} {d : Array (Fin (z + 1))} (h : Sorted F z d) (c : Nat) (hc : c < z + 1) (hb : ∀ i, i < z + 1 → i ≠ c → F i < F c ∨ (F i = F c ∧ c < i)) : d[0]!.val = c := by
  obtain ⟨k, hk, e⟩ := h.surj c hc
  rcases Nat.eq_zero_or_pos k with h0 | h0
  · rw [h0] at e; exact e
  · have h1 := h.2 0 k (Nat.zero_le _) h0 hk
    unfold Rk at h1
    rw [e] at h1
    by_cases h2 : d[0]!.val = c
    · exact h2
    · have := hb _ (d[0]!).isLt h2; omega

theorem parts_zero {t : Int} {zs : List Int} {W : Int} {n : Nat} {P : Nat → Int} (h : Parts t zs W n P) (h0 : t - sumF (Qf t zs W) n = 0) (i : Nat) (hi : i < n) : P i = Qf t zs W i := by
  obtain ⟨z, r, d, hn, hs, hr, hr2, hp⟩ := h
  obtain rfl : r = 0 := by omega
  rw [hp i hi, had_zero, Int.add_zero]
theorem parts_one {t : Int} {zs : List Int} {W : Int} {n : Nat} {P : Nat → Int} (h : Parts t zs W n P) (h0 : t - sumF (Qf t zs W) n = 1) (c : Nat) (hc : c < n) (hb : ∀ i, i < n → i ≠ c → Ff t zs W i < Ff t zs W c ∨ (Ff t zs W i = Ff t zs W c ∧ c < i)) (i : Nat) (hi : i < n) :
    P i = Qf t zs W i + if i = c then 1 else 0 := by
  obtain ⟨z, r, d, hn, hs, hr, hr2, hp⟩ := h
  obtain rfl : r = 1 := by omega
  subst hn
  rw [hp i hi, had_step d 0 i (fun j hj => by omega), had_zero, sorted_first hs c hc hb]; rfl

/-- The parts, as a list. -/
def partsL (P : Nat → Int) (n : Nat) : List Int := (List.range n).map P
theorem reads_nrow {W : World} {b n : Nat} {P : Nat → Int} (h : W.rowAt b = some (nrow P n)) (hb : ∀ i, i < n → -9223372036854775808 ≤ P i ∧ P i ≤ 9223372036854775807) : Reads W (some ⟨b, 0, none⟩) n (partsL P n) := by
  have hg : ∀ i, i < n → (partsL P n).getD i 0 = P i := fun i hi => by simp [partsL, List.getD_eq_getElem?_getD, hi]
  refine ⟨by simp [partsL], fun i hi => by rw [hg i hi]; exact hb i hi, .inr ⟨b, 0, rfl, fun i hi => ?_⟩⟩
  rw [hg i hi, Nat.zero_add, cell_of_row h, nrow_get _ _ _ hi]

theorem sparts_bd {t : Int} {zs : List Int} {n : Nat} {P : Nat → Int} (h : SParts t zs n P) (hg : Good zs) (hn : zs.length = n) (t0 : -1099511627775 ≤ t) (t1 : t ≤ 1099511627775) (i : Nat) (hi : i < n) : -1099511627776 ≤ P i ∧ P i ≤ 1099511627776 := by
  obtain ⟨G, hG, hp⟩ := h
  have h1 := parts_bd hG (by omega) (good_sum hg).1 (fun i hi => good_le hg i (by omega)) i hi
  rw [hp i hi]; split <;> omega

theorem l_tax (a r n : Int) (h : taxRes a r = (n, 0)) (w : World) :
    Calls Try.prog 22 #[.int .i64 a, .int .i64 r, .int .i64 n] w fun e w' => e = .returned (.bool true) ∧ Junk w w' := by
  have HT := n_Tax a r
  rw [h] at HT
  have HT := Lib.hid HT
  clear h
  go_enter Try.func22, Try.ntmps22
  go_wp2_with fail
  refine (HT.out _).mono ?_; rintro e w' ⟨rfl, J, d, rfl⟩
  go_wp2
  go_ret
  exact ⟨by simp, junk_of_below (by (repeat' (first | (with_reducible exact Below.refl _ _) | (with_reducible assumption) | (with_reducible refine Below.alloc ?_ ?_ _) | (with_reducible refine Below.drew ?_) | (with_reducible refine below_drewN ?_ _) | (with_reducible refine below_plus ?_ ?_ _ _) | (with_reducible refine Below.setCell ?_ ?_ _) | (with_reducible refine Below.setRow ?_ ?_ _) | go_size)))⟩

set_option maxHeartbeats 1000000 in
theorem l_split (a b : Option Addr) (n ca cb : Nat) (t : Int) (zs ws : List Int) (w : World) (hz : Reads w a n zs) (hw : Reads w b n ws) (hg : Good zs) (hn : n ≤ 20) (t0 : -1099511627775 ≤ t) (t1 : t ≤ 1099511627775)
    (hP : ∀ P, SParts t zs n P → ∀ i, i < n → P i = ws.getD i 0) :
    Calls Try.prog 23 #[.int .i64 t, .slice a n ca, .slice b n cb] w fun e w' => e = .returned (.bool true) ∧ Junk w w' := by
  have HS := Lib.hid (n_Split a n ca zs t w hz (by omega) (by omega) (by omega))
  have hl := hz.1
  have HK := Lib.hid (fun P J d (hp : SParts t zs n P) => (k_SameInts (some ⟨w.heap.size, 0, none⟩) b n n n cb (partsL P n) ws ((w.alloc (.cells (nrow P n) 3)).plus J d)
    (reads_nrow (by simp [go_sem]) (fun i hi => by have := sparts_bd hp hg hl t0 t1 i hi; omega)) (hw.below ((Below.refl _ _).alloc (Nat.le_refl _) _ |>.trans ((Junk.below ⟨J, d, rfl⟩).mono (by simp)))) (by omega) (by omega)).mono (fun e w' h =>
      (⟨by rw [h.1, decide_eq_true (show partsL P n = ws from list_eq_of_getD _ _ (by simp [partsL, hw.1]) (fun j hj => by
          have hj : j < n := by simpa [partsL] using hj
          rw [← hP P hp j hj]; simp [partsL, List.getD_eq_getElem?_getD, hj]))], h.2⟩ : e = .returned (.bool true) ∧ Junk _ w')))
  have HT := Lib.hid (show ∀ e w', SplitDone t zs n w e w' → ∃ P J d, e = .returned (.tuple #[.slice (some ⟨w.heap.size, 0, none⟩) n n, .int .i64 0]) ∧ SParts t zs n P ∧ w' = (w.alloc (.cells (nrow P n) 3)).plus J d from fun e w' h => by
    rcases h with ⟨h, _⟩ | ⟨_, h, _⟩ | ⟨_, _, h⟩
    · omega
    · exact absurd hg h
    · exact h)
  clear hz hw hg hP hl
  go_enter Try.func23, Try.ntmps23
  go_wp2_with fail
  refine HS.out.mono ?_
  intro e w' hd
  obtain ⟨P, J, d, rfl, hp, rfl⟩ := HT.out _ _ hd
  have HP := Lib.hid hp
  clear hd hp
  go_wp2_with fail
  refine (HK.out P J d HP.out).mono ?_; rintro e w' ⟨rfl, J2, d2, rfl⟩
  go_wp2
  go_ret
  exact ⟨by simp, junk_of_below (by (repeat' (first | (with_reducible exact Below.refl _ _) | (with_reducible assumption) | (with_reducible refine Below.alloc ?_ ?_ _) | (with_reducible refine Below.drew ?_) | (with_reducible refine below_drewN ?_ _) | (with_reducible refine below_plus ?_ ?_ _ _) | (with_reducible refine Below.setCell ?_ ?_ _) | (with_reducible refine Below.setRow ?_ ?_ _) | go_size)))⟩

theorem l_fault (L : List UInt8) (e q : Int) (w : World) (hl : L.length ≤ 1000) (h : parseS L = (0, e, q)) :
    Calls Try.prog 24 #[.string ⟨L.toArray⟩, .int .i64 e, .int .i64 q] w fun e w' => e = .returned (.bool true) ∧ Junk w w' := by
  have HP := Lib.hid (fun w => n_Parse L w hl (0, e, q) (Lib.hid h))
  clear h
  generalize L.toArray = A at *
  go_enter Try.func24, Try.ntmps24
  go_wp2_with fail
  refine (HP.out _).mono ?_; rintro e w' ⟨rfl, J, d, rfl⟩
  go_wp2
  go_ret
  exact ⟨by simp, junk_of_below (by (repeat' (first | (with_reducible exact Below.refl _ _) | (with_reducible assumption) | (with_reducible refine Below.alloc ?_ ?_ _) | (with_reducible refine Below.drew ?_) | (with_reducible refine below_drewN ?_ _) | (with_reducible refine below_plus ?_ ?_ _ _) | (with_reducible refine Below.setCell ?_ ?_ _) | (with_reducible refine Below.setRow ?_ ?_ _) | go_size)))⟩

theorem reads_row {W : World} {b : Nat} (zs : List Int) (h : W.rowAt b = some (ints zs).toArray) (hb : ∀ i, i < zs.length → -9223372036854775808 ≤ zs.getD i 0 ∧ zs.getD i 0 ≤ 9223372036854775807) : Reads W (some ⟨b, 0, none⟩) zs.length zs := by
  refine ⟨rfl, hb, .inr ⟨b, 0, rfl, fun i hi => ?_⟩⟩
  rw [Nat.zero_add, cell_of_row h, List.getElem?_toArray, ints_get zs i hi]

theorem sp_111 (P : Nat → Int) (h : SParts 100 [1, 1, 1] 3 P) : ∀ i, i < 3 → P i = [34, 33, 33].getD i 0 := by
  obtain ⟨G, hG, hp⟩ := h
  have h1 := parts_one hG (by decide) 0 (by decide) (by decide)
  intro i hi
  rw [hp i hi, h1 i hi]
  revert i
  decide

set_option maxHeartbeats 1000000 in
theorem awake_ok : AwakeOk := by
  intro w
  have H1 := Lib.hid (l_tax 1000 72500 72 (by decide))
  have H2 := Lib.hid (fun a b w hz hw => l_split (some ⟨a, 0, none⟩) (some ⟨b, 0, none⟩) 3 3 3 100 [1, 1, 1] [34, 33, 33] w hz hw (by unfold Good; decide) (by decide) (by decide) (by decide) sp_111)
  have H3 := Lib.hid (fun w => l_fault [49, 50, 46, 51] 4 4 w (by decide) (by decide))
  go_enter Try.func15, Try.ntmps15
  go_wp2_with fail
  refine (H1.out _).mono ?_; rintro e w' ⟨rfl, J1, d1, rfl⟩
  go_wp2_with fail
  refine (H2.out _ _ _ (reads_row [1, 1, 1] (by simp [go_sem, ints]) (by decide)) (reads_row [34, 33, 33] (by simp [go_sem, ints]) (by decide))).mono ?_; rintro e w' ⟨rfl, J2, d2, rfl⟩
  go_wp2_with fail
  refine (H3.out _).mono ?_; rintro e w' ⟨rfl, J3, d3, rfl⟩
  go_wp2
  go_ret
  exact ⟨by simp, junk_of_below (by (repeat' (first | (with_reducible exact Below.refl _ _) | (with_reducible assumption) | (with_reducible refine Below.alloc ?_ ?_ _) | (with_reducible refine Below.drew ?_) | (with_reducible refine below_drewN ?_ _) | (with_reducible refine below_plus ?_ ?_ _ _) | (with_reducible refine Below.setCell ?_ ?_ _) | (with_reducible refine Below.setRow ?_ ?_ _) | go_size)))⟩
end Go.Proofs.Ytgnmoneiiogoaaa

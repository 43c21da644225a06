/- The chapter's examples: the law MoneyKnown. Condition: strconv's table is as laid. -/
import Derived.Test.YtgnmoneiiogoaaaDoorLawMX
import Derived.Test.YtgnmoneiiogoaaaDoorMonE
import Derived.Test.YtgnmoneiiogoaaaDoorMonJ
import Derived.Test.YtgnmoneiiogoaaaDoorMonL
namespace Go.Proofs.YtgnmoneiiogoaaaDoor
set_option linter.unusedVariables false
set_option linter.unusedSimpArgs false
open Go.RowKit

theorem text_ok : TextOk := fun v w _ _ ht => n_Text v w ht
theorem parse_ok : ParseOk := fun L w hl => n_Parse L w hl (parseM L) (Lib.hid (parse_same L))

theorem sp_neg (P : Nat → Int) (h : SParts (-100) [1, 1, 1] 3 P) : ∀ i, i < 3 → P i = [-34, -33, -33].getD i 0 := by
  obtain ⟨G, hG, hp⟩ := h
  have h1 := parts_one hG (by decide) 0 (by decide) (by decide)
  intro i hi
  rw [hp i hi, h1 i hi]
  revert i
  decide
theorem sp_05 (P : Nat → Int) (h : SParts 10 [0, 5] 2 P) : ∀ i, i < 2 → P i = [0, 10].getD i 0 := by
  obtain ⟨G, hG, hp⟩ := h
  have h1 := parts_zero hG (by decide)
  intro i hi
  rw [hp i hi, h1 i hi]
  revert i
  decide
theorem sp_31 (P : Nat → Int) (h : SParts 7 [3, 1] 2 P) : ∀ i, i < 2 → P i = [5, 2].getD i 0 := by
  obtain ⟨G, hG, hp⟩ := h
  have h1 := parts_one hG (by decide) 1 (by decide) (by decide)
  intro i hi
  rw [hp i hi, h1 i hi]
  revert i
  decide
theorem tx_5 : amtText (-5) = [45, 48, 46, 48, 53] := by
  simp [amtText, cents2, Lib.decDigits]
theorem tx_123 : amtText 1234567 = [49, 50, 51, 52, 53, 46, 54, 55] := by
  simp [amtText, cents2, Lib.decDigits]

theorem share_of {t p v x y : Int} (h : shareRes t p v = (x, y)) (w : World) : Calls Tryd.prog 13 #[.int .i64 t, .int .i64 p, .int .i64 v] w fun e w' => e = .returned (.tuple #[.int .i64 x, .int .i64 y]) ∧ Junk w w' := by
  have := n_Share t p v w
  rw [h] at this
  exact this
theorem text_of {v : Int} {L : List UInt8} (h1 : amtErr v = 0) (h : amtText v = L) (w : World) (ht : Tab w) : Calls Tryd.prog 8 #[.int .i64 v] w fun e w' => e = .returned (.tuple #[.string ⟨L.toArray⟩, .int .i64 0]) ∧ Junk w w' := by
  have := n_Text v w ht
  rw [if_pos h1, h] at this
  exact this

set_option maxRecDepth 100000 in
set_option maxHeartbeats 4000000 in
theorem known_ok : KnownOk := by
  intro w ht
  have HT := Lib.hid ht
  have T1 := Lib.hid (n_Tax 1 1000001)
  rw [show taxRes 1 1000001 = (0, 5) by decide] at T1
  have S1 := Lib.hid (share_of (t := 100) (p := 1) (v := 3) (x := 33) (y := 0) (by decide))
  have S2 := Lib.hid (share_of (t := 5) (p := 1) (v := 2) (x := 2) (y := 0) (by decide))
  have S3 := Lib.hid (share_of (t := 5) (p := 3) (v := 2) (x := 0) (y := 2) (by decide))
  have P0 := Lib.hid (fun a w hr => (n_Split (some ⟨a, 0, none⟩) 1 1 [0] 1 w hr (by decide) (fun _ => by decide) (by decide) (by decide)).mono fun e w' h => (by
    rcases h with ⟨h, _⟩ | ⟨_, _, h⟩ | ⟨_, h, _⟩
    · omega
    · exact h
    · exact absurd rfl h.2.2 : e = .returned (.tuple #[.slice none 0 0, .int .i64 2]) ∧ Junk w w'))
  have X1 := Lib.hid (text_of (v := -5) (by decide) tx_5)
  have X2 := Lib.hid (text_of (v := 1234567) (by decide) tx_123)
  have R1 := Lib.hid (fun w => n_Parse [45, 48, 46, 48, 53] w (by decide) (-5, 0, 0) (Lib.hid (by decide)))
  have U1 := Lib.hid (l_tax (-1000) 72500 (-72) (by decide))
  have U2 := Lib.hid (l_tax 20 125000 2 (by decide))
  have V1 := Lib.hid (fun a b w hz hw => l_split (some ⟨a, 0, none⟩) (some ⟨b, 0, none⟩) 3 3 3 (-100) [1, 1, 1] [-34, -33, -33] w hz hw (by unfold Good; decide) (by decide) (by decide) (by decide) sp_neg)
  have V2 := Lib.hid (fun a b w hz hw => l_split (some ⟨a, 0, none⟩) (some ⟨b, 0, none⟩) 2 2 2 10 [0, 5] [0, 10] w hz hw (by unfold Good; decide) (by decide) (by decide) (by decide) sp_05)
  have V3 := Lib.hid (fun a b w hz hw => l_split (some ⟨a, 0, none⟩) (some ⟨b, 0, none⟩) 2 2 2 7 [3, 1] [5, 2] w hz hw (by unfold Good; decide) (by decide) (by decide) (by decide) sp_31)
  have A1 := Lib.hid awake_ok
  have F1 := Lib.hid (fun w => l_fault [48, 49, 50, 46, 51, 48] 4 1 w (by decide) (by decide))
  have F2 := Lib.hid (fun w => l_fault [45, 48, 46, 48, 48] 5 0 w (by decide) (by decide))
  have F3 := Lib.hid (fun w => l_fault [] 4 0 w (by decide) (by decide))
  have F4 := Lib.hid (fun w => l_fault [49, 46, 50, 51, 52] 4 4 w (by decide) (by decide))
  clear ht
  go_enter Tryd.func4, Tryd.ntmps4
  go_wp2_with fail
  refine (T1.out _).mono ?_; rintro e w' ⟨rfl, J, d, rfl⟩
  go_wp2_with fail
  refine (S1.out _).mono ?_; rintro e w' ⟨rfl, J, d, rfl⟩
  go_wp2_with fail
  refine (S2.out _).mono ?_; rintro e w' ⟨rfl, J, d, rfl⟩
  go_wp2_with fail
  refine (S3.out _).mono ?_; rintro e w' ⟨rfl, J, d, rfl⟩
  go_wp2_with fail
  refine (P0.out _ _ (reads_row [0] (by simp [go_sem, ints]) (by decide))).mono ?_; rintro e w' ⟨rfl, J, d, rfl⟩
  go_wp2_with fail
  refine (X1.out _ (HT.out.below (by (repeat' (first | (with_reducible exact Below.refl _ _) | (with_reducible assumption) | (with_reducible refine Below.alloc ?_ ?_ _) | (with_reducible refine Below.drew ?_) | (with_reducible refine below_drewN ?_ _) | (with_reducible refine below_plus ?_ ?_ _ _) | (with_reducible refine Below.setCell ?_ ?_ _) | (with_reducible refine Below.setRow ?_ ?_ _) | go_size))))).mono ?_; rintro e w' ⟨rfl, J, d, rfl⟩
  go_wp2_with fail
  refine (X2.out _ (HT.out.below (by (repeat' (first | (with_reducible exact Below.refl _ _) | (with_reducible assumption) | (with_reducible refine Below.alloc ?_ ?_ _) | (with_reducible refine Below.drew ?_) | (with_reducible refine below_drewN ?_ _) | (with_reducible refine below_plus ?_ ?_ _ _) | (with_reducible refine Below.setCell ?_ ?_ _) | (with_reducible refine Below.setRow ?_ ?_ _) | go_size))))).mono ?_; rintro e w' ⟨rfl, J, d, rfl⟩
  go_wp2_with fail
  refine (R1.out _).mono ?_; rintro e w' ⟨rfl, J, d, rfl⟩
  go_wp2_with fail
  refine (U1.out _).mono ?_; rintro e w' ⟨rfl, J, d, rfl⟩
  go_wp2_with fail
  refine (U2.out _).mono ?_; rintro e w' ⟨rfl, J, d, rfl⟩
  go_wp2_with fail
  refine (V1.out _ _ _ (reads_row [1, 1, 1] (by simp [go_sem, ints]) (by decide)) (reads_row [-34, -33, -33] (by simp [go_sem, ints]) (by decide))).mono ?_; rintro e w' ⟨rfl, J, d, rfl⟩
  rw [alloc_plus_eat, alloc_plus_eat, plus_plus]
  go_wp2_with fail
  refine (V2.out _ _ _ (reads_row [0, 5] (by simp [go_sem, ints]) (by decide)) (reads_row [0, 10] (by simp [go_sem, ints]) (by decide))).mono ?_; rintro e w' ⟨rfl, J, d, rfl⟩
  rw [alloc_plus_eat, alloc_plus_eat, plus_plus]
  go_wp2_with fail
  refine (V3.out _ _ _ (reads_row [3, 1] (by simp [go_sem, ints]) (by decide)) (reads_row [5, 2] (by simp [go_sem, ints]) (by decide))).mono ?_; rintro e w' ⟨rfl, J, d, rfl⟩
  rw [alloc_plus_eat, alloc_plus_eat, plus_plus]
  go_wp2_with fail
  refine (A1.out _).mono ?_; rintro e w' ⟨rfl, J, d, rfl⟩
  go_wp2_with fail
  refine (F1.out _).mono ?_; rintro e w' ⟨rfl, J, d, rfl⟩
  go_wp2_with fail
  refine (F2.out _).mono ?_; rintro e w' ⟨rfl, J, d, rfl⟩
  go_wp2_with fail
  refine (F3.out _).mono ?_; rintro e w' ⟨rfl, J, d, rfl⟩
  go_wp2_with fail
  refine (F4.out _).mono ?_; rintro e w' ⟨rfl, J, d, rfl⟩
  go_wp2
  go_ret
  exact ⟨by simp, junk_of_below (by (repeat' (first | (with_reducible exact Below.refl _ _) | (with_reducible assumption) | (with_reducible refine Below.alloc ?_ ?_ _) | (with_reducible refine Below.drew ?_) | (with_reducible refine below_drewN ?_ _) | (with_reducible refine below_plus ?_ ?_ _ _) | (with_reducible refine Below.setCell ?_ ?_ _) | (with_reducible refine Below.setRow ?_ ?_ _) | go_size)))⟩
end Go.Proofs.YtgnmoneiiogoaaaDoor

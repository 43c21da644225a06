/- Contracts of Length, of civil and of apportionref03. Condition: civil's table is as laid. -/
import Derived.Test.YtlbbampmonkleaaDoorCivA
namespace Go.Proofs.YtlbbampmonkleaaDoor
set_option linter.unusedVariables false
set_option linter.unusedSimpArgs false
open Go.RowKit

theorem mlen_out (y m : Int) (h : y < 1 ∨ 9999 < y ∨ m < 1 ∨ 12 < m) : mlen y m = 0 := if_pos h
theorem mlen_tab (y : Int) (k : Nat) (y0 : 1 ≤ y) (y1 : y ≤ 9999) (k0 : 1 ≤ k) (k1 : k ≤ 12) : mlen y k = lensL.getD k 0 + if k = 2 then leapI y else 0 := by
  rw [mlen_in y k y0 y1 (by omega) (by omega)]
  have h : k = 1 ∨ k = 2 ∨ k = 3 ∨ k = 4 ∨ k = 5 ∨ k = 6 ∨ k = 7 ∨ k = 8 ∨ k = 9 ∨ k = 10 ∨ k = 11 ∨ k = 12 := by omega
  rcases h with rfl | rfl | rfl | rfl | rfl | rfl | rfl | rfl | rfl | rfl | rfl | rfl <;> simp [lensL]
theorem lens_bd (k : Nat) : 0 ≤ lensL.getD k 0 ∧ lensL.getD k 0 ≤ 31 := by
  by_cases h : k < 13
  · have : ∀ k < 13, 0 ≤ lensL.getD k 0 ∧ lensL.getD k 0 ≤ 31 := by decide
    exact this k h
  · simp [List.getD_eq_getElem?_getD, List.getElem?_eq_none (show lensL.length ≤ k by simp [lensL]; omega)]

set_option maxHeartbeats 1000000 in
theorem n_Length (y m : Int) (w : World) (ht : CTab w) : Calls Tryd.prog 32 #[.int .i64 y, .int .i64 m] w fun e w' => e = .returned (.int .i64 (mlen y m)) ∧ w = w' := by
  by_cases c1 : y < 1
  · rw [mlen_out y m (by omega)]
    go_enter Tryd.func32, Tryd.ntmps32
    go_wp2
    go_ret
    exact ⟨rfl, rfl⟩
  by_cases c2 : 9999 < y
  · rw [mlen_out y m (by omega)]
    go_enter Tryd.func32, Tryd.ntmps32
    go_wp2
    go_ret
    exact ⟨rfl, rfl⟩
  by_cases c3 : m < 1
  · rw [mlen_out y m (by omega)]
    go_enter Tryd.func32, Tryd.ntmps32
    go_wp2
    go_ret
    exact ⟨rfl, rfl⟩
  by_cases c4 : 12 < m
  · rw [mlen_out y m (by omega)]
    go_enter Tryd.func32, Tryd.ntmps32
    go_wp2
    go_ret
    exact ⟨rfl, rfl⟩
  obtain ⟨k, rfl⟩ : ∃ k : Nat, m = k := ⟨m.toNat, by omega⟩
  rw [mlen_tab y k (by omega) (by omega) (by omega) (by omega)]
  have hcell := ht.cell k (by omega)
  obtain ⟨l0, l1⟩ := lens_bd k
  by_cases h2 : k = 2
  · rw [if_pos h2]
    subst h2
    rw [show lensL.getD 2 0 = 28 from rfl] at *
    have HL := Lib.hid (fun w => n_isLeap y (by omega) (by omega) w)
    rcases leapI_cases y with ⟨h, h', _⟩ | ⟨h, h', _⟩ <;> rw [h'] <;> rw [h] at HL <;> clear h h' ht
    · go_enter Tryd.func32, Tryd.ntmps32
      go_wp2_with fail
      refine (HL.out _).mono ?_; rintro e w' ⟨rfl, rfl⟩
      go_wp2
      go_ret
      exact ⟨rfl, rfl⟩
    · go_enter Tryd.func32, Tryd.ntmps32
      go_wp2_with fail
      refine (HL.out _).mono ?_; rintro e w' ⟨rfl, rfl⟩
      go_wp2
      go_ret
      exact ⟨rfl, rfl⟩
  · rw [if_neg h2, Int.add_zero]
    have e2 : ((k : Int) == 2) = false := by rw [beq_eq_false_iff_ne]; omega
    have k13 : k < 13 := by omega
    generalize lensL.getD k 0 = v at *
    clear ht
    go_enter Tryd.func32, Tryd.ntmps32
    go_wp2
    go_ret
    exact ⟨rfl, rfl⟩
end Go.Proofs.YtlbbampmonkleaaDoor

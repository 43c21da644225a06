/- Contracts of apportionref07: fits, Valid, Compare, Move, Turn, between, On, In, Meet. -/
import Derived.Test.YtlfjbbelanccbaaProg
import Derived.Test.YtlfjbbelanccbaaPtM
import Derived.Lib.Hide
namespace Go.Proofs.Ytlfjbbelanccbaa
set_option linter.unusedVariables false
set_option linter.unusedSimpArgs false
open Go.RowKit

def I64n (n : Int) : Prop := -9223372036854775808 ≤ n ∧ n ≤ 9223372036854775807
/-- Is a number one of a coordinate? -/
def okI (n : Int) : Bool := decide (-1099511627775 ≤ n) && decide (n ≤ 1099511627775)
theorem okI_iff {n : Int} : okI n = true ↔ -1099511627775 ≤ n ∧ n ≤ 1099511627775 := by simp [okI]
def okP (x y : Int) : Bool := okI x && okI y
theorem okP_iff {x y : Int} : okP x y = true ↔ (-1099511627775 ≤ x ∧ x ≤ 1099511627775) ∧ (-1099511627775 ≤ y ∧ y ≤ 1099511627775) := by simp [okP, okI_iff]
def pt (x y : Int) : Value := .agg #[.int .i64 x, .int .i64 y]
def cmpF (ax ay bx by_ : Int) : Int := if ay < by_ ∨ (ay = by_ ∧ ax < bx) then -1 else if ax = bx ∧ ay = by_ then 0 else 1
instance (n a b : Int) : Decidable (btw n a b) := by unfold btw; exact inferInstance
instance (px py ax ay bx by_ : Int) : Decidable (onF px py ax ay bx by_) := by unfold onF; exact inferInstance
def moveE (x y u v : Int) : Int := if okP x y && okP u v then (if okP (x + u) (y + v) then 0 else 5) else 2
def moveX (x y u v : Int) : Int := if moveE x y u v = 0 then x + u else 0
def moveY (x y u v : Int) : Int := if moveE x y u v = 0 then y + v else 0

theorem r_ptFits (n : Int) (w : World) : Calls Try.prog 32 #[.int .i64 n] w fun e w' => e = .returned (.bool (okI n)) ∧ w' = w := by
  unfold okI
  by_cases h1 : -1099511627775 ≤ n
  · by_cases h2 : n ≤ 1099511627775
    · go_enter Try.func32, Try.ntmps32
      go_wp2
      go_ret
      exact ⟨by simp [h1, h2], rfl⟩
    · go_enter Try.func32, Try.ntmps32
      go_wp2
      go_ret
      exact ⟨by simp [h1, h2], rfl⟩
  · go_enter Try.func32, Try.ntmps32
    go_wp2
    go_ret
    exact ⟨congrArg Value.bool (by simp; omega) |> congrArg Ending.returned, rfl⟩
theorem r_ptValid (x y : Int) (w : World) : Calls Try.prog 14 #[pt x y] w fun e w' => e = .returned (.bool (okP x y)) ∧ Junk w w' := by
  have HF := Lib.hid r_ptFits
  unfold pt okP
  cases hx : okI x with
  | false =>
    have HF1 := Lib.hid (fun w' => r_ptFits x w')
    rw [hx] at HF1
    clear hx
    go_enter Try.func14, Try.ntmps14
    go_wp2_with (go_at_call 32; refine (HF1.out _).mono ?_; rintro e w1 ⟨rfl, rfl⟩)
    go_ret
    exact ⟨rfl, junk_of_below (by (repeat' (first | (with_reducible exact Below.refl _ _) | (with_reducible assumption) | (with_reducible refine Below.alloc ?_ ?_ _) | (with_reducible refine Below.drew ?_) | (with_reducible refine below_drewN ?_ _) | (with_reducible refine below_plus ?_ ?_ _ _) | (with_reducible refine Below.setCell ?_ ?_ _) | (with_reducible refine Below.setRow ?_ ?_ _) | go_size)))⟩
  | true =>
    have HF1 := Lib.hid (fun w' => r_ptFits x w')
    rw [hx] at HF1
    clear hx
    go_enter Try.func14, Try.ntmps14
    go_wp2_with (first | (go_at_call 32; refine (HF1.out _).mono ?_; clear HF1; rintro e w1 ⟨rfl, rfl⟩) | (go_at_call 32; refine (HF.out _ _).mono ?_; rintro e w1 ⟨rfl, rfl⟩))
    go_ret
    exact ⟨by simp, junk_of_below (by (repeat' (first | (with_reducible exact Below.refl _ _) | (with_reducible assumption) | (with_reducible refine Below.alloc ?_ ?_ _) | (with_reducible refine Below.drew ?_) | (with_reducible refine below_drewN ?_ _) | (with_reducible refine below_plus ?_ ?_ _ _) | (with_reducible refine Below.setCell ?_ ?_ _) | (with_reducible refine Below.setRow ?_ ?_ _) | go_size)))⟩

theorem r_ptCompare (ax ay bx by_ : Int) (w : World) : Calls Try.prog 16 #[pt ax ay, pt bx by_] w fun e w' => e = .returned (.int .i64 (cmpF ax ay bx by_)) ∧ Junk w w' := by
  unfold pt cmpF
  rcases Int.lt_trichotomy ay by_ with h | h | h
  · rw [if_pos (.inl h)]
    go_enter Try.func16, Try.ntmps16
    go_wp2
    go_ret
    exact ⟨rfl, junk_of_below (by (repeat' (first | (with_reducible exact Below.refl _ _) | (with_reducible assumption) | (with_reducible refine Below.alloc ?_ ?_ _) | (with_reducible refine Below.drew ?_) | (with_reducible refine below_drewN ?_ _) | (with_reducible refine below_plus ?_ ?_ _ _) | (with_reducible refine Below.setCell ?_ ?_ _) | (with_reducible refine Below.setRow ?_ ?_ _) | go_size)))⟩
  · subst h
    rcases Int.lt_trichotomy ax bx with h | h | h
    · rw [if_pos (.inr ⟨rfl, h⟩)]
      go_enter Try.func16, Try.ntmps16
      go_wp2
      go_ret
      exact ⟨rfl, junk_of_below (by (repeat' (first | (with_reducible exact Below.refl _ _) | (with_reducible assumption) | (with_reducible refine Below.alloc ?_ ?_ _) | (with_reducible refine Below.drew ?_) | (with_reducible refine below_drewN ?_ _) | (with_reducible refine below_plus ?_ ?_ _ _) | (with_reducible refine Below.setCell ?_ ?_ _) | (with_reducible refine Below.setRow ?_ ?_ _) | go_size)))⟩
    · subst h
      rw [if_neg (by omega), if_pos ⟨rfl, rfl⟩]
      go_enter Try.func16, Try.ntmps16
      go_wp2
      go_ret
      exact ⟨rfl, junk_of_below (by (repeat' (first | (with_reducible exact Below.refl _ _) | (with_reducible assumption) | (with_reducible refine Below.alloc ?_ ?_ _) | (with_reducible refine Below.drew ?_) | (with_reducible refine below_drewN ?_ _) | (with_reducible refine below_plus ?_ ?_ _ _) | (with_reducible refine Below.setCell ?_ ?_ _) | (with_reducible refine Below.setRow ?_ ?_ _) | go_size)))⟩
    · have e1 : ¬ ax < bx := by omega
      have e2 : (ax == bx) = false := by rw [beq_eq_false_iff_ne]; omega
      rw [if_neg (by omega), if_neg (by omega)]
      go_enter Try.func16, Try.ntmps16
      go_wp2
      go_ret
      exact ⟨rfl, junk_of_below (by (repeat' (first | (with_reducible exact Below.refl _ _) | (with_reducible assumption) | (with_reducible refine Below.alloc ?_ ?_ _) | (with_reducible refine Below.drew ?_) | (with_reducible refine below_drewN ?_ _) | (with_reducible refine below_plus ?_ ?_ _ _) | (with_reducible refine Below.setCell ?_ ?_ _) | (with_reducible refine Below.setRow ?_ ?_ _) | go_size)))⟩
  · have e1 : ¬ ay < by_ := by omega
    have e2 : (ay == by_) = false := by rw [beq_eq_false_iff_ne]; omega
    rw [if_neg (by omega), if_neg (by omega)]
    go_enter Try.func16, Try.ntmps16
    go_wp2
    go_ret
    exact ⟨rfl, junk_of_below (by (repeat' (first | (with_reducible exact Below.refl _ _) | (with_reducible assumption) | (with_reducible refine Below.alloc ?_ ?_ _) | (with_reducible refine Below.drew ?_) | (with_reducible refine below_drewN ?_ _) | (with_reducible refine below_plus ?_ ?_ _ _) | (with_reducible refine Below.setCell ?_ ?_ _) | (with_reducible refine Below.setRow ?_ ?_ _) | go_size)))⟩
end Go.Proofs.Ytlfjbbelanccbaa

/- Contract of apportionref01's Floor: a * b / c rounded down. Conditions: the arguments are ints. -/
import Derived.Test.YtgnmoneiiogoaaaNumJ
import Derived.Test.YtgnmoneiiogoaaaNumK
namespace Go.Proofs.Ytgnmoneiiogoaaa
set_option linter.unusedVariables false
set_option linter.unusedSimpArgs false
open Go.RowKit

theorem floor_neg (a b c : Int) (hc : c ≠ 0) : (decide (sgn (a * b) ≠ 0) && !(decide (a * b < 0) == decide (c < 0))) = decide (divSgn a b c < 0) := by
  unfold divSgn
  rw [← sgn_mul]
  rcases sgn_cases (a * b) with h | h | h
  · rcases sgn_cases c with g | g | g
    · rw [h.2, g.2, decide_eq_false (show ¬ a * b < 0 by omega), decide_eq_false (show ¬ c < 0 by omega)]; decide
    · omega
    · rw [h.2, g.2, decide_eq_false (show ¬ a * b < 0 by omega), decide_eq_true (show c < 0 by omega)]; decide
  · rw [h.2]; simp
  · rcases sgn_cases c with g | g | g
    · rw [h.2, g.2, decide_eq_true (show a * b < 0 by omega), decide_eq_false (show ¬ c < 0 by omega)]; decide
    · omega
    · rw [h.2, g.2, decide_eq_true (show a * b < 0 by omega), decide_eq_true (show c < 0 by omega)]; decide

theorem div_neg_same (a b c : Int) (hc : c ≠ 0) (n : Int) (hn : a * b = 0 → n = 0) :
    (if decide (divSgn a b c < 0) = true then -n else n) = divSgn a b c * n := by
  unfold divSgn
  rw [← sgn_mul]
  rcases sgn_cases (a * b) with h | h | h
  · rcases sgn_cases c with g | g | g
    · rw [h.2, g.2]; simp
    · omega
    · rw [h.2, g.2]; simp
  · rw [hn h.1]; simp
  · rcases sgn_cases c with g | g | g
    · rw [h.2, g.2]; simp
    · omega
    · rw [h.2, g.2]; simp

set_option maxRecDepth 100000 in
theorem r_Floor (a b c : Int) (a0 : -9223372036854775808 ≤ a) (a1 : a ≤ 9223372036854775807) (b0 : -9223372036854775808 ≤ b) (b1 : b ≤ 9223372036854775807)
    (c0 : -9223372036854775808 ≤ c) (c1 : c ≤ 9223372036854775807) (w : World) :
    Calls Try.prog 27 #[.int .i64 a, .int .i64 b, .int .i64 c] w fun e w' => e = .returned (.tuple #[.int .i64 (floorRes a b c).1, .int .i64 (floorRes a b c).2]) ∧ Junk w w' := by
  by_cases hc : c = 0
  · subst hc
    rw [show floorRes a b 0 = (0, 2) by unfold floorRes divRes; exact if_pos rfl]
    go_enter Try.func27, Try.ntmps27
    go_wp2
    go_ret2
    exact ⟨rfl, junk_of_below (by (repeat' (first | (with_reducible exact Below.refl _ _) | (with_reducible assumption) | (with_reducible refine Below.alloc ?_ ?_ _) | (with_reducible refine Below.drew ?_) | (with_reducible refine below_drewN ?_ _) | (with_reducible refine below_plus ?_ ?_ _ _) | (with_reducible refine Below.setCell ?_ ?_ _) | (with_reducible refine Below.setRow ?_ ?_ _) | go_size)))⟩
  · have hab := prod_abs a b (i64_abs a a0 a1) (i64_abs b b0 b1)
    obtain ⟨xb, x0, x1, x2, x3, x4, x5, x6, x7, x8, x9, x10, x11, hxl⟩ := cells_lit (a * b)
    obtain ⟨qb, q0, q1, q2, q3, q4, q5, q6, q7, q8, q9, q10, q11, hql⟩ := cells_lit (((a * b).natAbs : Int) / (c.natAbs : Int))
    have hq0 : 0 ≤ ((a * b).natAbs : Int) / (c.natAbs : Int) := Int.ediv_nonneg (by omega) (by omega)
    have hq1 := Int.ediv_le_self (c.natAbs : Int) (show 0 ≤ ((a * b).natAbs : Int) by omega)
    have hxb := cells_sign_of _ xb _ hxl
    have hM := r_Mul a b (by omega) (by omega)
    have hP := r_parts (a * b) c _ _ rfl rfl (by omega) (by omega) (by omega)
    have hS := r_Sgn (a * b) (fits_of _ (by omega))
    rw [num_agg (a * b), hxl] at hM hP hS
    have hP' : ∀ w, Calls Try.prog 35 #[.agg #[.bool xb, .int .i64 x0, .int .i64 x1, .int .i64 x2, .int .i64 x3, .int .i64 x4, .int .i64 x5, .int .i64 x6, .int .i64 x7, .int .i64 x8, .int .i64 x9, .int .i64 x10, .int .i64 x11], num c] w fun e w' => e = .returned (.tuple #[.agg #[.bool qb, .int .i64 q0, .int .i64 q1, .int .i64 q2, .int .i64 q3, .int .i64 q4, .int .i64 q5, .int .i64 q6, .int .i64 q7, .int .i64 q8, .int .i64 q9, .int .i64 q10, .int .i64 q11], .int .i64 (sgn (2 * (((a * b).natAbs : Int) % (c.natAbs : Int)) - c.natAbs)), .bool (decide (((a * b).natAbs : Int) % (c.natAbs : Int) ≠ 0))]) ∧ Junk w w' := by
      intro w
      refine (hP w).mono ?_
      rintro e w' ⟨he, hj⟩
      refine ⟨?_, hj⟩
      rw [← hql]; exact he
    refine r_Floor_core a b c _ _ w (num a) (num b) (num c) xb qb x0 x1 x2 x3 x4 x5 x6 x7 x8 x9 x10 x11 q0 q1 q2 q3 q4 q5 q6 q7 q8 q9 q10 q11 (by simp [hc]) (r_Of a a0 a1) (r_Of b b0 b1) (r_Of c c0 c1) hM hP' _ hq0 (by show _ < _; omega) hql.symm (sgn (a * b)) hS _ rfl (floorRes a b c) ?_
    show _ = _
    unfold floorRes divRes
    rw [if_neg hc, hxb, floor_neg a b c hc]
    have e1 : (decide (((a * b).natAbs : Int) % (c.natAbs : Int) ≠ 0) && decide (divSgn a b c < 0)) = floorUp a b c := by
      unfold floorUp absR
      rw [← Int.natCast_emod, Bool.eq_iff_iff]
      simp only [Bool.and_eq_true, decide_eq_true_eq]
      omega
    rw [e1]
    have e2 : absQ a b c + (if floorUp a b c = true then (1 : Int) else 0) = ((a * b).natAbs : Int) / (c.natAbs : Int) + (if floorUp a b c = true then 1 else 0) := by unfold absQ; rw [Int.natCast_ediv]
    rw [e2, div_neg_same a b c hc]
    intro h
    have e3 : floorUp a b c = false := by
      obtain ⟨h1, h2⟩ := absQR_zero a b c h
      unfold floorUp; rw [h2]; simp
    rw [e3, h]; simp
end Go.Proofs.Ytgnmoneiiogoaaa

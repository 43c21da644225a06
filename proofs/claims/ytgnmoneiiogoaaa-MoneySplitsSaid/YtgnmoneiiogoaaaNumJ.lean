/- Contract of apportionref01's Even: a * b / c rounded half to even. Conditions: the arguments are ints. -/
import Derived.Test.YtgnmoneiiogoaaaNumI
namespace Go.Proofs.Ytgnmoneiiogoaaa
set_option linter.unusedVariables false
set_option linter.unusedSimpArgs false
open Go.RowKit

theorem cells_sign_of (z : Int) (b : Bool) (l : List Value) (h : cellsOf z = (Value.bool b :: l).toArray) : b = decide (z < 0) := by
  have h1 := numCells_zero (decide (z < 0)) (digs 12 z.natAbs)
  have h2 : (cellsOf z)[0]? = some (.bool (decide (z < 0))) := h1
  rw [h] at h2
  simpa using h2

theorem cells_low_of (z : Int) (z0 : 0 ≤ z) (b : Bool) (d : Int) (l : List Value) (h : cellsOf z = (Value.bool b :: Value.int .i64 d :: l).toArray) : d = z % 65536 := by
  have h1 := numCells_get (decide (z < 0)) (digs 12 z.natAbs) 0 (by rw [digs_len]; omega)
  have h2 : (cellsOf z)[1 + 0]? = some (.int .i64 ((digs 12 z.natAbs).getD 0 0)) := h1
  rw [h, digs_getD _ _ _ (by omega)] at h2
  have h3 : d = (z.natAbs : Int) / 65536 ^ 0 % 65536 := by simpa using h2
  rw [h3, Int.pow_zero, Int.ediv_one, show (z.natAbs : Int) = z by omega]

/-- The signs' game: what is told is the same with the sign put on and with the sign multiplied. -/
theorem signed_same (a b c : Int) (hc : c ≠ 0) (n : Int) (hn : a * b = 0 → n = 0) :
    (if (!(decide (a * b < 0) == decide (c < 0))) = true then -n else n) = divSgn a b c * n := by
  unfold divSgn
  rw [← sgn_mul]
  rcases sgn_cases (a * b) with h | h | h
  · rcases sgn_cases c with g | g | g
    · rw [h.2, g.2, decide_eq_false (show ¬ a * b < 0 by omega), decide_eq_false (show ¬ c < 0 by omega)]; simp
    · omega
    · rw [h.2, g.2, decide_eq_false (show ¬ a * b < 0 by omega), decide_eq_true (show c < 0 by omega)]; simp
  · rw [hn h.1]; simp
  · rcases sgn_cases c with g | g | g
    · rw [h.2, g.2, decide_eq_true (show a * b < 0 by omega), decide_eq_false (show ¬ c < 0 by omega)]; simp
    · omega
    · rw [h.2, g.2, decide_eq_true (show a * b < 0 by omega), decide_eq_true (show c < 0 by omega)]; simp

theorem even_up (a b c : Int) : (decide (0 < sgn (2 * (((a * b).natAbs : Int) % (c.natAbs : Int)) - c.natAbs)) || (decide (sgn (2 * (((a * b).natAbs : Int) % (c.natAbs : Int)) - c.natAbs) = 0) && decide (((a * b).natAbs : Int) / c.natAbs % 65536 % 2 = 1))) = evenUp a b c := by
  unfold evenUp absR absQ
  rw [← Int.natCast_emod, ← Int.natCast_ediv]
  generalize (a * b).natAbs % c.natAbs = r
  generalize (a * b).natAbs / c.natAbs = q
  rw [Bool.eq_iff_iff]
  simp only [Bool.or_eq_true, Bool.and_eq_true, decide_eq_true_eq]
  have := sgn_cases (2 * (r : Int) - c.natAbs)
  omega

set_option maxRecDepth 100000 in
theorem r_Even (a b c : Int) (a0 : -9223372036854775808 ≤ a) (a1 : a ≤ 9223372036854775807) (b0 : -9223372036854775808 ≤ b) (b1 : b ≤ 9223372036854775807)
    (c0 : -9223372036854775808 ≤ c) (c1 : c ≤ 9223372036854775807) (w : World) :
    Calls Try.prog 21 #[.int .i64 a, .int .i64 b, .int .i64 c] w fun e w' => e = .returned (.tuple #[.int .i64 (evenRes a b c).1, .int .i64 (evenRes a b c).2]) ∧ Junk w w' := by
  by_cases hc : c = 0
  · subst hc
    rw [show evenRes a b 0 = (0, 2) by unfold evenRes divRes; exact if_pos rfl]
    go_enter Try.func21, Try.ntmps21
    go_wp2
    go_ret2
    exact ⟨rfl, junk_of_below (by (repeat' (first | (with_reducible exact Below.refl _ _) | (with_reducible assumption) | (with_reducible refine Below.alloc ?_ ?_ _) | (with_reducible refine Below.drew ?_) | (with_reducible refine below_drewN ?_ _) | (with_reducible refine below_plus ?_ ?_ _ _) | (with_reducible refine Below.setCell ?_ ?_ _) | (with_reducible refine Below.setRow ?_ ?_ _) | go_size)))⟩
  · have hab := prod_abs a b (i64_abs a a0 a1) (i64_abs b b0 b1)
    obtain ⟨xb, x0, x1, x2, x3, x4, x5, x6, x7, x8, x9, x10, x11, hxl⟩ := cells_lit (a * b)
    obtain ⟨qb, q0, q1, q2, q3, q4, q5, q6, q7, q8, q9, q10, q11, hql⟩ := cells_lit (((a * b).natAbs : Int) / (c.natAbs : Int))
    have hq0 : 0 ≤ ((a * b).natAbs : Int) / (c.natAbs : Int) := Int.ediv_nonneg (by omega) (by omega)
    have hq1 := Int.ediv_le_self (c.natAbs : Int) (show 0 ≤ ((a * b).natAbs : Int) by omega)
    have hxb := cells_sign_of _ xb _ hxl
    have hlow := cells_low_of _ hq0 qb q0 _ hql
    have hM := r_Mul a b (by omega) (by omega)
    have hP := r_parts (a * b) c _ _ rfl rfl (by omega) (by omega) (by omega)
    rw [num_agg (a * b), hxl] at hM hP
    have hP' : ∀ w, Calls Try.prog 35 #[.agg #[.bool xb, .int .i64 x0, .int .i64 x1, .int .i64 x2, .int .i64 x3, .int .i64 x4, .int .i64 x5, .int .i64 x6, .int .i64 x7, .int .i64 x8, .int .i64 x9, .int .i64 x10, .int .i64 x11], num c] w fun e w' => e = .returned (.tuple #[.agg #[.bool qb, .int .i64 q0, .int .i64 q1, .int .i64 q2, .int .i64 q3, .int .i64 q4, .int .i64 q5, .int .i64 q6, .int .i64 q7, .int .i64 q8, .int .i64 q9, .int .i64 q10, .int .i64 q11], .int .i64 (sgn (2 * (((a * b).natAbs : Int) % (c.natAbs : Int)) - c.natAbs)), .bool (decide (((a * b).natAbs : Int) % (c.natAbs : Int) ≠ 0))]) ∧ Junk w w' := by
      intro w
      refine (hP w).mono ?_
      rintro e w' ⟨he, hj⟩
      refine ⟨?_, hj⟩
      rw [← hql]; exact he
    refine r_Even_core a b c _ _ w (num a) (num b) (num c) xb qb x0 x1 x2 x3 x4 x5 x6 x7 x8 x9 x10 x11 q0 q1 q2 q3 q4 q5 q6 q7 q8 q9 q10 q11 (by simp [hc]) (r_Of a a0 a1) (r_Of b b0 b1) (r_Of c c0 c1) hM hP' _ hq0 (by show _ < _; omega) hql.symm (by omega) _ rfl (evenUp a b c) ?_ (evenRes a b c) ?_
    · show _ = _
      rw [hlow, even_up]
    · show _ = _
      unfold evenRes divRes
      rw [if_neg hc, hxb]
      have : absQ a b c + (if evenUp a b c = true then (1 : Int) else 0) = ((a * b).natAbs : Int) / (c.natAbs : Int) + (if evenUp a b c = true then 1 else 0) := by unfold absQ; rw [Int.natCast_ediv]
      rw [this, signed_same a b c hc]
      intro h
      have e1 : evenUp a b c = false := by
        obtain ⟨h1, h2⟩ := absQR_zero a b c h
        unfold evenUp; rw [h1, h2]; simp
      rw [e1, h]; simp
end Go.Proofs.Ytgnmoneiiogoaaa

/- Plain arithmetic behind a division of 128 bits by 64: the estimate of one digit to the base 2^32, and what it comes to. No program. -/
namespace Go.Proofs.YtegliapkbapigaaGreat
set_option linter.unusedVariables false
set_option linter.unusedSimpArgs false
theorem dm_exp (q P R : Int) : q * (P * 4294967296 + R) = (q * P) * 4294967296 + q * R := by rw [Int.mul_add, ← Int.mul_assoc]

theorem dm_lt (Y U n : Int) (hY : 0 < Y) (hU : U < Y) (n1 : n < 4294967296) : (U * 4294967296 + n) / Y < 4294967296 :=
  Int.ediv_lt_of_lt_mul hY (by omega)

theorem dm_dec1 (Y U n q : Int) (hY : 0 < Y) (hU : U < Y) (n1 : n < 4294967296) (h : 4294967296 ≤ q) : (U * 4294967296 + n) / Y ≤ q - 1 := by
  have := dm_lt Y U n hY hU n1; omega

theorem dm_dec2 (P R U n q r : Int) (hY : 0 < P * 4294967296 + R) (inv : q * P + r = U) (h : 4294967296 * r + n < q * R) :
    (U * 4294967296 + n) / (P * 4294967296 + R) ≤ q - 1 := by
  have := Int.ediv_lt_of_lt_mul (a := U * 4294967296 + n) (b := q) hY (by rw [dm_exp]; omega)
  omega

theorem dm_exit (P R U n q r : Int) (hY : 0 < P * 4294967296 + R) (inv : q * P + r = U) (h : q * R ≤ 4294967296 * r + n) :
    q ≤ (U * 4294967296 + n) / (P * 4294967296 + R) :=
  Int.le_ediv_of_mul_le hY (by rw [dm_exp]; omega)

theorem dm_prod (q R : Int) (q0 : 0 ≤ q) (q1 : q ≤ 4294967296) (r0 : 0 ≤ R) (r1 : R ≤ 4294967295) : 0 ≤ q * R ∧ q * R ≤ 18446744069414584320 :=
  ⟨Int.mul_nonneg q0 r0, by have := Int.mul_le_mul q1 r1 r0 (by omega); omega⟩

theorem dm_brk (P R U n q r : Int) (hY : 0 < P * 4294967296 + R) (inv : q * P + r = U) (q0 : 0 ≤ q) (q1 : q ≤ 4294967296) (r0 : 0 ≤ R) (r1 : R ≤ 4294967295) (n0 : 0 ≤ n) (h : 4294967296 ≤ r) :
    q ≤ (U * 4294967296 + n) / (P * 4294967296 + R) :=
  dm_exit P R U n q r hY inv (by have := dm_prod q R q0 q1 r0 r1; omega)

theorem dm_init (P R U n : Int) (p0 : 2147483648 ≤ P) (r0 : 0 ≤ R) (r1 : R ≤ 4294967295) (u0 : 0 ≤ U) (u1 : U < P * 4294967296 + R) (n1 : n < 4294967296) :
    (U * 4294967296 + n) / (P * 4294967296 + R) ≤ U / P ∧ 0 ≤ U / P ∧ U / P ≤ 4294967297 ∧ U / P * P + U % P = U ∧ 0 ≤ U % P ∧ U % P < P := by
  have e := Int.ediv_mul_add_emod U P
  have e1 := Int.emod_nonneg U (show P ≠ 0 by omega)
  have e2 := Int.emod_lt_of_pos U (show 0 < P by omega)
  have e3 : 0 ≤ U / P := Int.ediv_nonneg u0 (by omega)
  refine ⟨?_, e3, ?_, e, e1, e2⟩
  · have hb : (U / P + 1) * R ≥ 0 := Int.mul_nonneg (by omega) r0
    have := Int.ediv_lt_of_lt_mul (a := U * 4294967296 + n) (b := U / P + 1) (c := P * 4294967296 + R) (by omega) (by rw [dm_exp, Int.add_mul]; omega)
    omega
  · have : U / P < 4294967298 := Int.ediv_lt_of_lt_mul (by omega) (by omega)
    omega

/-- The whole: two digits make the quotient and the rest. -/
theorem dm_two (Y U n1 n0 : Int) (hY : 0 < Y) :
    ((U * 4294967296 + n1) % Y * 4294967296 + n0) / Y + (U * 4294967296 + n1) / Y * 4294967296 = (U * 18446744073709551616 + n1 * 4294967296 + n0) / Y
    ∧ ((U * 4294967296 + n1) % Y * 4294967296 + n0) % Y = (U * 18446744073709551616 + n1 * 4294967296 + n0) % Y := by
  have e := Int.ediv_mul_add_emod (U * 4294967296 + n1) Y
  generalize hq : (U * 4294967296 + n1) / Y = q at *
  generalize hr : (U * 4294967296 + n1) % Y = r at *
  have e2 : U * 18446744073709551616 + n1 * 4294967296 + n0 = (r * 4294967296 + n0) + (q * 4294967296) * Y := by
    rw [Int.mul_right_comm]; omega
  rw [e2, Int.add_mul_ediv_right _ _ (by omega), Int.add_mul_emod_self_right]
  exact ⟨rfl, rfl⟩

/-- The scale 2^s goes out of a quotient. -/
theorem dm_scale (M y s : Nat) (hy : 0 < y) : (M * 2 ^ s) / (y * 2 ^ s) = M / y ∧ (M * 2 ^ s) % (y * 2 ^ s) = (M % y) * 2 ^ s :=
  ⟨Nat.mul_div_mul_right _ _ (Nat.two_pow_pos s), Nat.mul_mod_mul_right _ _ _⟩
end Go.Proofs.YtegliapkbapigaaGreat

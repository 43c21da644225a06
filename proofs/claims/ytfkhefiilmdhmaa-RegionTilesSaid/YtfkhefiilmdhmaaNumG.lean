/- Contract of apportionref01's Num.parts: how often one size goes into another, and how far the rest is from a half. Conditions: the numbers are below 2^128 and 2^64 in size, the second one is not nought. -/
import Derived.Test.YtfkhefiilmdhmaaNumF
import Derived.Deep.RegionWith
import Derived.Test.YtfkhefiilmdhmaaKitTwo
namespace Go.Proofs.Ytfkhefiilmdhmaa
set_option linter.unusedVariables false
set_option linter.unusedSimpArgs false
open Go.RowKit

def cellsOf (z : Int) : Array Value := numCells (decide (z < 0)) (digs 12 z.natAbs)
theorem num_agg (z : Int) : num z = .agg (cellsOf z) := rfl
@[go_sem] theorem cellsOf_size (z : Int) : (cellsOf z).size = 13 := by unfold cellsOf; rw [numCells_size, digs_len]
@[go_sem] theorem cellsOf_abs (z : Int) : (cellsOf z).setIfInBounds 0 (.bool false) = cellsOf z.natAbs := by
  unfold cellsOf; rw [numCells_sign, Int.natAbs_natCast, decide_eq_false (show ¬ ((z.natAbs : Int) < 0) by omega)]
theorem cellsOf_zero : cellsOf 0 = numCells false (List.replicate 12 0) := rfl

theorem wpList_cells_store {ops : Array Oper} {rest : List Oper} {o : Oper} {a : Act} {w : World} {Q : Exit → Act → World → Prop} (hgd : o.guard = none) (x y : Operand) (ho : o.op = .store 114 x y)
    (g : Nat) (hx : a.eval x = .pointer (some ⟨g, 0, none⟩)) (z : Int) (hy : a.eval y = .agg (cellsOf z)) (ha : (w.rowAt g).any (fun c => c.size == 13) = true)
    (h : ∀ w1, w1 = w.setRow g (cellsOf z) → wpList Try.prog ops Q rest (a.put o.dst undef) w1) : wpList Try.prog ops Q (o :: rest) a w :=
  wpList_num_store hgd x y ho g hx _ _ hy (digs_len _ _) ha (h _ rfl)

theorem r_size' (x y : Int) (hx : Fits x) (hy : Fits y) (w : World) :
    Calls Try.prog 108 #[.agg (cellsOf x), .agg (cellsOf y)] w fun e w' => e = .returned (.int .i64 (sgn ((x.natAbs : Int) - y.natAbs))) ∧ Junk w w' :=
  r_size _ _ _ _ (by omega) hx (by omega) hy w
theorem r_Plus' (x y : Int) (hx : Fits x) (hy : Fits y) (hs : Fits (x + y)) (w : World) :
    Calls Try.prog 95 #[.agg (cellsOf x), .agg (cellsOf y)] w fun e w' => e = .returned (.agg (cellsOf (x + y))) ∧ Junk w w' := r_Plus x y hx hy hs w
theorem r_Of' (n : Int) (h0 : -9223372036854775808 ≤ n) (h1 : n ≤ 9223372036854775807) (w : World) :
    Calls Try.prog 93 #[.int .i64 n] w fun e w' => e = .returned (.agg (cellsOf n)) ∧ Junk w w' := r_Of n h0 h1 w
theorem r_Less' (z : Int) (hz : Fits z) (w : World) :
    Calls Try.prog 96 #[.agg (cellsOf z)] w fun e w' => e = .returned (.agg (cellsOf (-z))) ∧ Junk w w' := r_Less z hz w

theorem div_step (X C : Int) (k : Nat) (b r q : Int) (hC : 0 < C) (hb : X / 2 ^ k % 2 = b) (hq : X / 2 ^ (k + 1) / C = q) (hr : X / 2 ^ (k + 1) % C = r) :
    (2 * r + b < C → X / 2 ^ k / C = 2 * q ∧ X / 2 ^ k % C = 2 * r + b) ∧ (C ≤ 2 * r + b → X / 2 ^ k / C = 2 * q + 1 ∧ X / 2 ^ k % C = 2 * r + b - C) := by
  have e : X / 2 ^ k = 2 * (X / 2 ^ (k + 1)) + b := by
    rw [Int.pow_succ, ← Int.ediv_ediv_of_nonneg (Int.le_of_lt (Int.pow_pos (by decide)))]; omega
  have e2 := Int.ediv_mul_add_emod (X / 2 ^ (k + 1)) C
  have r0 := Int.emod_nonneg (X / 2 ^ (k + 1)) (show C ≠ 0 by omega)
  have r1 := Int.emod_lt_of_pos (X / 2 ^ (k + 1)) hC
  rw [hq, hr] at e2
  rw [hr] at r0 r1
  have e3 : X / 2 ^ k = 2 * r + b + (2 * q) * C := by rw [e, ← e2, Int.mul_assoc]; omega
  have hb2 : 0 ≤ b ∧ b < 2 := by omega
  constructor
  · intro h
    rw [e3, Int.add_mul_ediv_right _ _ (by omega), Int.add_mul_emod_self_right, Int.ediv_eq_zero_of_lt (by omega) h, Int.emod_eq_of_lt (by omega) h]
    omega
  · intro h
    have e4 : 2 * r + b + (2 * q) * C = (2 * r + b - C) + (2 * q + 1) * C := by rw [Int.add_mul]; omega
    rw [e3, e4, Int.add_mul_ediv_right _ _ (by omega), Int.add_mul_emod_self_right, Int.ediv_eq_zero_of_lt (by omega) (by omega), Int.emod_eq_of_lt (by omega) (by omega)]
    omega

theorem bit_of (X : Int) (k : Nat) (x0 : 0 ≤ X) (hk : k < 192) : (digs 12 X).getD (k / 16) 0 / 2 ^ (k % 16) % 2 = X / 2 ^ k % 2 := by
  rw [digs_getD 12 X _ (by omega)]
  have hp : (65536 : Int) ^ (k / 16) = 2 ^ (16 * (k / 16)) := by rw [show (65536 : Int) = 2 ^ 16 by decide, ← Int.pow_mul]
  have e1 : X / 2 ^ k = X / 65536 ^ (k / 16) / 2 ^ (k % 16) := by
    rw [hp, Int.ediv_ediv_of_nonneg (Int.le_of_lt (Int.pow_pos (by decide))), ← Int.pow_add, show 16 * (k / 16) + k % 16 = k by omega]
  rw [e1]
  generalize X / 65536 ^ (k / 16) = y
  have hd : (65536 : Int) = 2 ^ (k % 16) * 2 ^ (15 - k % 16) * 2 := by
    rw [← Int.pow_add, show k % 16 + (15 - k % 16) = 15 by omega]; decide
  have e2 : y % 65536 + 65536 * (y / 65536) = y := by omega
  have hm : y = y % 65536 + (2 ^ (15 - k % 16) * 2 * (y / 65536)) * 2 ^ (k % 16) := by
    have : (2 ^ (15 - k % 16) * 2 * (y / 65536)) * 2 ^ (k % 16) = 65536 * (y / 65536) := by
      rw [hd]; simp only [Int.mul_assoc, Int.mul_comm, Int.mul_left_comm]
    omega
  have p : (0 : Int) < 2 ^ (k % 16) := Int.pow_pos (by decide)
  have e3 : y / 2 ^ (k % 16) = y % 65536 / 2 ^ (k % 16) + 2 ^ (15 - k % 16) * 2 * (y / 65536) := by
    have := Int.add_mul_ediv_right (y % 65536) (2 ^ (15 - k % 16) * 2 * (y / 65536)) (show (2 : Int) ^ (k % 16) ≠ 0 by omega)
    rw [← hm] at this
    exact this
  rw [e3, show (2 : Int) ^ (15 - k % 16) * 2 * (y / 65536) = 2 * (2 ^ (15 - k % 16) * (y / 65536)) by rw [Int.mul_comm (2 ^ (15 - k % 16)) 2, Int.mul_assoc]]
  omega

theorem results_num2 {fn : Func} {p t u : Tmp} (h : fn.results = #[.cell p 114, .tmp t, .tmp u]) (tmps : Array Value) (w : World) (g : Nat) (c : Array Value)
    (hp : tmps.getD p undef = .pointer (some ⟨g, 0, none⟩)) (hr : w.rowAt g = some c) (hc : c.size = 13) : (results fn tmps).run Try.prog w = .ok (.tuple #[.agg c, tmps.getD t undef, tmps.getD u undef]) w := by
  obtain ⟨ty, hg⟩ := rowAt_some hr
  have hp' : tmps[p]?.getD undef = .pointer (some ⟨g, 0, none⟩) := by simpa using hp
  simp [results, h, hp', asAddr, run_loadVar_row w g ty _ c (0, 0) _ hg Try.underlying114 rfl (by rw [hc]; kernel_rfl)]


theorem cells_lit (z : Int) : ∃ b e0 e1 e2 e3 e4 e5 e6 e7 e8 e9 e10 e11, cellsOf z = #[.bool b, .int .i64 e0, .int .i64 e1, .int .i64 e2, .int .i64 e3, .int .i64 e4, .int .i64 e5, .int .i64 e6, .int .i64 e7, .int .i64 e8, .int .i64 e9, .int .i64 e10, .int .i64 e11] := by
  unfold cellsOf
  have hl := digs_len 12 (z.natAbs : Int)
  generalize digs 12 (z.natAbs : Int) = ds at *
  match ds, hl with
  | [e0, e1, e2, e3, e4, e5, e6, e7, e8, e9, e10, e11], _ => exact ⟨_, e0, e1, e2, e3, e4, e5, e6, e7, e8, e9, e10, e11, rfl⟩

def PartsFin (X C : Int) (e : Ending) : Prop := e = .returned (.tuple #[num (X / C), .int .i64 (sgn (2 * (X % C) - C)), .bool (decide (X % C ≠ 0))])

end Go.Proofs.Ytfkhefiilmdhmaa

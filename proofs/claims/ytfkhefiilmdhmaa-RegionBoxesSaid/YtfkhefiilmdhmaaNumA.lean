/- A number of apportionref01 in memory: its cells. Contract of Num.zero and Num.carried. -/
import Derived.Test.YtfkhefiilmdhmaaKitOne
import Derived.Test.YtfkhefiilmdhmaaNumMath
import Derived.Test.YtfkhefiilmdhmaaProg
import Derived.RegionTactic
import Derived.BigRegion
namespace Go.Proofs.Ytfkhefiilmdhmaa
set_option linter.unusedVariables false
set_option linter.unusedSimpArgs false
open Go.RowKit

def numCells (b : Bool) (ds : List Int) : Array Value := (Value.bool b :: ds.map (Value.int .i64)).toArray
def numOf (b : Bool) (ds : List Int) : Value := .agg (numCells b ds)
/-- A whole number, digit by digit. -/
def num (z : Int) : Value := numOf (decide (z < 0)) (digs 12 z.natAbs)

@[go_sem] theorem numCells_size (b : Bool) (ds : List Int) : (numCells b ds).size = ds.length + 1 := by simp [numCells]
@[go_sem] theorem numCells_get (b : Bool) (ds : List Int) (i : Nat) (h : i < ds.length) : (numCells b ds)[1 + i]? = some (.int .i64 (ds.getD i 0)) := by
  rw [Nat.add_comm]; simp [numCells, List.getD_eq_getElem?_getD, h]
@[go_sem] theorem numCells_set (b : Bool) (ds : List Int) (i : Nat) (v : Int) : (numCells b ds).setIfInBounds (1 + i) (.int .i64 v) = numCells b (ds.set i v) := by
  rw [Nat.add_comm]; simp [numCells, List.map_set]

/-- Are all twelve digits nought? -/
def dz (d0 d1 d2 d3 d4 d5 d6 d7 d8 d9 d10 d11 : Int) : Bool := (d0 == 0) && (d1 == 0) && (d2 == 0) && (d3 == 0) && (d4 == 0) && (d5 == 0) && (d6 == 0) && (d7 == 0) && (d8 == 0) && (d9 == 0) && (d10 == 0) && (d11 == 0)

set_option maxHeartbeats 1000000 in
@[go_sem] theorem eq12 (d0 d1 d2 d3 d4 d5 d6 d7 d8 d9 d10 d11 : Int) (w : World) : (Op.equalIn 10000 112 (.agg #[.int .i64 d0, .int .i64 d1, .int .i64 d2, .int .i64 d3, .int .i64 d4, .int .i64 d5, .int .i64 d6, .int .i64 d7, .int .i64 d8, .int .i64 d9, .int .i64 d10, .int .i64 d11]) (.agg #[.int .i64 0, .int .i64 0, .int .i64 0, .int .i64 0, .int .i64 0, .int .i64 0, .int .i64 0, .int .i64 0, .int .i64 0, .int .i64 0, .int .i64 0, .int .i64 0])).run Try.prog w = .ok (dz d0 d1 d2 d3 d4 d5 d6 d7 d8 d9 d10 d11) w := by
  have u3 := Try.underlying3
  have a3 := Try.isAgg3
  have z3 := Try.sizeOf3
  rw [show (10000 : Nat) = 9999 + 1 from rfl, Op.equalIn]
  simp only [Sem.run_bind, run_underlying Try.underlying112, Result.andThen_ok]
  simp only [Std.Legacy.Range.forIn_eq_forIn_range', Std.Legacy.Range.size, Nat.sub_zero, Nat.add_sub_cancel, Nat.div_one, List.range'_succ, List.range'_zero, List.forIn_cons, List.forIn_nil]
  unfold dz
  go_simp
  (repeat' split) <;> simp_all

set_option maxHeartbeats 400000 in
theorem r_zero0 (b : Bool) (d0 d1 d2 d3 d4 d5 d6 d7 d8 d9 d10 d11 : Int) (w : World) :
    Calls Try.prog 109 #[.agg #[.bool b, .int .i64 d0, .int .i64 d1, .int .i64 d2, .int .i64 d3, .int .i64 d4, .int .i64 d5, .int .i64 d6, .int .i64 d7, .int .i64 d8, .int .i64 d9, .int .i64 d10, .int .i64 d11]] w fun e w' => e = .returned (.bool (dz d0 d1 d2 d3 d4 d5 d6 d7 d8 d9 d10 d11)) ∧ Junk w w' := by
  go_enter Try.func109, Try.ntmps109
  go_wp2_with fail
  go_ret
  exact ⟨rfl, junk_of_below (by (repeat' (first | (with_reducible exact Below.refl _ _) | (with_reducible assumption) | (with_reducible refine Below.alloc ?_ ?_ _) | (with_reducible refine Below.drew ?_) | (with_reducible refine below_drewN ?_ _) | (with_reducible refine below_plus ?_ ?_ _ _) | (with_reducible refine Below.setCell ?_ ?_ _) | (with_reducible refine Below.setRow ?_ ?_ _) | go_size)))⟩
/-- A whole number read out of its block; written into it. -/
theorem wpList_num_load {ops : Array Oper} {rest : List Oper} {o : Oper} {a : Act} {w : World} {Q : Exit → Act → World → Prop} (hgd : o.guard = none) (x : Operand) (ho : o.op = .load 114 x)
    (g : Nat) (hx : a.eval x = .pointer (some ⟨g, 0, none⟩)) (ha : (w.rowAt g).any (fun c => c.size == 13) = true)
    (h : ∀ c, w.rowAt g = some c → wpList Try.prog ops Q rest (a.put o.dst (.agg c)) w) : wpList Try.prog ops Q (o :: rest) a w := by
  cases hr : w.rowAt g with
  | none => rw [hr] at ha; simp at ha
  | some c =>
    rw [hr] at ha
    obtain ⟨t, hg⟩ := rowAt_some hr
    exact wpList_load_row hgd _ x ho g hx t c (0, 0) _ hg Try.underlying114 rfl (by rw [show c.size = 13 by simpa using ha]; kernel_rfl) (h c hr)
theorem numCells_one (b : Bool) (ds : List Int) : (numCells b ds).all (·.oneCell') = true := by
  simp [numCells, Value.oneCell']
theorem wpList_num_store {ops : Array Oper} {rest : List Oper} {o : Oper} {a : Act} {w : World} {Q : Exit → Act → World → Prop} (hgd : o.guard = none) (x y : Operand) (ho : o.op = .store 114 x y)
    (g : Nat) (hx : a.eval x = .pointer (some ⟨g, 0, none⟩)) (b : Bool) (ds : List Int) (hy : a.eval y = numOf b ds) (hl : ds.length = 12) (ha : (w.rowAt g).any (fun c => c.size == 13) = true)
    (h : wpList Try.prog ops Q rest (a.put o.dst undef) (w.setRow g (numCells b ds))) : wpList Try.prog ops Q (o :: rest) a w := by
  cases hr : w.rowAt g with
  | none => rw [hr] at ha; simp at ha
  | some c =>
    rw [hr] at ha
    obtain ⟨t, hg⟩ := rowAt_some hr
    exact wpList_plain hgd fun _ hK => wp_store_row _ x y ho g (numCells b ds) hx hy t c hg (by rw [numCells_size, hl]; kernel_rfl) (by rw [numCells_size, hl]; simpa using ha) (numCells_one b ds) (hK _ _ h)
@[go_sem] theorem numCells_sign (b c : Bool) (ds : List Int) : (numCells b ds).setIfInBounds 0 (.bool c) = numCells c ds := by simp [numCells]
@[go_sem] theorem numCells_zero (b : Bool) (ds : List Int) : (numCells b ds)[0]? = some (.bool b) := by simp [numCells]
@[go_sem] theorem numCells_zero' (b : Bool) (ds : List Int) (h : 0 < (numCells b ds).size) : (numCells b ds)[0] = .bool b := rfl
attribute [go_sem] digs_len

/-- Is every digit nought? -/
def allZero (ds : List Int) : Bool := ds.all (· == 0)

set_option maxHeartbeats 400000 in
theorem r_zero (b : Bool) (ds : List Int) (hl : ds.length = 12) (w : World) :
    Calls Try.prog 109 #[numOf b ds] w fun e w' => e = .returned (.bool (allZero ds)) ∧ Junk w w' := by
  match ds, hl with
  | [d0, d1, d2, d3, d4, d5, d6, d7, d8, d9, d10, d11], _ =>
    refine (r_zero0 b d0 d1 d2 d3 d4 d5 d6 d7 d8 d9 d10 d11 w).mono ?_
    rintro e w' ⟨rfl, h⟩
    exact ⟨retb (by simp [dz, allZero, Bool.and_assoc]), h⟩

end Go.Proofs.Ytfkhefiilmdhmaa

/- Contract of period's monthsOf: a map literal read with two values. -/
import Derived.Test.YtlbbampmonkleaaDoorCivF
import Derived.Test.YtlbbampmonkleaaDoorByt
import Derived.MapKept
import Derived.Carry
namespace Go.Proofs.YtlbbampmonkleaaDoor
set_option linter.unusedVariables false
set_option linter.unusedSimpArgs false
open Go.RowKit

/-- The months of a kind; 0: there is none. -/
def mon (k : Int) : Int := if k = 1 then 1 else if k = 2 then 3 else if k = 3 then 6 else if k = 4 then 12 else 0

theorem map_put (w : World) (es : Array MapEntry) (clock : Nat) (k v : Int) (hf : Instr.findNow (.int .i64) (.int .i64 k) es.toList 0 = some none) :
    (Instr.mapUpdate 61 (.map (some w.heap.size)) (.int .i64 k) (.int .i64 v)).run Tryd.prog (w.alloc (.map es clock)) = .ok () (w.alloc (.map (es.push { key := .int .i64 k, val := .int .i64 v, born := clock }) (clock + 1))) := by
  have hc : (Instr.checkKey false 10000 3 (.int .i64 k)).run Tryd.prog (w.alloc (.map es clock)) = .ok () (w.alloc (.map es clock)) := MapKept.run_checkKey (k := .int .i64 k) Tryd.underlying3 (by simp [MapKept.IsKey]) false 9999
  have hb : (w.alloc (.map es clock)).heap[w.heap.size]? = some (.map es clock) := (MapKept.heap_alloc w _).1
  simp [Instr.mapUpdate, run_underlying Tryd.underlying61, MapKept.run_getObj_map hb, hc, MapKept.run_findKey Tryd.underlying3 hf, MapKept.run_setObj_map _ hb, Result.andThen]
  simp [-World.alloc_eq, World.alloc]
  rw [← Array.toList_inj]; simp [List.set_append]

theorem map_get (w : World) (es : Array MapEntry) (clock : Nat) (k v : Int) (i : Nat) (hf : Instr.findNow (.int .i64) (.int .i64 k) es.toList 0 = some (some (i, .int .i64 v))) :
    (Instr.lookup 61 (.map (some w.heap.size)) (.int .i64 k) true).run Tryd.prog (w.alloc (.map es clock)) = .ok (.tuple #[.int .i64 v, .bool true]) (w.alloc (.map es clock)) := by
  have hc : ∀ b, (Instr.checkKey b 10000 3 (.int .i64 k)).run Tryd.prog (w.alloc (.map es clock)) = .ok () (w.alloc (.map es clock)) := fun b => MapKept.run_checkKey (k := .int .i64 k) Tryd.underlying3 (by simp [MapKept.IsKey]) b 9999
  have hb : (w.alloc (.map es clock)).heap[w.heap.size]? = some (.map es clock) := (MapKept.heap_alloc w _).1
  simp [Instr.lookup, run_underlying Tryd.underlying61, MapKept.run_getObj_map hb, hc, MapKept.run_findKey Tryd.underlying3 hf, Result.andThen]

theorem map_none (w : World) (es : Array MapEntry) (clock : Nat) (k : Int) (hf : Instr.findNow (.int .i64) (.int .i64 k) es.toList 0 = some none) :
    (Instr.lookup 61 (.map (some w.heap.size)) (.int .i64 k) true).run Tryd.prog (w.alloc (.map es clock)) = .ok (.tuple #[.int .i64 0, .bool false]) (w.alloc (.map es clock)) := by
  have hc : ∀ b, (Instr.checkKey b 10000 3 (.int .i64 k)).run Tryd.prog (w.alloc (.map es clock)) = .ok () (w.alloc (.map es clock)) := fun b => MapKept.run_checkKey (k := .int .i64 k) Tryd.underlying3 (by simp [MapKept.IsKey]) b 9999
  have hb : (w.alloc (.map es clock)).heap[w.heap.size]? = some (.map es clock) := (MapKept.heap_alloc w _).1
  have hz : (zeroValue 3).run Tryd.prog (w.alloc (.map es clock)) = .ok (.int .i64 0) (w.alloc (.map es clock)) := by kernel_rfl
  simp [Instr.lookup, run_underlying Tryd.underlying61, MapKept.run_getObj_map hb, hc, MapKept.run_findKey Tryd.underlying3 hf, Result.andThen, hz]

def ent (k v : Int) (b : Nat) : MapEntry := { key := .int .i64 k, val := .int .i64 v, born := b }
def kinds : Array MapEntry := #[ent 1 1 0, ent 2 3 1, ent 3 6 2, ent 4 12 3]

theorem n_monthsOf (k : Int) (w : World) : Calls Tryd.prog 23 #[.int .i64 k] w fun e w' => e = .returned (.tuple #[.int .i64 (mon k), .bool (decide (1 ≤ k ∧ k ≤ 4))]) ∧ Junk w w' := by
  have h0 := @run_makeMap Tryd.prog
  have h1 : ∀ w : World, (Instr.mapUpdate 61 (.map (some w.heap.size)) (.int .i64 1) (.int .i64 1)).run Tryd.prog (w.alloc (.map #[] 0)) = .ok () (w.alloc (.map #[ent 1 1 0] 1)) := fun w => map_put w _ _ 1 1 rfl
  have h2 : ∀ w : World, (Instr.mapUpdate 61 (.map (some w.heap.size)) (.int .i64 2) (.int .i64 3)).run Tryd.prog (w.alloc (.map #[ent 1 1 0] 1)) = .ok () (w.alloc (.map #[ent 1 1 0, ent 2 3 1] 2)) := fun w => map_put w _ _ 2 3 rfl
  have h3 : ∀ w : World, (Instr.mapUpdate 61 (.map (some w.heap.size)) (.int .i64 3) (.int .i64 6)).run Tryd.prog (w.alloc (.map #[ent 1 1 0, ent 2 3 1] 2)) = .ok () (w.alloc (.map #[ent 1 1 0, ent 2 3 1, ent 3 6 2] 3)) := fun w => map_put w _ _ 3 6 rfl
  have h4 : ∀ w : World, (Instr.mapUpdate 61 (.map (some w.heap.size)) (.int .i64 4) (.int .i64 12)).run Tryd.prog (w.alloc (.map #[ent 1 1 0, ent 2 3 1, ent 3 6 2] 3)) = .ok () (w.alloc (.map kinds 4)) := fun w => map_put w _ _ 4 12 rfl
  obtain ⟨m, hm⟩ : ∃ m, m = mon k := ⟨_, rfl⟩
  obtain ⟨t, ht⟩ : ∃ t, t = decide (1 ≤ k ∧ k ≤ 4) := ⟨_, rfl⟩
  have h5 : ∀ w : World, (Instr.lookup 61 (.map (some w.heap.size)) (.int .i64 k) true).run Tryd.prog (w.alloc (.map kinds 4)) = .ok (.tuple #[.int .i64 m, .bool t]) (w.alloc (.map kinds 4)) := by
    intro w
    by_cases c1 : k = 1
    · rw [hm, ht, c1]; exact map_get w _ _ 1 1 0 rfl
    by_cases c2 : k = 2
    · rw [hm, ht, c2]; exact map_get w _ _ 2 3 1 rfl
    by_cases c3 : k = 3
    · rw [hm, ht, c3]; exact map_get w _ _ 3 6 2 rfl
    by_cases c4 : k = 4
    · rw [hm, ht, c4]; exact map_get w _ _ 4 12 3 rfl
    rw [hm, ht, decide_eq_false (by omega)]
    unfold mon
    rw [if_neg c1, if_neg c2, if_neg c3, if_neg c4]
    refine map_none w _ _ k ?_
    have d1 : (k == 1) = false := beq_eq_false_iff_ne.2 c1
    have d2 : (k == 2) = false := beq_eq_false_iff_ne.2 c2
    have d3 : (k == 3) = false := beq_eq_false_iff_ne.2 c3
    have d4 : (k == 4) = false := beq_eq_false_iff_ne.2 c4
    show Instr.findNow (.int .i64) (.int .i64 k) [ent 1 1 0, ent 2 3 1, ent 3 6 2, ent 4 12 3] 0 = some none
    simp only [ent, Instr.findNow, Instr.sameNow, d1, d2, d3, d4, if_true]
  rw [← hm, ← ht]
  clear hm ht
  go_enter Tryd.func23, Tryd.ntmps23
  go_wp2
  go_ret2
  exact ⟨rfl, junk_of_below (by (repeat' (first | (with_reducible exact Below.refl _ _) | (with_reducible assumption) | (with_reducible refine Below.alloc ?_ ?_ _) | (with_reducible refine Below.drew ?_) | (with_reducible refine below_drewN ?_ _) | (with_reducible refine below_plus ?_ ?_ _ _) | (with_reducible refine Below.setCell ?_ ?_ _) | (with_reducible refine Below.setRow ?_ ?_ _) | go_size)))⟩
end Go.Proofs.YtlbbampmonkleaaDoor

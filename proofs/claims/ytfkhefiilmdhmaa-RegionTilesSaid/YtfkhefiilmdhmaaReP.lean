/- An append to a full literal of two points, in a statement that draws its order: new memory alone. -/
import Derived.Test.YtfkhefiilmdhmaaReOne
import Derived.ArgAppend
namespace Go.Proofs.Ytfkhefiilmdhmaa
set_option linter.unusedVariables false
set_option linter.unusedSimpArgs false
open Go.RowKit

theorem run_pfull (w : World) (ty : TypeId) (g : Nat) (x0 y0 x1 y1 : Int) (h0 : w.cell? ⟨g, 0, none⟩ = some (.int .i64 x0)) (h1 : w.cell? ⟨g, 1, none⟩ = some (.int .i64 y0)) (h2 : w.cell? ⟨g, 2, none⟩ = some (.int .i64 x1)) (h3 : w.cell? ⟨g, 3, none⟩ = some (.int .i64 y1))
    (ad : Addr) (len cap : Nat) (M : List Pt) (hr : PReads w (some ad) len M) (hp : 0 < len) (hm : len ≤ 1000) :
    ∃ J d c, (Builtin.append_ #[28, 28] ty #[.slice (some ⟨g, 0, none⟩) 2 2, .slice (some ad) len cap]).run Try.prog w = .ok (.slice (some ⟨w.heap.size, 0, none⟩) (2 + len) c) (w.plus J d) ∧ PRC (w.plus J d) (some ⟨w.heap.size, 0, none⟩) (2 + len) c ([(x0, y0), (x1, y1)] ++ M) := by
  obtain ⟨i0, hi0, hz0, hz1, hz2⟩ := info_pt
  have hlo : (pcells [(x0, y0), (x1, y1)]).length = 2 * i0.size := by rw [hz1]; rfl
  have hln : (pcells M).length = len * i0.size := by rw [pcells_len, hr.1, hz1]
  have hge := grownCap_ge w (2 + len) 2 27
  have hcm : grownCap w (2 + len) 2 27 ≤ maxLen := grownCap_le_maxLen w (2 + len) 2 27 (by simp only [maxLen]; omega)
  have hrun := run_append_grow (P := Try.prog) w 28 ty 27 i0 _ Try.underlying28 hi0 hz0 ⟨g, 0, none⟩ 2 2 (pcells [(x0, y0), (x1, y1)]) hlo (fun j v hj => by
      match j, hj with
      | 0, hj => simp [pcells] at hj; subst hj; exact h0
      | 1, hj => simp [pcells] at hj; subst hj; exact h1
      | 2, hj => simp [pcells] at hj; subst hj; exact h2
      | 3, hj => simp [pcells] at hj; subst hj; exact h3) ad len cap (pcells M) hln hr.cells (by omega) (by omega) (growslice_fits (by omega) (by rw [hz2]; omega))
  have hlen : (pcells [(x0, y0), (x1, y1)] ++ pcells M).length = (2 + len) * 2 := by rw [List.length_append, pcells_len, pcells_len, hr.1]; simp; omega
  have hown : World.ownsRow (w.drew.alloc (.cells ((pcells [(x0, y0), (x1, y1)]).toArray ++ (pcells M).toArray ++ Builtin.zeroCells (Value.cells (.agg #[.int .i64 0, .int .i64 0])) (grownCap w (2 + len) 2 27 - (2 + len))) 27)) w.heap.size 27 2 (.slice (some ⟨w.heap.size, 0, none⟩) (2 + len) (grownCap w (2 + len) 2 27)) (2 + len) (pcells [(x0, y0), (x1, y1)] ++ pcells M) := by
    refine ⟨hlen, .inr ⟨w.heap.size, _, _, rfl, Nat.le_refl _, World.alloc_heap_new w.drew _, hge, hcm, ?_, ?_⟩⟩
    rotate_left
    · simp only [Array.toList_append, List.append_assoc]
      rw [← List.append_assoc, ← hlen]
      exact List.take_left
    · simp only [Array.size_append, List.size_toArray, size_zeroCells, pcells_len, hr.1]
      show ([(x0, y0), (x1, y1)] : List Pt).length * 2 + len * 2 + (grownCap w (2 + len) 2 27 - (2 + len)) * 2 = _
      simp only [List.length_cons, List.length_nil]
      omega
  obtain ⟨J, d, e⟩ : Junk w (w.drew.alloc (.cells ((pcells [(x0, y0), (x1, y1)]).toArray ++ (pcells M).toArray ++ Builtin.zeroCells (Value.cells (.agg #[.int .i64 0, .int .i64 0])) (grownCap w (2 + len) 2 27 - (2 + len))) 27)) := junk_of_below (by (repeat' (first | (with_reducible exact Below.refl _ _) | (with_reducible assumption) | (with_reducible refine Below.alloc ?_ ?_ _) | (with_reducible refine Below.drew ?_) | (with_reducible refine below_drewN ?_ _) | (with_reducible refine below_plus ?_ ?_ _ _) | (with_reducible refine Below.setCell ?_ ?_ _) | (with_reducible refine Below.setRow ?_ ?_ _) | go_size)))
  rw [e] at hrun hown
  refine ⟨J, d, _, hrun, ?_⟩
  rw [← pcells_app] at hown
  obtain ⟨a', c', e', hp⟩ := prc_owns hown
  cases e'
  exact hp
theorem step_pfull {ops : Array Oper} {o : Oper} {a : Act} {w : World} {K : Act → World → Prop} {Q : Exit → Act → World → Prop} {E : Prop} (hgd : o.guard = none) (s x : Operand)
    (ho : o.op = .call { callee := .builtin .append, args := #[s, x], argTypes := #[28, 28] }) (g : Nat) (x0 y0 x1 y1 : Int) (hs : a.eval s = .slice (some ⟨g, 0, none⟩) 2 2)
    (h0 : w.cell? ⟨g, 0, none⟩ = some (.int .i64 x0)) (h1 : w.cell? ⟨g, 1, none⟩ = some (.int .i64 y0)) (h2 : w.cell? ⟨g, 2, none⟩ = some (.int .i64 x1)) (h3 : w.cell? ⟨g, 3, none⟩ = some (.int .i64 y1))
    (ad : Addr) (len cap : Nat) (M : List Pt) (hx : a.eval x = .slice (some ad) len cap) (hr : PReads w (some ad) len M) (hp : 0 < len) (hm : len ≤ 1000)
    (h : ∀ J d c, PRC (w.plus J d) (some ⟨w.heap.size, 0, none⟩) (2 + len) c ([(x0, y0), (x1, y1)] ++ M) → K (a.put o.dst (.slice (some ⟨w.heap.size, 0, none⟩) (2 + len) c)) (w.plus J d)) :
    if Region.wanted o (yielded ops a.tmps) = true then Oper.wp Try.prog o a w K Q else E := by
  have hw : Region.wanted o (yielded ops a.tmps) = true := by simp [Region.wanted, hgd]
  rw [if_pos hw]
  obtain ⟨J, d, c, hrun, hp⟩ := run_pfull w o.type g x0 y0 x1 y1 h0 h1 h2 h3 ad len cap M hr hp hm
  unfold Oper.wp
  simp [execOp, ho, resolve, invoke, builtin, hs, hx, hrun, Result.andThen]
  exact h J d c hp
end Go.Proofs.Ytfkhefiilmdhmaa

/- An array of four numbers that comes in as an argument. -/
import Derived.Test.YtmofejcafbjlnaaPtArg
import Derived.Laws.IdiomArrays
namespace Go.Proofs.Ytmofejcafbjlnaa
set_option linter.unusedVariables false
set_option linter.unusedSimpArgs false
open Go.RowKit Go.ChangeShapes Go.WideShapes Go.ChangeAt Go.Joins

set_option maxRecDepth 100000 in
theorem four_cells : Try.prog.cellsOf 43 = 4 := by kernel_rfl
set_option maxRecDepth 100000 in
theorem okWide_four {w : World} {r : Reach} {b0 : Nat} {v : Value} (hv : Value.okWide Try.prog w r b0 43 v) : ∃ cs, v = .agg cs ∧ cs.size = Try.prog.cellsOf 43 := by
  unfold Value.okWide at hv
  rw [Try.underlying43] at hv
  cases v <;> simp_all
set_option maxRecDepth 100000 in
theorem open_four {H : Type} {enc : TypeId × Value → H} {w : World} {base : Nat} {spare : Nat → Bool} {held : Bool} {r : Reach} {b0 : Nat} {v : Value} {d : DataW H} {p : List MemPlace} (hv : Value.okWide Try.prog w r b0 43 v) (h : DataW.Trod enc Try.prog w base spare held 43 v d p) :
    ∃ a b c e, v = .agg #[.int .i64 a, .int .i64 b, .int .i64 c, .int .i64 e] ∧ (-9223372036854775808 ≤ a ∧ a ≤ 9223372036854775807) ∧ (-9223372036854775808 ≤ b ∧ b ≤ 9223372036854775807) ∧ (-9223372036854775808 ≤ c ∧ c ≤ 9223372036854775807) ∧ (-9223372036854775808 ≤ e ∧ e ≤ 9223372036854775807) := by
  obtain ⟨cs, rfl, hsz⟩ := okWide_four hv
  obtain ⟨c0, c1, c2, c3, rfl⟩ := array4 (hsz.trans four_cells)
  obtain ⟨fuel, hf⟩ := h
  obtain ⟨y0, y1, y2, y3, n, _, g0, g1, g2, g3⟩ := trod_array4 Try.underlying43 in_cells (by simpa [Value.cells] using hf)
  obtain ⟨a, e0, _, f0⟩ := DataW.trod_int Try.underlying3 g0
  obtain ⟨b, e1, _, f1⟩ := DataW.trod_int Try.underlying3 g1
  obtain ⟨c, e2, _, f2⟩ := DataW.trod_int Try.underlying3 g2
  obtain ⟨e, e3, _, f3⟩ := DataW.trod_int Try.underlying3 g3
  injection e0 with e0
  injection e1 with e1
  injection e2 with e2
  injection e3 with e3
  subst e0 e1 e2 e3
  exact ⟨a, b, c, e, rfl, bounds_i64 f0, bounds_i64 f1, bounds_i64 f2, bounds_i64 f3⟩
end Go.Proofs.Ytmofejcafbjlnaa

/- Contracts of apportionref05's PutText and PutList. -/
import Derived.Test.YtfapldajodobhaaOctA
import Derived.Test.YtfapldajodobhaaLists
namespace Go.Proofs.Ytfapldajodobhaa
set_option linter.unusedVariables false
set_option linter.unusedSimpArgs false
open Go.RowKit

theorem strCells_b (L : List UInt8) : Lib.strCells (⟨L.toArray⟩ : ByteArray) = bcells L := by
  unfold Lib.strCells bcells
  simp

/-- 'append(row, s...)', the row the call's own, s a text. -/
theorem wpList_sapp {ops : Array Oper} {rest : List Oper} {o : Oper} {a : Act} {w : World} {Q : Exit → Act → World → Prop} (hgd : o.guard = none) (s x : Operand)
    (ho : o.op = .call { callee := .builtin .append, args := #[s, x], argTypes := #[22, 9] }) (base : Nat) (v : Value) (xs : List UInt8) (hs : a.eval s = v) (hown : BOwns w base v xs)
    (ys : List UInt8) (hx : a.eval x = .string ⟨ys.toArray⟩) (hm : xs.length + ys.length ≤ 17592186044416) (hb : base ≤ w.heap.size)
    (h : ∀ v' w', BOwns w' base v' (xs ++ ys) → w.grownBy w' v.ownBlock → wpList Try.prog ops Q rest (a.put o.dst v') w') : wpList Try.prog ops Q (o :: rest) a w := by
  obtain ⟨i0, hi0, hz0, hz1, hz2⟩ := info_u8
  have hsz : (⟨ys.toArray⟩ : ByteArray).size = ys.length := by simp [ByteArray.size]
  refine Lib.wpList_append_own_string w hgd s x _ _ ho base 5 i0 Try.underlying22 Try.underlying9 hi0 hz0 hz1 hz2 _ xs.length (bcells xs) hs hown _ hx
    (by rw [hsz]; simp only [maxLen]; omega) (by rw [hsz]; omega) hb ?_
  intro v' w' hown' hg _
  rw [hsz, strCells_b, bcells_app] at hown'
  refine h _ _ ?_ hg
  unfold BOwns
  rw [List.length_append]
  exact hown'

/-- PutList's loop. -/
def ListAt (w : World) (zs : List Int) (o i : Value) (wr : World) : Prop := ∃ (k : Nat) (D : List UInt8), i = .int .i64 (k : Int) ∧ k ≤ zs.length ∧ BOwns wr w.heap.size o D ∧ D = encN (zs.length : Int) ++ (zs.take k).flatMap encN ∧ D.length ≤ 10 + 10 * k ∧ Junk w wr

end Go.Proofs.Ytfapldajodobhaa

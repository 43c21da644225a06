/- Rows of bytes all of whose cells are bytes: append of a text; octet's Put, PutText, PutList tell such rows. -/
import Derived.Test.YtfapldajodobhaaOcwA
namespace Go.Proofs.Ytfapldajodobhaa
set_option linter.unusedVariables false
set_option linter.unusedSimpArgs false
open Go.RowKit

theorem strCells_byte (s : ByteArray) : ∀ u ∈ Lib.strCells s, IsByte u := by
  intro u hu
  simp only [Lib.strCells, List.mem_map] at hu
  obtain ⟨b, _, rfl⟩ := hu
  exact ⟨b.toNat, UInt8.toNat_lt _, rfl⟩

theorem full_append_text {w : World} (base : Nat) (v : Value) (xs : List UInt8) (hown : BOwns w base v xs) (hall : AllBytes w v) (s : ByteArray) (hm : xs.length + s.size ≤ 17592186044416) (ty : TypeId)
    (v' : Value) (w' : World) (hrun : (Builtin.append_ #[22, 9] ty #[v, .string s]).run Try.prog w = .ok v' w') : AllBytes w' v' := by
  obtain ⟨i0, hi0, hz0, hz1, hz2⟩ := info_u8
  obtain ⟨hl, hown⟩ := hown
  rcases hown with ⟨rfl, h0⟩ | ⟨g, cap, cur, rfl, hbg, hg, hnc, hcm, hcs, htake⟩
  · by_cases hz : s.size = 0
    · have hn : Lib.strCells s = [] := List.eq_nil_of_length_eq_zero (by rw [Lib.strCells_length]; exact hz)
      have hf := Lib.run_firstCells_string (P := Try.prog) w 1 s
      rw [hz, hn] at hf
      have : (Builtin.append_ #[22, 9] ty #[.slice none 0 0, .string s]).run Try.prog w = .ok (.slice none 0 0) w := by
        simp [Builtin.append_, run_underlying Try.underlying22, run_underlying Try.underlying9, sizeOf, typeInfo, hi0, hz1, Builtin.lenOf, hz, hf]
      rw [this] at hrun
      injection hrun with e1 e2
      subst e1; subst e2
      exact allbytes_nil _
    · have := run_append_nil_string (P := Try.prog) w 22 9 ty 5 i0 (.int .u8 0) Try.underlying22 Try.underlying9 hi0 hz0 s (by omega) (by omega) (by rw [hz2]; omega)
      rw [this] at hrun
      injection hrun with e1 e2
      subst e1; subst e2
      refine allbytes_new w.drew _ _ _ ?_
      intro u hu
      rw [Array.toList_append] at hu
      rcases List.mem_append.1 hu with h | h
      · simp at h
        obtain ⟨b, _, rfl⟩ := h
        exact ⟨b.toNat, UInt8.toNat_lt _, rfl⟩
      · exact zeros_byte _ u h
  · obtain ⟨cur2, hg2, hu2⟩ := hall g _ cap rfl
    obtain rfl : cur = cur2 := by rw [hg] at hg2; injection hg2 with h; injection h
    by_cases hroom : xs.length + s.size ≤ cap
    · have := Lib.run_append_room_string (P := Try.prog) w 22 9 ty 5 i0 Try.underlying22 Try.underlying9 hi0 hz1 g xs.length cap cur hg s hroom (by rw [hcs]; omega)
      rw [this] at hrun
      injection hrun with e1 e2
      subst e1; subst e2
      intro g' n' cap' hv
      injection hv with h1 _ _
      injection h1 with h1
      injection h1 with h1 _ _
      subst h1
      refine ⟨_, setRow_heap w g cur _ 5 _ hg, ?_⟩
      intro u hu
      simp only [List.mem_append] at hu
      rcases hu with (h | h) | h
      · exact hu2 u (List.mem_of_mem_take h)
      · exact strCells_byte s u h
      · exact hu2 u (List.mem_of_mem_drop h)
    · have hold : ∀ j u, (bcells xs)[j]? = some u → w.cell? ((⟨g, 0, none⟩ : Addr).add j) = some u :=
        World.ownsRow.cells (w := w) (base := base) (e := 5) (size := 1) (v := .slice (some ⟨g, 0, none⟩) xs.length cap) ⟨hl, .inr ⟨g, cap, cur, rfl, hbg, hg, hnc, hcm, hcs, htake⟩⟩ (g := g) rfl
      have := Lib.run_append_grow_string (P := Try.prog) w 22 9 ty 5 i0 (.int .u8 0) Try.underlying22 Try.underlying9 hi0 hz0 ⟨g, 0, none⟩ xs.length cap (bcells xs) (by rw [bcells_len, hz1, Nat.mul_one]) hold s (by omega) (by omega) (by rw [hz2]; exact growslice_fits (by omega) (by omega))
      rw [this] at hrun
      injection hrun with e1 e2
      subst e1; subst e2
      refine allbytes_new w.drew _ _ _ ?_
      intro u hu
      rw [Array.toList_append, Array.toList_append] at hu
      rcases List.mem_append.1 hu with h | h
      · rcases List.mem_append.1 h with h | h
        · exact bcells_byte xs u (by simpa using h)
        · exact strCells_byte s u (by simpa using h)
      · exact zeros_byte _ u h

theorem wpList_fsapp {ops : Array Oper} {rest : List Oper} {o : Oper} {a : Act} {w : World} {Q : Exit → Act → World → Prop} (hgd : o.guard = none) (sl x : Operand)
    (ho : o.op = .call { callee := .builtin .append, args := #[sl, x], argTypes := #[22, 9] }) (base : Nat) (v : Value) (xs : List UInt8) (hs : a.eval sl = v) (hown : BOwns w base v xs) (hall : AllBytes w v)
    (ys : List UInt8) (hx : a.eval x = .string ⟨ys.toArray⟩) (hm : xs.length + ys.length ≤ 17592186044416) (hb : base ≤ w.heap.size)
    (h : ∀ v' w', BOwns w' base v' (xs ++ ys) → AllBytes w' v' → w.grownBy w' v.ownBlock → wpList Try.prog ops Q rest (a.put o.dst v') w') : wpList Try.prog ops Q (o :: rest) a w := by
  obtain ⟨i0, hi0, hz0, hz1, hz2⟩ := info_u8
  have hsz : (⟨ys.toArray⟩ : ByteArray).size = ys.length := by simp [ByteArray.size]
  refine wpList_plain hgd fun K hK => ?_
  obtain ⟨v', w', hrun, h2, h3, h4⟩ := Lib.run_append_own_string (P := Try.prog) w base 22 9 o.type 5 i0 Try.underlying22 Try.underlying9 hi0 hz0 hz1 hz2 v xs.length (bcells xs) hown ⟨ys.toArray⟩ (by rw [hsz]; simp only [maxLen]; omega) (by rw [hsz]; omega) hb
  have hfull := full_append_text base v xs hown hall ⟨ys.toArray⟩ (by rw [hsz]; exact hm) o.type v' w' hrun
  unfold Oper.wp execOp
  simp only [ho, resolve, invoke, builtin, Sem.run_bind, Sem.run_pure, Result.andThen_ok, List.map_toArray, List.map_cons, List.map_nil, hs, hx, hrun]
  refine hK _ _ (h v' w' ?_ hfull h3)
  rw [hsz, strCells_b, bcells_app] at h2
  unfold BOwns
  rw [List.length_append]
  exact h2

/-- A call tells bytes in memory of its own, all of its cells bytes. -/
def FRes (w : World) (L : List UInt8) (e : Ending) (w' : World) : Prop := ∃ v, e = .returned v ∧ BOwns w' w.heap.size v L ∧ AllBytes w' v ∧ Junk w w'
def FAppRes (w : World) (base : Nat) (D : List UInt8) (e : Ending) (w' : World) : Prop := ∃ v, e = .returned v ∧ BOwns w' base v D ∧ AllBytes w' v ∧ Below base w w'
def FAppAt (w : World) (base : Nat) (E : List UInt8) (X : Nat) (o x : Value) (wr : World) : Prop := ∃ (D : List UInt8) (r : Nat), x = .int .u64 (r : Int) ∧ BOwns wr base o D ∧ AllBytes wr o ∧ D ++ encR r = E ∧ r ≤ X ∧ Below base w wr ∧ base ≤ wr.heap.size

/-- PutList's loop. -/
def FPListAt (w : World) (zs : List Int) (o i : Value) (wr : World) : Prop := ∃ (k : Nat) (D : List UInt8), i = .int .i64 (k : Int) ∧ k ≤ zs.length ∧ BOwns wr w.heap.size o D ∧ AllBytes wr o ∧ D = encN (zs.length : Int) ++ (zs.take k).flatMap encN ∧ D.length ≤ 10 + 10 * k ∧ Below w.heap.size w wr ∧ w.heap.size ≤ wr.heap.size

end Go.Proofs.Ytfapldajodobhaa

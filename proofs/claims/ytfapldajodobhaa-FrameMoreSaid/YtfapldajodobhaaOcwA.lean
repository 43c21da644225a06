/- Rows of bytes all of whose cells, those behind the length too, are bytes: append onto them. -/
import Derived.Test.YtfapldajodobhaaOcuB
namespace Go.Proofs.Ytfapldajodobhaa
set_option linter.unusedVariables false
set_option linter.unusedSimpArgs false
open Go.RowKit

/-- All cells of the row of v are bytes. -/
def IsByte (u : Value) : Prop := ∃ z : Nat, z < 256 ∧ u = .int .u8 (z : Int)
def AllBytes (w : World) (v : Value) : Prop := ∀ g n cap, v = .slice (some ⟨g, 0, none⟩) n cap → ∃ cur, w.heap[g]? = some (.cells cur 5 (0, 0)) ∧ ∀ u ∈ cur.toList, IsByte u
theorem AllBytes.below {w w' : World} {v : Value} (h : AllBytes w v) (hb : Below w.heap.size w w') : AllBytes w' v := by
  intro g n cap hv
  obtain ⟨cur, hc, hu⟩ := h g n cap hv
  have hg : g < w.heap.size := by
    by_cases hs : g < w.heap.size
    · exact hs
    · rw [Array.getElem?_eq_none (Nat.le_of_not_lt hs)] at hc; cases hc
  exact ⟨cur, by rw [hb.block g hg]; exact hc, hu⟩
theorem allbytes_nil (w : World) : AllBytes w (.slice none 0 0) := fun g n cap h => by cases h
theorem bcells_byte (L : List UInt8) : ∀ u ∈ bcells L, IsByte u := by
  intro u hu
  obtain ⟨z, _, rfl⟩ := List.mem_map.1 hu
  exact ⟨z.toNat, UInt8.toNat_lt _, rfl⟩
theorem zeros_byte (k : Nat) : ∀ u ∈ (Builtin.zeroCells (Value.int .u8 0).cells k).toList, IsByte u := by
  intro u hu
  have : u = .int .u8 0 := by
    simp [Builtin.zeroCells, Value.cells] at hu
    obtain ⟨i, _, rfl⟩ := hu
    simp [Nat.mod_one]
  exact ⟨0, by omega, this⟩
theorem allbytes_new (w : World) (c : Array Value) (n cap : Nat) (h : ∀ u ∈ c.toList, IsByte u) : AllBytes (w.alloc (.cells c 5)) (.slice (some ⟨w.heap.size, 0, none⟩) n cap) := by
  intro g n' cap' hv
  injection hv with h1 _ _
  injection h1 with h1
  injection h1 with h1 _ _
  subst h1
  exact ⟨c, by show (w.heap.push _)[w.heap.size]? = _; simp, h⟩

section
variable {w : World}

/-- What append makes of such a row is such a row. -/
theorem full_append (base : Nat) (v : Value) (xs : List UInt8) (hown : BOwns w base v xs) (hall : AllBytes w v)
    (ad : Addr) (len c : Nat) (ys : List UInt8) (hr : BReads w (some ad) len ys) (hm : xs.length + len ≤ 17592186044416) (ty : TypeId)
    (v' : Value) (w' : World) (hrun : (Builtin.append_ #[22, 22] ty #[v, .slice (some ad) len c]).run Try.prog w = .ok v' w') : AllBytes w' v' := by
  obtain ⟨i0, hi0, hz0, hz1, hz2⟩ := info_u8
  obtain ⟨hl, hown⟩ := hown
  have hyl := hr.1
  have hcl : (bcells ys).length = len * i0.size := by rw [bcells_len, hz1, hyl, Nat.mul_one]
  rcases hown with ⟨rfl, h0⟩ | ⟨g, cap, cur, rfl, hbg, hg, hnc, hcm, hcs, htake⟩
  · by_cases hz : len = 0
    · subst hz
      have hn : bcells ys = [] := List.eq_nil_of_length_eq_zero (by rw [bcells_len]; exact hyl)
      have : (Builtin.append_ #[22, 22] ty #[.slice none 0 0, .slice (some ad) 0 c]).run Try.prog w = .ok (.slice none 0 0) w := by
        simp [Builtin.append_, run_underlying Try.underlying22, sizeOf, typeInfo, hi0, Builtin.lenOf, Builtin.firstCells, loadCells, loadCellsFrom]
      rw [this] at hrun
      injection hrun with e1 e2
      subst e1; subst e2
      exact allbytes_nil _
    · have := run_append_nil (P := Try.prog) w 22 ty 5 i0 (.int .u8 0) Try.underlying22 hi0 hz0 ad len c (bcells ys) hcl hr.cells (by omega) (by omega) (by rw [hz2]; omega)
      rw [this] at hrun
      injection hrun with e1 e2
      subst e1; subst e2
      refine allbytes_new w.drew _ _ _ ?_
      intro u hu
      rw [Array.toList_append] at hu
      rcases List.mem_append.1 hu with h | h
      · exact bcells_byte ys u (by simpa using h)
      · exact zeros_byte _ u h
  · obtain ⟨cur2, hg2, hu2⟩ := hall g _ cap rfl
    obtain rfl : cur = cur2 := by rw [hg] at hg2; injection hg2 with h; injection h
    by_cases hroom : xs.length + len ≤ cap
    · have := run_append_room (P := Try.prog) w 22 ty 5 i0 Try.underlying22 hi0 g xs.length cap cur hg ad len c (bcells ys) hcl hr.cells (bcells_one ys) hroom (by rw [hz1, bcells_len, hyl, hcs]; omega)
      rw [this] at hrun
      injection hrun with e1 e2
      subst e1; subst e2
      intro g' n' cap' hv
      injection hv with h1 _ _
      injection h1 with h1
      injection h1 with h1 _ _
      subst h1
      refine ⟨_, setRow_heap w g cur _ 5 _ hg, ?_⟩
      intro u hu
      simp only [List.mem_append] at hu
      rcases hu with (h | h) | h
      · exact hu2 u (List.mem_of_mem_take h)
      · exact bcells_byte ys u h
      · exact hu2 u (List.mem_of_mem_drop h)
    · have hold : ∀ j u, (bcells xs)[j]? = some u → w.cell? ((⟨g, 0, none⟩ : Addr).add j) = some u :=
        World.ownsRow.cells (w := w) (base := base) (e := 5) (size := 1) (v := .slice (some ⟨g, 0, none⟩) xs.length cap) ⟨hl, .inr ⟨g, cap, cur, rfl, hbg, hg, hnc, hcm, hcs, htake⟩⟩ (g := g) rfl
      have := run_append_grow (P := Try.prog) w 22 ty 5 i0 (.int .u8 0) Try.underlying22 hi0 hz0 ⟨g, 0, none⟩ xs.length cap (bcells xs) (by rw [bcells_len, hz1, Nat.mul_one]) hold ad len c (bcells ys) hcl hr.cells (by omega) (by omega) (by rw [hz2]; exact growslice_fits (by omega) (by omega))
      rw [this] at hrun
      injection hrun with e1 e2
      subst e1; subst e2
      refine allbytes_new w.drew _ _ _ ?_
      intro u hu
      rw [Array.toList_append, Array.toList_append] at hu
      rcases List.mem_append.1 hu with h | h
      · rcases List.mem_append.1 h with h | h
        · exact bcells_byte xs u (by simpa using h)
        · exact bcells_byte ys u (by simpa using h)
      · exact zeros_byte _ u h
end

/-- 'append(row, xs...)', all cells of the row bytes. -/
theorem wpList_fapp {ops : Array Oper} {rest : List Oper} {o : Oper} {a : Act} {w : World} {Q : Exit → Act → World → Prop} (hgd : o.guard = none) (s x : Operand)
    (ho : o.op = .call { callee := .builtin .append, args := #[s, x], argTypes := #[22, 22] }) (base : Nat) (v : Value) (xs : List UInt8) (hs : a.eval s = v) (hown : BOwns w base v xs) (hall : AllBytes w v)
    (ad : Addr) (len cap : Nat) (ys : List UInt8) (hx : a.eval x = .slice (some ad) len cap) (hr : BReads w (some ad) len ys) (hm : xs.length + len ≤ 17592186044416) (hb : base ≤ w.heap.size)
    (h : ∀ v' w', BOwns w' base v' (xs ++ ys) → AllBytes w' v' → w.grownBy w' v.ownBlock → wpList Try.prog ops Q rest (a.put o.dst v') w') : wpList Try.prog ops Q (o :: rest) a w := by
  obtain ⟨i0, hi0, hz0, hz1, hz2⟩ := info_u8
  refine wpList_plain hgd fun K hK => ?_
  obtain ⟨v', w', hrun, h2, h3, h4⟩ := run_append_own (P := Try.prog) w base 22 o.type 5 i0 (.int .u8 0) 1 1 Try.underlying22 hi0 hz0 hz1 hz2 rfl (by decide) v xs.length (bcells xs) hown ad len cap (bcells ys) (by rw [bcells_len, hr.1, Nat.mul_one]) hr.cells (bcells_one ys) (by simp only [maxLen]; omega) (by omega) hb
  have hfull := full_append base v xs hown hall ad len cap ys hr hm o.type v' w' hrun
  unfold Oper.wp execOp
  simp only [ho, resolve, invoke, builtin, Sem.run_bind, Sem.run_pure, Result.andThen_ok, List.map_toArray, List.map_cons, List.map_nil, hs, hx, hrun]
  refine hK _ _ (h v' w' ?_ hfull h3)
  rw [bcells_app] at h2
  unfold BOwns
  rw [List.length_append, hr.1]
  exact h2
end Go.Proofs.Ytfapldajodobhaa

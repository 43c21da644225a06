/- Contracts of strings.Builder's copyCheck, WriteByte, WriteString, String, of a builder of the call's own. -/
import Derived.Test.YtpoahdfhhnlghaaTkE
import Derived.Test.YtpoahdfhhnlghaaShelf
import Derived.Shelf.Strings.BuilderF
import Derived.Lib.Builder
import Derived.Lib.AppendStr
import Derived.Lib.OthersKept
namespace Go.Proofs.Ytpoahdfhhnlghaa
set_option linter.unusedVariables false
set_option linter.unusedSimpArgs false
open Go.RowKit

theorem bytes_cells (L : List UInt8) : Lib.byteCells L = bcells L := rfl
theorem str_cells (L : List UInt8) : Lib.strCells (⟨L.toArray⟩ : ByteArray) = bcells L := by
  unfold Lib.strCells bcells
  simp
/-- 'append(row, s...)', the row the call's own, s a text. -/
theorem wpList_tsapp {ops : Array Oper} {rest : List Oper} {o : Oper} {a : Act} {w : World} {Q : Exit → Act → World → Prop} (hgd : o.guard = none) (s x : Operand)
    (ho : o.op = .call { callee := .builtin .append, args := #[s, x], argTypes := #[42, 9] }) (base : Nat) (v : Value) (xs : List UInt8) (hs : a.eval s = v) (hown : BOwns w base v xs)
    (ys : List UInt8) (hx : a.eval x = .string ⟨ys.toArray⟩) (hm : xs.length + ys.length ≤ 17592186044416) (hb : base ≤ w.heap.size)
    (h : ∀ v' w', BOwns w' base v' (xs ++ ys) → w.grownBy w' v.ownBlock → wpList Try.prog ops Q rest (a.put o.dst v') w') : wpList Try.prog ops Q (o :: rest) a w := by
  obtain ⟨i0, hi0, hz0, hz1, hz2⟩ := info_u8
  have hsz : (⟨ys.toArray⟩ : ByteArray).size = ys.length := by simp [ByteArray.size]
  refine Lib.wpList_append_own_string w hgd s x _ _ ho base 5 i0 Try.underlying42 Try.underlying9 hi0 hz0 hz1 hz2 _ xs.length (bcells xs) hs hown _ hx
    (by rw [hsz]; simp only [maxLen]; omega) (by rw [hsz]; omega) hb ?_
  intro v' w' hown' hg _
  rw [hsz, str_cells, bcells_app] at hown'
  refine h _ _ ?_ hg
  unfold BOwns
  rw [List.length_append]
  exact hown'

theorem row_kind {w : World} {B : Nat} {e : TypeId} {size : Nat} {v : Value} {n : Nat} {xs : List Value} (h : w.ownsRow B e size v n xs) : ∀ g, v.ownBlock = some g → ∃ c fz, w.heap[g]? = some (.cells c e fz) := by
  intro g hg
  rcases h.2 with ⟨rfl, _⟩ | ⟨g', cap, cur, rfl, _, hc, _⟩
  · cases hg
  · simp [Value.ownBlock] at hg
    subst hg
    exact ⟨cur, _, hc⟩
/-- A builder of the call's own that holds these bytes. -/
def BdA (B b : Nat) (L : List UInt8) (w : World) : Prop := Lib.IsBuilder 67 5 B b (bcells L) w
theorem bd_lies : liesAt Try.prog Try.prog.depth 67 (2 / Try.prog.cellsOf 67) 0 67 1 = true := by kernel_rfl
theorem bd_info : ∃ j, Try.prog.info? 67 = some j ∧ j.size = 2 := by
  have h : (Try.prog.info? 67).map (·.size) = some 2 := by kernel_rfl
  obtain ⟨j, h1, h2⟩ := Option.map_eq_some_iff.1 h
  exact ⟨j, h1, h2⟩
set_option maxRecDepth 100000 in
theorem bd_fresh (b : Nat) (w : World) (h0 : w.cell? ⟨b, 0, none⟩ = some (.pointer none)) (hsh : w.shape? b = some (67, 2)) (hfz : w.frozen? ⟨b, 0, none⟩ = false) :
    Calls Try.prog 48 #[.pointer (some ⟨b, 0, none⟩)] w fun e w' => e = .returned (.tuple #[]) ∧ w' = w.setCell ⟨b, 0, none⟩ (.pointer (some ⟨b, 0, none⟩)) := by
  obtain ⟨j, hj, hjs⟩ := bd_info
  go_enter Try.func48, Try.ntmps48
  go_wp2
  rw [Lib.run_to_unsafe w ⟨b, 0, none⟩ Try.underlying65 Try.underlying78 hj (by rw [hjs]; decide) hsh (Nat.zero_lt_succ 1)]
  simp only [Result.andThen]
  rw [Oper.upon_value]
  go_wp2
  rw [run_callFunc_extern Try.func51 (by kernel_rfl) (by kernel_rfl) (by kernel_rfl) (e := Extern.AbiNoEscape.same) (by kernel_rfl)]
  rw [Lib.run_noEscape]
  simp only [Result.andThen]
  rw [Oper.upon_value]
  go_wp2
  rw [Lib.run_from_unsafe w ⟨b, 0, none⟩ Try.underlying78 Try.underlying65 hj hsh bd_lies]
  simp only [Result.andThen]
  rw [Oper.upon_value]
  go_wp2
  go_end0
  exact ⟨rfl, rfl⟩
set_option maxRecDepth 100000 in
theorem bd_used (b : Nat) (w : World) (h0 : w.cell? ⟨b, 0, none⟩ = some (.pointer (some ⟨b, 0, none⟩))) :
    Calls Try.prog 48 #[.pointer (some ⟨b, 0, none⟩)] w fun e w' => e = .returned (.tuple #[]) ∧ w' = w := by
  go_enter Try.func48, Try.ntmps48
  go_wp2
  obtain ⟨j, hj, _⟩ := bd_info
  rw [Lib.run_neq_ptr_same w _ Try.underlying65 hj]
  simp only [Result.andThen]
  rw [Oper.upon_value]
  go_wp2
  go_end0
  exact ⟨rfl, rfl⟩
theorem bd_check (B b : Nat) (bs : List Value) (w : World) (h : Lib.IsBuilder 67 5 B b bs w) :
    Calls Try.prog 48 #[.pointer (some ⟨b, 0, none⟩)] w fun e w' => e = .returned (.tuple #[]) ∧ (Lib.BuilderAt 67 5 B b (.pointer (some ⟨b, 0, none⟩)) bs w' ∧ Below B w w' ∧ Lib.OthersKept 5 (some b) w w') := by
  rcases h with h | h
  · refine (bd_fresh b w h.cell0 h.shape h.frozen0).mono ?_
    rintro e w' ⟨rfl, rfl⟩
    exact ⟨rfl, h.used _, (Below.refl B w).setCell (p := ⟨b, 0, none⟩) h.1 _, (Lib.OthersKept.refl _ _ w).setCell ⟨b, 0, none⟩ rfl _⟩
  · refine (bd_used b w h.cell0).mono ?_
    rintro e w' ⟨rfl, rfl⟩
    exact ⟨rfl, h, Below.refl B _, Lib.OthersKept.refl _ _ _⟩
set_option maxRecDepth 100000 in
set_option maxHeartbeats 1000000 in
theorem bd_byte (B b : Nat) (L : List UInt8) (c : UInt8) (w : World) (h : BdA B b L w) (hlen : L.length ≤ 1099511627776) (hBw : B ≤ w.heap.size) :
    Calls Try.prog 39 #[.pointer (some ⟨b, 0, none⟩), .int .u8 (c.toNat : Int)] w fun e w' => e = .returned .nilIface ∧ BdA B b (L ++ [c]) w' ∧ Below B w w' ∧ Lib.OthersKept 5 (some b) w w' := by
  have HCC := Lib.hid (bd_check B b (bcells L) w h)
  have HB := Lib.hid (bcells_app L [c])
  clear h
  go_enter Try.func39, Try.ntmps39
  go_wp2_with fail
  refine HCC.out.mono ?_
  rintro e w1 ⟨rfl, h1, hb1, hk1⟩
  obtain ⟨hB, v, hbk, hown, hne⟩ := h1
  have c0 : w1.cell? ⟨b, 0, none⟩ = some (.pointer (some ⟨b, 0, none⟩)) := by rw [Lib.cell_of_heap hbk]; rfl
  have c1 : w1.cell? ⟨b, 1, none⟩ = some v := by rw [Lib.cell_of_heap hbk]; rfl
  have hO : BOwns w1 B v L := by unfold BOwns; rw [← bcells_len L]; exact hown
  have HO := Lib.hid hO
  have HBK := Lib.hid hbk
  have HNE := Lib.hid hne
  have HB1 := Lib.hid hb1
  have hlt : b < w1.heap.size := (Array.getElem?_eq_some_iff.1 hbk).1
  have HBR := Lib.hid (breads_one w1 c)
  have hs1 := hb1.size
  clear hbk hown hO hne hb1
  go_wp2_with (at_builtin; refine wpList_bapp rfl _ _ rfl B v L rfl (HO.out.below ((Below.refl _ _).alloc (Nat.le_refl _) _)) (some ⟨w1.heap.size, 0, none⟩) 1 1 [c] rfl (fun h => nomatch h) HBR.out (by simp; omega) (by simp; omega) ?_)
  intro v' w2 hown' hgrow
  have hb2 : w2.heap[b]? = some (.cells #[.pointer (some ⟨b, 0, none⟩), v] 67 (0, 0)) := by
    rw [hgrow.block b (by simp; omega) (fun e => HNE.out e.symm), Lib.alloc_old w1 _ b hlt]
    exact HBK.out
  have d0 : w2.cell? ⟨b, 0, none⟩ = some (.pointer (some ⟨b, 0, none⟩)) := by rw [Lib.cell_of_heap hb2]; rfl
  have d1 : w2.cell? ⟨b, 1, none⟩ = some v := by rw [Lib.cell_of_heap hb2]; rfl
  have f1 : w2.frozen? ⟨b, 1, none⟩ = false := Lib.frozen_of_heap hb2 1
  obtain ⟨g, cap, rfl⟩ : ∃ g cap, v' = .slice (some ⟨g, 0, none⟩) (L.length + 1) cap := by
    have hl : (L ++ [c]).length = L.length + 1 := by simp
    unfold BOwns at hown'
    rw [hl] at hown'
    rcases hown'.2 with ⟨_, h0⟩ | ⟨g, cap, cur, hv, _⟩
    · omega
    · exact ⟨g, cap, hv⟩
  have HO2 := Lib.hid hown'
  have HB2 := Lib.hid hb2
  have HG := Lib.hid ((HB1.out.alloc (by omega) (.cells #[.int .u8 (c.toNat : Int)] 5)).grown hgrow (by simp; omega) (fun k hk => HO.out.block k hk))
  have HK := Lib.hid (((hk1.alloc (.cells #[.int .u8 (c.toNat : Int)] 5)).grown hgrow (row_kind (HO.out.below ((Below.refl _ _).alloc (Nat.le_refl _) _)))).setCell ⟨b, 1, none⟩ rfl (.slice (some ⟨g, 0, none⟩) (L.length + 1) cap))
  clear hown' hb2 hgrow hk1
  go_wp2
  go_ret
  refine ⟨rfl, .inr ?_, ?_, HK.out⟩
  · refine Lib.BuilderAt.put (T := 67) (e := 5) hB HB2.out (bs' := bcells (L ++ [c])) ?_ (by decide)
    rw [bcells_len]; exact HO2.out
  · exact HG.out.setCell (p := ⟨b, 1, none⟩) hB _
set_option maxRecDepth 100000 in
set_option maxHeartbeats 1000000 in
theorem bd_text (B b : Nat) (L M : List UInt8) (w : World) (h : BdA B b L w) (hlen : L.length ≤ 1099511627776) (hlen2 : M.length ≤ 1099511627776) (hBw : B ≤ w.heap.size) :
    Calls Try.prog 40 #[.pointer (some ⟨b, 0, none⟩), .string ⟨M.toArray⟩] w fun e w' => e = .returned (.tuple #[.int .i64 (M.length : Int), .nilIface]) ∧ BdA B b (L ++ M) w' ∧ Below B w w' := by
  have HCC := Lib.hid (bd_check B b (bcells L) w h)
  have HB := Lib.hid (bcells_app L M)
  clear h
  go_enter Try.func40, Try.ntmps40
  go_wp2_with fail
  refine HCC.out.mono ?_
  rintro e w1 ⟨rfl, h1, hb1, hk1⟩
  obtain ⟨hB, v, hbk, hown, hne⟩ := h1
  have c0 : w1.cell? ⟨b, 0, none⟩ = some (.pointer (some ⟨b, 0, none⟩)) := by rw [Lib.cell_of_heap hbk]; rfl
  have c1 : w1.cell? ⟨b, 1, none⟩ = some v := by rw [Lib.cell_of_heap hbk]; rfl
  have hO : BOwns w1 B v L := by unfold BOwns; rw [← bcells_len L]; exact hown
  have HO := Lib.hid hO
  have HBK := Lib.hid hbk
  have HNE := Lib.hid hne
  have HB1 := Lib.hid hb1
  have hlt : b < w1.heap.size := (Array.getElem?_eq_some_iff.1 hbk).1
  have hs1 := hb1.size
  clear hbk hown hO hne hb1
  go_wp2_with (at_builtin; refine wpList_tsapp rfl _ _ rfl B v L rfl HO.out M rfl (by omega) (by omega) ?_)
  intro v' w2 hown' hgrow
  have hb2 : w2.heap[b]? = some (.cells #[.pointer (some ⟨b, 0, none⟩), v] 67 (0, 0)) := by
    rw [hgrow.block b hlt (fun e => HNE.out e.symm)]
    exact HBK.out
  have d0 : w2.cell? ⟨b, 0, none⟩ = some (.pointer (some ⟨b, 0, none⟩)) := by rw [Lib.cell_of_heap hb2]; rfl
  have d1 : w2.cell? ⟨b, 1, none⟩ = some v := by rw [Lib.cell_of_heap hb2]; rfl
  have f1 : w2.frozen? ⟨b, 1, none⟩ = false := Lib.frozen_of_heap hb2 1
  obtain ⟨ao, n', cap, rfl⟩ : ∃ ao n' cap, v' = .slice ao n' cap := by
    rcases hown'.2 with ⟨hv, _⟩ | ⟨g, cap, cur, hv, _⟩
    · exact ⟨_, _, _, hv⟩
    · exact ⟨_, _, _, hv⟩
  have HO2 := Lib.hid hown'
  have HB2 := Lib.hid hb2
  have HG := Lib.hid (HB1.out.grown hgrow (by omega) (fun k hk => HO.out.block k hk))
  clear hown' hb2 hgrow
  go_wp2
  go_ret2
  refine ⟨rfl, .inr ?_, ?_⟩
  · refine Lib.BuilderAt.put (T := 67) (e := 5) hB HB2.out (bs' := bcells (L ++ M)) ?_ (by decide)
    rw [bcells_len]; exact HO2.out
  · exact HG.out.setCell (p := ⟨b, 1, none⟩) hB _
theorem bd_string (B b : Nat) (L : List UInt8) (w : World) (h : BdA B b L w) (hBw : B ≤ w.heap.size) :
    Calls Try.prog 41 #[.pointer (some ⟨b, 0, none⟩)] w fun e w' => e = .returned (.string ⟨L.toArray⟩) ∧ Below B w w' := Try.Builder_String_any B b L w h hBw
theorem bd_new (w : World) : BdA w.heap.size w.heap.size [] (w.alloc (.cells #[.pointer none, .slice none 0 0] 67)) := Lib.fresh_isBuilder _ _ w
end Go.Proofs.Ytpoahdfhhnlghaa

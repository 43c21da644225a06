/- Slices of texts: what reads as a list of texts, a row of the call's own all of whose cells are texts, append of texts onto it. -/
import Derived.Test.YtngjkmjejijfiaaDoorBList
import Derived.Test.YtngjkmjejijfiaaDoorURow
import Derived.Laws.AppendOwn
import Derived.Laws.AppendOwnNone
import Derived.Maps.AppendAt
namespace Go.Proofs.YtngjkmjejijfiaaDoor
set_option linter.unusedVariables false
set_option linter.unusedSimpArgs false
open Go.RowKit

abbrev Tx := List UInt8
abbrev sV (x : Tx) : Value := .string ⟨x.toArray⟩
def scells (K : List Tx) : List Value := K.map sV
theorem scells_len (K : List Tx) : (scells K).length = K.length := by simp [scells]
theorem scells_one (K : List Tx) : ∀ u ∈ scells K, u.oneCell' = true := by
  intro u hu
  obtain ⟨z, _, rfl⟩ := List.mem_map.1 hu
  rfl
theorem scells_get (K : List Tx) (i : Nat) (h : i < K.length) : (scells K)[i]? = some (sV (K.getD i [])) := by
  simp [scells, List.getD_eq_getElem?_getD, h]
theorem scells_app (xs ys : List Tx) : scells xs ++ scells ys = scells (xs ++ ys) := by simp [scells]
theorem info_str : ∃ i, Tryd.prog.info? 9 = some i ∧ i.zero = some (.string ⟨#[]⟩) ∧ i.size = 1 ∧ i.bytes = 16 := by
  have h : (Tryd.prog.info? 9).map (fun i => (i.zero, i.size, i.bytes)) = some (some (.string ⟨#[]⟩), 1, 16) := by kernel_rfl
  cases hi : Tryd.prog.info? 9 with
  | none => rw [hi] at h; cases h
  | some i =>
    rw [hi] at h
    simp at h
    exact ⟨i, rfl, h.1, h.2.1, h.2.2⟩
/-- A slice of texts that reads as a list. -/
def SReads (w : World) (a : Option Addr) (len : Nat) (K : List Tx) : Prop :=
  K.length = len ∧ (len = 0 ∨ ∃ b off, a = some ⟨b, off, none⟩ ∧ ∀ i, i < len → w.cell? ⟨b, off + i, none⟩ = some (sV (K.getD i [])))
/-- A row of texts of the call's own. -/
def SOwns (w : World) (base : Nat) (v : Value) (K : List Tx) : Prop := w.ownsRow base 9 1 v K.length (scells K)
theorem sreads_of_owns {w : World} {base : Nat} {v : Value} {K : List Tx} (h : SOwns w base v K) : ∃ a cap, v = .slice a K.length cap ∧ SReads w a K.length K ∧ (a = none → K.length = 0 ∧ cap = 0) := by
  obtain ⟨_, h⟩ := h
  rcases h with ⟨h, h0⟩ | ⟨g, cap, cur, rfl, _, hc, hnc, _, hs, ht⟩
  · exact ⟨none, 0, by rw [h, h0], ⟨rfl, .inl h0⟩, fun _ => ⟨h0, rfl⟩⟩
  · refine ⟨_, cap, rfl, ⟨rfl, .inr ⟨g, 0, rfl, fun i hi => ?_⟩⟩, (fun h => nomatch h)⟩
    rw [Nat.mul_one] at ht
    have h1 : (cur.toList.take K.length)[i]? = some (sV (K.getD i [])) := by rw [ht]; exact scells_get K i hi
    rw [List.getElem?_take_of_lt hi] at h1
    simp [World.cell?, hc]
    simpa using h1
theorem SReads.below {w w' : World} {a : Option Addr} {len : Nat} {K : List Tx} (h : SReads w a len K) (hb : Below w.heap.size w w') : SReads w' a len K := by
  obtain ⟨h1, h3⟩ := h
  refine ⟨h1, ?_⟩
  rcases h3 with h3 | ⟨b, off, rfl, hc⟩
  · exact .inl h3
  · by_cases hl : len = 0
    · exact .inl hl
    refine .inr ⟨b, off, rfl, fun i hi => ?_⟩
    have hbs := World.block_lt_of_cell? _ _ (hc i hi)
    rw [World.cell?_of_block (hb.block b hbs)]
    exact hc i hi
theorem SReads.cells {w : World} {a : Addr} {len : Nat} {K : List Tx} (h : SReads w (some a) len K) : ∀ j u, (scells K)[j]? = some u → w.cell? (a.add j) = some u := by
  obtain ⟨h1, h3⟩ := h
  intro j u hu
  have hj : j < K.length := by
    have := (List.getElem?_eq_some_iff.1 hu).1
    rwa [scells_len] at this
  rcases h3 with h3 | ⟨b, off, he, hc⟩
  · omega
  · injection he with he
    subst he
    have ha : (⟨b, off, none⟩ : Addr).add j = ⟨b, off + j, none⟩ := by unfold Addr.add; split <;> simp_all
    rw [ha, hc j (by omega), ← scells_get K j hj]
    exact hu
theorem SOwns.below {w w' : World} {base : Nat} {v : Value} {K : List Tx} (h : SOwns w base v K) (hb : Below w.heap.size w w') : SOwns w' base v K := by
  obtain ⟨h1, h⟩ := h
  refine ⟨h1, ?_⟩
  rcases h with h | ⟨g, cap, cur, hv, hg, hc, h4⟩
  · exact .inl h
  · exact .inr ⟨g, cap, cur, hv, hg, (hb.block g (Array.getElem?_eq_some_iff.1 hc).1).trans hc, h4⟩
theorem SOwns.base {w : World} {base base' : Nat} {v : Value} {K : List Tx} (h : SOwns w base v K) (hb : base' ≤ base) : SOwns w base' v K := by
  obtain ⟨h1, h⟩ := h
  refine ⟨h1, ?_⟩
  rcases h with h | ⟨g, cap, cur, hv, hg, h⟩
  · exact .inl h
  · exact .inr ⟨g, cap, cur, hv, by omega, h⟩
theorem SOwns.block {w : World} {base : Nat} {v : Value} {K : List Tx} (h : SOwns w base v K) : ∀ k, v.ownBlock = some k → base ≤ k ∧ k < w.heap.size := World.ownsRow.lt h
theorem sowns_nil (w : World) (base : Nat) : SOwns w base (.slice none 0 0) [] := ⟨rfl, .inl ⟨rfl, rfl⟩⟩
theorem sowns_full (w : World) (K : List Tx) (hk : K.length ≤ 1000) : SOwns (w.alloc (.cells (scells K).toArray 9)) w.heap.size (.slice (some ⟨w.heap.size, 0, none⟩) K.length K.length) K :=
  ⟨by rw [scells_len, Nat.mul_one], .inr ⟨w.heap.size, K.length, (scells K).toArray, rfl, Nat.le_refl _, by show (w.heap.push _)[w.heap.size]? = _; simp, Nat.le_refl _, (by simp only [maxLen]; omega), by simp [scells_len], by rw [Nat.mul_one, ← scells_len K]; simp⟩⟩
theorem sreads_full (w : World) (K : List Tx) (hk : K.length ≤ 1000) : SReads (w.alloc (.cells (scells K).toArray 9)) (some ⟨w.heap.size, 0, none⟩) K.length K := by
  obtain ⟨a, cap, he, hr, _⟩ := sreads_of_owns (sowns_full w K hk)
  injection he with e1 e2 e3
  subst e1
  exact hr
theorem sreads_at (w : World) (n : Nat) (hn : n = w.heap.size) (L : Tx) : SReads (w.alloc (.cells #[.string ⟨L.toArray⟩] 9)) (some ⟨n, 0, none⟩) 1 [L] := by subst hn; exact sreads_full w [L] (by simp)

/-- All cells of the row of v are texts. -/
def IsText (u : Value) : Prop := ∃ x : Tx, x.length ≤ 1000000 ∧ u = sV x
def AllText (w : World) (v : Value) : Prop := ∀ g n cap, v = .slice (some ⟨g, 0, none⟩) n cap → ∃ cur, w.heap[g]? = some (.cells cur 9 (0, 0)) ∧ ∀ u ∈ cur.toList, IsText u
def ShortS (K : List Tx) : Prop := ∀ x ∈ K, x.length ≤ 1000000
theorem AllText.below {w w' : World} {v : Value} (h : AllText w v) (hb : Below w.heap.size w w') : AllText w' v := by
  intro g n cap hv
  obtain ⟨cur, hc, hu⟩ := h g n cap hv
  have hg : g < w.heap.size := by
    by_cases hs : g < w.heap.size
    · exact hs
    · rw [Array.getElem?_eq_none (Nat.le_of_not_lt hs)] at hc; cases hc
  exact ⟨cur, by rw [hb.block g hg]; exact hc, hu⟩
theorem alltext_nil (w : World) : AllText w (.slice none 0 0) := fun g n cap h => by cases h
theorem scells_text {L : List Tx} (h : ShortS L) : ∀ u ∈ scells L, IsText u := by
  intro u hu
  obtain ⟨z, hz, rfl⟩ := List.mem_map.1 hu
  exact ⟨z, h z hz, rfl⟩
theorem zeros_text (k : Nat) : ∀ u ∈ (Builtin.zeroCells (Value.string ⟨#[]⟩).cells k).toList, IsText u := by
  intro u hu
  have : u = .string ⟨#[]⟩ := by
    simp [Builtin.zeroCells, Value.cells] at hu
    obtain ⟨i, _, rfl⟩ := hu
    simp [Nat.mod_one]
  exact ⟨[], by simp, this⟩
theorem alltext_new (w : World) (c : Array Value) (n cap : Nat) (h : ∀ u ∈ c.toList, IsText u) : AllText (w.alloc (.cells c 9)) (.slice (some ⟨w.heap.size, 0, none⟩) n cap) := by
  intro g n' cap' hv
  injection hv with h1 _ _
  injection h1 with h1
  injection h1 with h1 _ _
  subst h1
  exact ⟨c, by show (w.heap.push _)[w.heap.size]? = _; simp, h⟩

section
variable {w : World}

set_option maxRecDepth 100000 in
/-- What append makes of such a row is such a row. -/
theorem full_append_s (base : Nat) (v : Value) (xs : List Tx) (hown : SOwns w base v xs) (hall : AllText w v) (hxs : ShortS xs)
    (ad : Addr) (len c : Nat) (ys : List Tx) (hys : ShortS ys) (hr : SReads w (some ad) len ys) (hm : xs.length + len ≤ 1000000) (ty : TypeId)
    (v' : Value) (w' : World) (hrun : (Builtin.append_ #[24, 24] ty #[v, .slice (some ad) len c]).run Tryd.prog w = .ok v' w') : AllText w' v' := by
  obtain ⟨i0, hi0, hz0, hz1, hz2⟩ := info_str
  obtain ⟨hl, hown⟩ := hown
  have hyl := hr.1
  have hcl : (scells ys).length = len * i0.size := by rw [scells_len, hz1, hyl, Nat.mul_one]
  rcases hown with ⟨rfl, h0⟩ | ⟨g, cap, cur, rfl, hbg, hg, hnc, hcm, hcs, htake⟩
  · by_cases hz : len = 0
    · subst hz
      have this : (Builtin.append_ #[24, 24] ty #[.slice none 0 0, .slice (some ad) 0 c]).run Tryd.prog w = .ok (.slice none 0 0) w := by
        simp [Builtin.append_, run_underlying Tryd.underlying24, sizeOf, typeInfo, hi0, Builtin.lenOf, Builtin.firstCells, loadCells, loadCellsFrom]
      rw [this] at hrun
      injection hrun with e1 e2
      subst e1; subst e2
      exact alltext_nil _
    · have := run_append_nil (P := Tryd.prog) w 24 ty 9 i0 (.string ⟨#[]⟩) Tryd.underlying24 hi0 hz0 ad len c (scells ys) hcl hr.cells (by omega) (by omega) (by rw [hz2]; omega)
      rw [this] at hrun
      injection hrun with e1 e2
      subst e1; subst e2
      refine alltext_new w.drew _ _ _ ?_
      intro u hu
      rw [Array.toList_append] at hu
      rcases List.mem_append.1 hu with h | h
      · exact scells_text hys u (by simpa using h)
      · exact zeros_text _ u h
  · obtain ⟨cur2, hg2, hu2⟩ := hall g _ cap rfl
    obtain rfl : cur = cur2 := by rw [hg] at hg2; injection hg2 with h; injection h
    by_cases hroom : xs.length + len ≤ cap
    · have := run_append_room (P := Tryd.prog) w 24 ty 9 i0 Tryd.underlying24 hi0 g xs.length cap cur hg ad len c (scells ys) hcl hr.cells (scells_one ys) hroom (by rw [hz1, scells_len, hyl, hcs]; omega)
      rw [this] at hrun
      injection hrun with e1 e2
      subst e1; subst e2
      intro g' n' cap' hv
      injection hv with h1 _ _
      injection h1 with h1
      injection h1 with h1 _ _
      subst h1
      refine ⟨_, setRow_heap w g cur _ 9 _ hg, ?_⟩
      intro u hu
      simp only [List.mem_append] at hu
      rcases hu with (h | h) | h
      · exact hu2 u (List.mem_of_mem_take h)
      · exact scells_text hys u h
      · exact hu2 u (List.mem_of_mem_drop h)
    · have hold : ∀ j u, (scells xs)[j]? = some u → w.cell? ((⟨g, 0, none⟩ : Addr).add j) = some u :=
        World.ownsRow.cells (w := w) (base := base) (e := 9) (size := 1) (v := .slice (some ⟨g, 0, none⟩) xs.length cap) ⟨hl, .inr ⟨g, cap, cur, rfl, hbg, hg, hnc, hcm, hcs, htake⟩⟩ (g := g) rfl
      have := run_append_grow (P := Tryd.prog) w 24 ty 9 i0 (.string ⟨#[]⟩) Tryd.underlying24 hi0 hz0 ⟨g, 0, none⟩ xs.length cap (scells xs) (by rw [scells_len, hz1, Nat.mul_one]) hold ad len c (scells ys) hcl hr.cells (by omega) (by omega) (by rw [hz2]; exact growslice_fits (by omega) (by omega))
      rw [this] at hrun
      injection hrun with e1 e2
      subst e1; subst e2
      refine alltext_new w.drew _ _ _ ?_
      intro u hu
      rw [Array.toList_append, Array.toList_append] at hu
      rcases List.mem_append.1 hu with h | h
      · rcases List.mem_append.1 h with h | h
        · exact scells_text hxs u (by simpa using h)
        · exact scells_text hys u (by simpa using h)
      · exact zeros_text _ u h
end

/-- A row of texts of the call's own, all of whose cells are texts. -/
def SFull (w : World) (base : Nat) (v : Value) (K : List Tx) : Prop := SOwns w base v K ∧ AllText w v ∧ ShortS K
theorem SFull.below {w w' : World} {base : Nat} {v : Value} {K : List Tx} (h : SFull w base v K) (hb : Below w.heap.size w w') : SFull w' base v K := ⟨h.1.below hb, h.2.1.below hb, h.2.2⟩
theorem SFull.base {w : World} {base base' : Nat} {v : Value} {K : List Tx} (h : SFull w base v K) (hb : base' ≤ base) : SFull w base' v K := ⟨h.1.base hb, h.2⟩
theorem sfull_nil (w : World) (base : Nat) : SFull w base (.slice none 0 0) [] := ⟨sowns_nil w base, alltext_nil w, fun _ h => nomatch h⟩
theorem sfull_new (w : World) (K : List Tx) (hk : K.length ≤ 1000) (hs : ShortS K) : SFull (w.alloc (.cells (scells K).toArray 9)) w.heap.size (.slice (some ⟨w.heap.size, 0, none⟩) K.length K.length) K :=
  ⟨sowns_full w K hk, alltext_new w _ _ _ (fun u hu => scells_text hs u (by simpa using hu)), hs⟩
set_option maxRecDepth 100000 in
/-- 'append(row, xs...)'. -/
theorem wpList_sapp {ops : Array Oper} {rest : List Oper} {o : Oper} {a : Act} {w : World} {Q : Exit → Act → World → Prop} (hgd : o.guard = none) (s x : Operand)
    (ho : o.op = .call { callee := .builtin .append, args := #[s, x], argTypes := #[24, 24] }) (base : Nat) (v : Value) (xs : List Tx) (hs : a.eval s = v) (hown : SFull w base v xs)
    (ad : Addr) (len cap : Nat) (ys : List Tx) (hx : a.eval x = .slice (some ad) len cap) (hr : SReads w (some ad) len ys) (hys : ShortS ys) (hm : xs.length + len ≤ 1000000) (hb : base ≤ w.heap.size)
    (h : ∀ v' w', SFull w' base v' (xs ++ ys) → w.grownBy w' v.ownBlock → wpList Tryd.prog ops Q rest (a.put o.dst v') w') : wpList Tryd.prog ops Q (o :: rest) a w := by
  obtain ⟨i0, hi0, hz0, hz1, hz2⟩ := info_str
  refine wpList_plain hgd fun K hK => ?_
  obtain ⟨v', w', hrun, h2, h3, h4⟩ := run_append_own (P := Tryd.prog) w base 24 o.type 9 i0 (.string ⟨#[]⟩) 1 16 Tryd.underlying24 hi0 hz0 hz1 hz2 rfl (by decide) v xs.length (scells xs) hown.1 ad len cap (scells ys) (by rw [scells_len, hr.1, Nat.mul_one]) hr.cells (scells_one ys) (by simp only [maxLen]; omega) (by omega) hb
  have hfull := full_append_s base v xs hown.1 hown.2.1 hown.2.2 ad len cap ys hys hr hm o.type v' w' hrun
  unfold Oper.wp execOp
  simp only [ho, resolve, invoke, builtin, Sem.run_bind, Sem.run_pure, Result.andThen_ok, List.map_toArray, List.map_cons, List.map_nil, hs, hx, hrun]
  refine hK _ _ (h v' w' ⟨?_, hfull, ?_⟩ h3)
  · rw [scells_app] at h2
    unfold SOwns
    rw [List.length_append, hr.1]
    exact h2
  · intro z hz
    rcases List.mem_append.1 hz with h | h
    · exact hown.2.2 z h
    · exact hys z h
end Go.Proofs.YtngjkmjejijfiaaDoor

/- Slices of slices of bytes that come in; the laws' all: frames one behind the other, and where each ends. -/
import Derived.Test.YtfapldajodobhaaFrY
import Derived.Test.YtfapldajodobhaaLists
namespace Go.Proofs.Ytfapldajodobhaa
set_option linter.unusedVariables false
set_option linter.unusedSimpArgs false
open Go.RowKit

theorem BArg.below {w w' : World} {a : Option Addr} {len cap : Nat} {L : List UInt8} (h : BArg w a len cap L) (hb : Below w.heap.size w w') : BArg w' a len cap L := ⟨h.reads.below hb, h.none, h.room⟩
/-- A slice of slices that came in. -/
structure LArg (w : World) (a : Option Addr) (len cap : Nat) (Ls : List (List UInt8)) : Prop where
  len_eq : Ls.length = len
  none : a = none → len = 0 ∧ cap = 0
  room : len ≤ cap
  cells : len = 0 ∨ ∃ b off, a = some ⟨b, off, Option.none⟩ ∧ ∀ i L, Ls[i]? = some L → ∃ a' n' c', w.cell? ⟨b, off + i, Option.none⟩ = some (.slice a' n' c') ∧ BArg w a' n' c' L
theorem LArg.below {w w' : World} {a : Option Addr} {len cap : Nat} {Ls : List (List UInt8)} (h : LArg w a len cap Ls) (hb : Below w.heap.size w w') : LArg w' a len cap Ls := by
  obtain ⟨h1, h2, h3, h5⟩ := h
  refine ⟨h1, h2, h3, ?_⟩
  rcases h5 with h5 | ⟨b, off, he, hc⟩
  · exact .inl h5
  · refine .inr ⟨b, off, he, fun i L hi => ?_⟩
    obtain ⟨a', n', c', e, hB⟩ := hc i L hi
    exact ⟨a', n', c', by rw [World.cell?_of_block (hb.block b (World.block_lt_of_cell? _ _ e))]; exact e, hB.below hb⟩
theorem LArg.lin {w : World} {a : Option Addr} {len cap : Nat} {Ls : List (List UInt8)} (h : LArg w a len cap Ls) (hl : len ≤ 1099511627776) (hs : ∀ L ∈ Ls, L.length ≤ 1099511627776) : LIn w a len Ls cap := by
  obtain ⟨h1, h2, h3, h5⟩ := h
  refine ⟨h1, h2, h3, hl, ?_⟩
  rcases h5 with h5 | ⟨b, off, he, hc⟩
  · exact .inl h5
  · refine .inr ⟨b, off, he, fun i L hi => ?_⟩
    obtain ⟨a', n', c', e, hB⟩ := hc i L hi
    have := hs L (List.mem_of_getElem? hi)
    exact ⟨a', n', c', e, hB.bin (by rw [← hB.reads.1]; exact this)⟩
/-- The first ones. -/
theorem LIn.take {w : World} {a : Option Addr} {len cap k : Nat} {Ls : List (List UInt8)} (h : LIn w a len Ls cap) (hk : k ≤ len) : LIn w a k (Ls.take k) cap := by
  obtain ⟨h1, h2, h3, h4, h5⟩ := h
  refine ⟨by simp; omega, (fun e => by have := h2 e; omega), by omega, by omega, ?_⟩
  rcases h5 with h5 | ⟨b, off, he, hc⟩
  · exact .inl (by omega)
  · refine .inr ⟨b, off, he, fun i L hi => ?_⟩
    have hil : i < k := by
      have := (List.getElem?_eq_some_iff.1 hi).1
      simp at this; omega
    rw [List.getElem?_take_of_lt hil] at hi
    exact hc i L hi

def endsF (Ls : List (List UInt8)) (k : Nat) : List Int := (List.range k).map fun j => ((framesF (Ls.take (j + 1))).length : Int)
@[simp] theorem endsF_len (Ls : List (List UInt8)) (k : Nat) : (endsF Ls k).length = k := by simp [endsF]
theorem endsF_snoc (Ls : List (List UInt8)) (k : Nat) : endsF Ls (k + 1) = endsF Ls k ++ [((framesF (Ls.take (k + 1))).length : Int)] := by simp [endsF, List.range_succ]
theorem endsF_get (Ls : List (List UInt8)) (k j : Nat) (h : j < k) : (ints (endsF Ls k))[j]? = some (.int .i64 ((framesF (Ls.take (j + 1))).length : Int)) := by
  simp [ints, endsF, h]
theorem frames_take (Ls : List (List UInt8)) (k : Nat) (h : k < Ls.length) : framesF (Ls.take (k + 1)) = framesF (Ls.take k) ++ frameF Ls[k] := by
  unfold framesF; rw [List.take_succ_eq_append_getElem h, List.flatMap_append]; simp
theorem frames_bound (Ls : List (List UInt8)) (m : Nat) (h : ∀ L ∈ Ls, L.length ≤ m) : (framesF Ls).length ≤ Ls.length * (m + 12) := by
  induction Ls with
  | nil => simp [framesF]
  | cons L Ls ih =>
    have e : framesF (L :: Ls) = frameF L ++ framesF Ls := rfl
    have h1 := h L List.mem_cons_self
    have h2 := ih fun L' hL' => h L' (List.mem_cons_of_mem _ hL')
    rw [e, List.length_append, frameF_len, List.length_cons, Nat.add_mul]
    omega

theorem ints_more (xs ys : List Int) : ints xs ++ ints ys = ints (xs ++ ys) := by simp [ints]
theorem row_form {w : World} {base : Nat} {e : TypeId} {v : Value} {k : Nat} {xs : List Value} (h : w.ownsRow base e 1 v k xs) : ∃ a cap, v = .slice a k cap ∧ k ≤ cap := by
  obtain ⟨_, h⟩ := h
  rcases h with ⟨rfl, rfl⟩ | ⟨g, cap, cur, rfl, _, _, hnc, _⟩
  · exact ⟨none, 0, rfl, Nat.le_refl _⟩
  · exact ⟨_, cap, rfl, hnc⟩

/-- 'append(row, n)', a row of ints. -/
theorem wpList_iapp {ops : Array Oper} {rest : List Oper} {o : Oper} {a : Act} {w : World} {Q : Exit → Act → World → Prop} (hgd : o.guard = none) (s x : Operand)
    (ho : o.op = .call { callee := .builtin .append, args := #[s, x], argTypes := #[39, 39] }) (base : Nat) (v : Value) (zs : List Int) (hs : a.eval s = v) (hown : w.ownsRow base 3 1 v zs.length (ints zs))
    (g : Nat) (z : Int) (hx : a.eval x = .slice (some ⟨g, 0, none⟩) 1 1) (hc : w.cell? ⟨g, 0, none⟩ = some (.int .i64 z)) (hm : zs.length ≤ 1099511627776) (hb : base ≤ w.heap.size)
    (h : ∀ v' w', w'.ownsRow base 3 1 v' (zs ++ [z]).length (ints (zs ++ [z])) → w.grownBy w' v.ownBlock → wpList Try.prog ops Q rest (a.put o.dst v') w') : wpList Try.prog ops Q (o :: rest) a w := by
  obtain ⟨i0, hi0, hz0, hz1, hz2⟩ := info_int
  refine wpList_append_own _ hgd s x _ ho base 3 i0 _ 1 8 Try.underlying39 hi0 hz0 hz1 hz2 rfl (by decide) v zs.length (ints zs) hs hown ⟨g, 0, none⟩ 1 1 [.int .i64 z] hx
    rfl (fun j u hu => by
      cases j with
      | zero => simp at hu; subst hu; exact hc
      | succ j => simp at hu) (by intro u hu; simp at hu; subst hu; rfl) (by unfold maxLen; omega) (by omega) hb ?_
  intro v' w' hown' hg _
  refine h v' w' ?_ hg
  rw [← ints_more, List.length_append]
  exact hown'

/-- What all tells. -/
def AllRes (w : World) (Ls : List (List UInt8)) (e : Ending) (w' : World) : Prop :=
  (((∃ L ∈ Ls, 1000 < L.length) ∧ e = .returned (.tuple #[.slice none 0 0, .slice none 0 0, .bool false])) ∨
    ((∀ L ∈ Ls, L.length ≤ 1000) ∧ ∃ v u, e = .returned (.tuple #[v, u, .bool true]) ∧ BOwns w' w.heap.size v (framesF Ls) ∧ w'.ownsRow w.heap.size 3 1 u Ls.length (ints (endsF Ls Ls.length)))) ∧ Junk w w'
def AllAt (w : World) (Ls : List (List UInt8)) (v u i : Value) (wr : World) : Prop :=
  ∃ k : Nat, i = .int .i64 (k : Int) ∧ k ≤ Ls.length ∧ (∀ L ∈ Ls.take k, L.length ≤ 1000) ∧ BOwns wr w.heap.size v (framesF (Ls.take k)) ∧ wr.ownsRow w.heap.size 3 1 u (endsF Ls k).length (ints (endsF Ls k)) ∧ Below w.heap.size w wr

set_option maxRecDepth 100000 in
set_option maxHeartbeats 4000000 in
theorem l_all (w : World) (a : Option Addr) (len cap : Nat) (Ls : List (List UInt8)) (h : LArg w a len cap Ls) (h20 : len ≤ 20) :
    Calls Try.prog 24 #[.slice a len cap] w (AllRes w Ls) := by
  have hL := h.len_eq
  subst hL
  have HA := Lib.hid h
  clear h
  go_enter Try.func24, Try.ntmps24
  go_wp2_with fail
  go_loopw [5, 6, 7] (fun v u i wr => AllAt w Ls v u i wr) (fun _ _ i _ => Ls.length - (intOf i).toNat)
  case atStart => exact ⟨0, rfl, by omega, by simp, bowns_nil _ _, ⟨rfl, .inl ⟨rfl, rfl⟩⟩, Below.refl _ _⟩
  case round =>
    obtain ⟨k, rfl, k1, hk, hv, hu, hb⟩ := hrel
    have HV := Lib.hid hv
    have HU := Lib.hid hu
    have HK := Lib.hid hk
    clear hv hu hk
    by_cases hlt : k < Ls.length
    · rcases HA.out.cells with h0 | ⟨b, off, rfl, hc⟩
      · omega
      obtain ⟨a1, n1, c1, q1, hB1⟩ := hc k Ls[k] (by simp)
      have hbw : b < w.heap.size := World.block_lt_of_cell? _ _ q1
      have q2 : wr.cell? ⟨b, off + k, none⟩ = some (.slice a1 n1 c1) := (World.cell?_of_block (hb.block b hbw)).trans q1
      have hn1 := hB1.reads.1
      by_cases hbig : 1000 < n1
      · have HX := Lib.hid (show ∃ L ∈ Ls, 1000 < L.length from ⟨Ls[k], by simp, by omega⟩)
        have e1 : (1000 : Int) < (n1 : Int) := by omega
        clear hc q1 hB1
        go_wp2
        go_ret3
        exact ⟨.inl ⟨HX.out, rfl⟩, junk_of_below hb⟩
      · have e1 : ¬ (1000 : Int) < (n1 : Int) := by omega
        have HP := Lib.hid (fun w' (hw : Below w.heap.size w w') => n_frPut w' a1 n1 c1 Ls[k] ((hB1.bin (by omega)).below hw) (by omega))
        have HK2 := Lib.hid (show ∀ L ∈ Ls.take (k + 1), L.length ≤ 1000 by
          intro L hL
          rw [List.take_succ_eq_append_getElem hlt] at hL
          rcases List.mem_append.1 hL with hL | hL
          · exact HK.out L hL
          · rw [List.mem_singleton.1 hL]; omega)
        have hfb := frames_bound (Ls.take k) 1000 HK.out
        have hfl : (Ls.take k).length * (1000 + 12) ≤ 20 * 1012 := Nat.mul_le_mul (by simp; omega) (by omega)
        have hft := frames_take Ls k hlt
        have hsn := endsF_snoc Ls k
        have hel := endsF_len Ls k
        have hfl2 : (frameF Ls[k]).length ≤ 1012 := by rw [frameF_len]; omega
        rw [hft] at hsn
        have HFT := Lib.hid hft
        have HSN := Lib.hid hsn
        obtain ⟨F, hF⟩ : ∃ F, framesF (Ls.take k) = F := ⟨_, rfl⟩
        obtain ⟨G, hG⟩ : ∃ G, frameF Ls[k] = G := ⟨_, rfl⟩
        obtain ⟨Z, hZ⟩ : ∃ Z, endsF Ls k = Z := ⟨_, rfl⟩
        unfold PutAns at HP
        rw [hF] at HV hfb HFT HSN
        rw [hG] at HP HFT HSN hfl2
        rw [hZ] at HU HSN hel
        clear hc q1 hB1 hft hsn hF hG hZ
        go_wp2_with fail
        refine (HP.out _ hb).mono ?_
        rintro e w1 ⟨v1, rfl, ho1, ha1, hj1⟩
        obtain ⟨a2, c2, rfl, hB2⟩ := bin_of_owns ho1 (by omega)
        have hb1 := hj1.below
        have HV1 := Lib.hid (HV.out.below hb1)
        have HU1 := Lib.hid (ownsRow_keeps HU.out (keeps_below hb1 _ _))
        have HB2 := Lib.hid hB2
        have hbb1 : Below w.heap.size w w1 := hb.trans (hb1.mono hb.size)
        clear ho1 ha1 hj1 hB2 HV HU HP
        obtain ⟨W, hW⟩ : ∃ W, F ++ G = W := ⟨_, rfl⟩
        have hWl : W.length = F.length + G.length := by rw [← hW]; simp
        have HWd := Lib.hid hW
        have HWl := Lib.hid hWl
        rw [hW] at HFT HSN
        clear hW hWl
        go_wp2_with (at_builtin; first
          | (refine wpList_bapp rfl _ _ rfl w.heap.size _ F rfl HV1.out a2 G.length c2 G rfl HB2.out.none HB2.out.reads (by omega) hbb1.size ?_
             intro v2 w2 ho2 hg2
             rw [HWd.out] at ho2
             have hbb2 : Below w.heap.size w w2 := hbb1.grown hg2 hbb1.size (fun j hj => HV1.out.block j hj)
             have HU2 := Lib.hid (ownsRow_keeps HU1.out (keeps_grown hg2 _ _ fun r c e _ hc => by
               obtain ⟨_, h⟩ := HV1.out
               rcases h with ⟨hv0, _⟩ | ⟨g, cap', cur, hv0, _, hc2, _⟩
               · simp [hv0, Value.ownBlock, Act.eval] at e
               · simp [hv0, Value.ownBlock, Act.eval] at e
                 subst e
                 rw [hc] at hc2
                 injection hc2 with hc2
                 injection hc2 with _ e2 _
                 exact absurd e2 (by decide)))
             obtain ⟨a3, c3, e3, _⟩ := breads_of_owns ho2
             have HV2 := Lib.hid ho2
             clear ho2 hg2 HV1 HU1
             subst e3)
          | (refine wpList_iapp rfl _ _ rfl w.heap.size _ Z rfl (ownsRow_keeps HU2.out (keeps_below ((Below.refl _ _).alloc (Nat.le_refl _) _) _ _)) w2.heap.size (W.length : Int) rfl (by simp [go_sem]) (by omega) (by have := hbb2.size; simp; omega) ?_
             intro u3 w3 hu3 hg3))
        have HZ := Lib.hid hel
        clear hel
        have hb3 : Below w.heap.size w w3 := Below.grown (hbb2.alloc hbb2.size _) hg3 (by have := hbb2.size; simp; omega) (fun j hj => (ownsRow_block HU2.out j hj).1)
        have hv3 : BOwns w3 w.heap.size (.slice a3 W.length c3) W := ownsRow_keeps (ownsRow_keeps HV2.out (keeps_below ((Below.refl _ _).alloc (Nat.le_refl _) _) _ _)) (keeps_grown hg3 _ _ fun r c e _ hc => by
          obtain ⟨_, c4, hc4⟩ := ownsRow_block (ownsRow_keeps HU2.out (keeps_below ((Below.refl _ w2).alloc (Nat.le_refl _) (.cells #[.int .i64 (W.length : Int)] 3)) _ _)) r e
          rw [hc] at hc4
          injection hc4 with hc4
          injection hc4 with _ e2 _
          exact absurd e2 (by decide))
        refine ⟨⟨k + 1, by simp, by omega, HK2.out, by rw [HFT.out]; exact hv3, by rw [HSN.out]; exact hu3, hb3⟩, by simp [intOf]; omega⟩
    · obtain rfl : k = Ls.length := by omega
      have hk := HK.out
      have hv := HV.out
      have hu := HU.out
      rw [List.take_length] at hk hv
      rw [endsF_len] at hu
      have HX := Lib.hid (show (∀ L ∈ Ls, L.length ≤ 1000) ∧ ∃ v u, Ending.returned (.tuple #[u5, u6, .bool true]) = .returned (.tuple #[v, u, .bool true]) ∧ BOwns wr w.heap.size v (framesF Ls) ∧ wr.ownsRow w.heap.size 3 1 u Ls.length (ints (endsF Ls Ls.length)) from ⟨hk, _, _, rfl, hv, hu⟩)
      clear hk hv hu HK HV HU
      go_wp2
      go_ret3
      exact ⟨.inr HX.out, junk_of_below hb⟩
end Go.Proofs.Ytfapldajodobhaa

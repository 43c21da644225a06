/- What the laws of layer 5 share: slices of bytes that came in; awake. -/
import Derived.Test.YtabjhmblfeoiaaaOcuE
import Derived.Test.YtabjhmblfeoiaaaOcuL
namespace Go.Proofs.Ytabjhmblfeoiaaa
set_option linter.unusedVariables false
set_option linter.unusedSimpArgs false
open Go.RowKit

/-- A slice of bytes that came in. -/
structure BArg (w : World) (a : Option Addr) (len cap : Nat) (L : List UInt8) : Prop where
  reads : BReads w a len L
  none : a = none → len = 0 ∧ cap = 0
  room : len ≤ cap
theorem BArg.bin {w : World} {a : Option Addr} {len cap : Nat} {L : List UInt8} (h : BArg w a len cap L) (hs : len ≤ 1099511627776) : BIn w a len L cap := ⟨h.reads, h.none, hs, h.room⟩

theorem wf_u8 {n : Int} (h : (Lit.int .u8 n).wf = true) : 0 ≤ n ∧ n ≤ 255 := by
  have e1 : IntKind.u8.min = 0 := by decide
  have e2 : IntKind.u8.max = 255 := by decide
  simp [Lit.wf] at h
  omega

theorem barg {w : World} {x : Addr} {len cap : Nat} {zs : List Int} (hl : len ≤ cap) (hz : zs.length = cap) (hc : ∀ i, i < zs.length → w.cell? (x.add i) = some (.int .u8 (zs.getD i 0))) (hb : ∀ n ∈ zs, (Lit.int .u8 n).wf = true) :
    BArg w (some x) len cap ((zs.take len).map fun n => UInt8.ofNat n.toNat) := by
  refine ⟨⟨by simp; omega, ?_⟩, fun h => by (cases h), hl⟩
  by_cases h0 : len = 0
  · exact .inl h0
  · obtain ⟨b, off, sp⟩ := x
    have h1 := hc 0 (by omega)
    have hsp : sp = none := by
      cases sp with
      | none => rfl
      | some s => unfold Addr.add World.cell? at h1; simp at h1; split at h1 <;> simp_all
    subst hsp
    refine .inr ⟨b, off, rfl, fun i hi => ?_⟩
    have hi' : i < zs.length := by omega
    have hbd := wf_u8 (hb _ (List.getElem_mem hi'))
    have e : (⟨b, off, none⟩ : Addr).add i = ⟨b, off + i, none⟩ := by unfold Addr.add; split <;> simp_all
    rw [← e, hc i hi']
    congr 2
    unfold byteAt
    have : (List.map (fun n : Int => UInt8.ofNat n.toNat) (List.take len zs)).getD i 0 = UInt8.ofNat (zs[i]).toNat := by
      simp [List.getD_eq_getElem?_getD, List.getElem?_take_of_lt hi, hi']
    rw [this, byte_of (by omega)]
    simp [List.getD_eq_getElem?_getD, hi']
    omega
theorem barg_nil (w : World) : BArg w none 0 0 [] := ⟨⟨rfl, .inl rfl⟩, fun _ => ⟨rfl, rfl⟩, Nat.le_refl _⟩

/-- Bytes written out. -/
theorem breads_lit (W : World) (L : List UInt8) (c : Array Value) (hc : c = (bcells L).toArray) (g : Nat) (hg : g = W.heap.size) (n : Nat) (hn : n = L.length) : BReads (W.alloc (.cells c 5)) (some ⟨g, 0, none⟩) n L := by
  subst hc; subst hg; subst hn
  refine ⟨rfl, .inr ⟨_, 0, rfl, fun i hi => ?_⟩⟩
  have h : (W.alloc (.cells (bcells L).toArray 5)).heap[W.heap.size]? = some (.cells (bcells L).toArray 5 (0, 0)) := by show (W.heap.push _)[W.heap.size]? = _; simp
  simp only [World.cell?, h]
  simpa using bcells_get L i hi

theorem bin_lit (W : World) (L : List UInt8) (c : Array Value) (hc : c = (bcells L).toArray) (hl : L.length ≤ 1099511627776) (g : Nat) (hg : g = W.heap.size) (n : Nat) (hn : n = L.length) : BIn (W.alloc (.cells c 5)) (some ⟨g, 0, none⟩) n L n :=
  ⟨breads_lit W L c hc g hg n hn, fun h => by (cases h), by omega, Nat.le_refl _⟩

theorem k_get : getP [128, 1] 0 = (64, 2, 0, 0) := by decide
theorem k_put : encN (-65) = [129, 1] := by
  unfold encN
  rw [show rank (-65) = 129 by decide, enc_ge (by decide), enc_lt (by decide)]
  decide
theorem k_txt : encT [97, 98] = [4, 97, 98] := by
  unfold encT encN
  rw [show rank (([97, 98] : List UInt8).length : Int) = 4 by decide, enc_lt (by decide)]
  decide

set_option maxHeartbeats 2000000 in
theorem l_awake (w : World) : Calls Try.prog 21 #[] w fun e w' => e = .returned (.bool true) ∧ Junk w w' := by
  have HG := Lib.hid (fun W a len cap L h p hp r hr => n_Get W a len cap L h p hp r hr)
  have HP := Lib.hid (n_Put (-65) ⟨by decide, by decide⟩)
  have HT := Lib.hid (n_PutText [97, 98] (by decide))
  rw [k_put] at HP
  rw [k_txt] at HT
  have HS := Lib.hid (fun W a b n m ca cb L M hL hM => k_SameBytes W a b n m ca cb L M hL hM)
  go_enter Try.func21, Try.ntmps21
  go_wp2_with fail
  refine (HG.out _ _ 2 2 [128, 1] (bin_lit w _ _ rfl (by decide) _ rfl _ rfl) 0 ⟨by decide, by decide⟩ _ (Lib.hid k_get)).mono ?_; rintro e w' ⟨rfl, J, dr, rfl⟩
  go_wp2_with fail
  refine (HP.out _).mono ?_; rintro e w' ⟨v, rfl, hown, J2, dr2, rfl⟩
  obtain ⟨a2, cap2, rfl, hr2, hn2⟩ := breads_of_owns hown
  have HR2 := Lib.hid hr2
  clear hown hr2 hn2
  go_wp2_with fail
  refine (HS.out _ _ _ _ _ _ _ [129, 1] [129, 1] (HR2.out.below (by (repeat' (first | (with_reducible exact Below.refl _ _) | (with_reducible assumption) | (with_reducible refine Below.alloc ?_ ?_ _) | (with_reducible refine Below.drew ?_) | (with_reducible refine below_drewN ?_ _) | (with_reducible refine below_plus ?_ ?_ _ _) | (with_reducible refine Below.setCell ?_ ?_ _) | (with_reducible refine Below.setRow ?_ ?_ _) | go_size)))) (breads_lit _ _ _ rfl _ (by simp) _ rfl)).mono ?_; rintro e w' ⟨rfl, J3, dr3, rfl⟩
  go_wp2_with fail
  refine (HT.out _).mono ?_; rintro e w' ⟨v, rfl, hown, J4, dr4, rfl⟩
  obtain ⟨a4, cap4, rfl, hr4, hn4⟩ := breads_of_owns hown
  simp only [plus_plus] at hr4
  have HR4 := Lib.hid hr4
  clear hown hr4 hn4
  go_wp2_with fail
  refine (HS.out _ _ _ _ _ _ _ [4, 97, 98] [4, 97, 98] (HR4.out.below (by (repeat' (first | (with_reducible exact Below.refl _ _) | (with_reducible assumption) | (with_reducible refine Below.alloc ?_ ?_ _) | (with_reducible refine Below.drew ?_) | (with_reducible refine below_drewN ?_ _) | (with_reducible refine below_plus ?_ ?_ _ _) | (with_reducible refine Below.setCell ?_ ?_ _) | (with_reducible refine Below.setRow ?_ ?_ _) | go_size)))) (breads_lit _ _ _ rfl _ (by simp) _ rfl)).mono ?_; rintro e w' ⟨rfl, J5, dr5, rfl⟩
  go_wp2
  go_ret
  exact ⟨rfl, junk_of_below (by (repeat' (first | (with_reducible exact Below.refl _ _) | (with_reducible assumption) | (with_reducible refine Below.alloc ?_ ?_ _) | (with_reducible refine Below.drew ?_) | (with_reducible refine below_drewN ?_ _) | (with_reducible refine below_plus ?_ ?_ _ _) | (with_reducible refine Below.setCell ?_ ?_ _) | (with_reducible refine Below.setRow ?_ ?_ _) | go_size)))⟩

theorem flat_len : ∀ (l : List Int), (∀ x ∈ l, I64 x) → (l.flatMap encN).length ≤ 10 * l.length
  | [], _ => by simp
  | x :: l, h => by
    rw [List.flatMap_cons, List.length_append, List.length_cons]
    have h1 := encN_le (h x (by simp))
    have h2 := flat_len l (fun y hy => h y (by simp [hy]))
    omega
theorem encL_len {l : List Int} (h : ∀ x ∈ l, I64 x) (hl : l.length ≤ 1073741824) : (encL l).length ≤ 10 + 10 * l.length := by
  unfold encL
  have h1 := encN_le (show I64 (l.length : Int) from ⟨by omega, by omega⟩)
  have h2 := flat_len l h
  rw [List.length_append]
  omega
theorem reads_i64 {w : World} {a : Option Addr} {len : Nat} {zs : List Int} (h : Reads w a len zs) : ∀ x ∈ zs, I64 x := fun x hx => by
  obtain ⟨i, hi, rfl⟩ := List.getElem_of_mem hx
  have := h.2.1 i (by have := h.1; omega)
  unfold I64
  simpa [List.getD_eq_getElem?_getD, hi] using this

theorem Turned.below {b : Nat} {c : Array Value} {w w1 : World} (h : Turned b c w w1) (hb : b ≤ w.heap.size) : Below b w w1 := by
  obtain ⟨J, d, rfl⟩ := h
  exact below_plus (Below.setRow (Below.refl _ _) (Nat.le_refl _) _) (by simpa using hb) _ _
theorem Turned.row {b : Nat} {c c0 : Array Value} {w w1 : World} (h : Turned b c w w1) (h0 : w.rowAt b = some c0) : w1.rowAt b = some c := by
  obtain ⟨J, d, rfl⟩ := h
  have hb : b < w.heap.size := by
    obtain ⟨t, ht⟩ := rowAt_some h0
    by_cases hs : b < w.heap.size
    · exact hs
    · rw [Array.getElem?_eq_none (Nat.le_of_not_lt hs)] at ht; cases ht
  rw [rowAt_plus _ _ _ _ (by simpa using hb)]
  exact rowAt_setRow h0

/-- A fault that lies in a variable. -/
def FaultAt (w : World) (p : Value) (e f : Int) : Prop := ∃ g, p = .pointer (some ⟨g, 0, none⟩) ∧ g < w.heap.size ∧ w.rowAt g = some #[.int .i64 e, .int .i64 f]
theorem FaultAt.below {w w' : World} {p : Value} {e f : Int} (h : FaultAt w p e f) (hb : Below w.heap.size w w') : FaultAt w' p e f := by
  obtain ⟨g, hp, hg, hr⟩ := h
  exact ⟨g, hp, Nat.lt_of_lt_of_le hg hb.size, by rw [rowAt_of_block (hb.block g hg)]; exact hr⟩
theorem breads_take {w : World} {a : Option Addr} {len : Nat} {L : List UInt8} (h : BReads w a len L) (k : Nat) (hk : k ≤ len) : BReads w a k (L.take k) := by
  obtain ⟨h1, h2⟩ := h
  refine ⟨by simp; omega, ?_⟩
  rcases h2 with h2 | ⟨b, off, rfl, hc⟩
  · exact .inl (by omega)
  · refine .inr ⟨b, off, rfl, fun i hi => ?_⟩
    rw [hc i (by omega)]
    congr 2
    unfold byteAt
    simp [List.getD_eq_getElem?_getD, List.getElem?_take_of_lt hi]
theorem BIn.take {w : World} {a : Option Addr} {len cap : Nat} {L : List UInt8} (h : BIn w a len L cap) (k : Nat) (hk : k ≤ len) : BIn w a k (L.take k) cap :=
  ⟨breads_take h.reads k hk, fun e => by have := h.none e; omega, by have := h.small; omega, by have := h.room; omega⟩
theorem fault_here (W : World) (e f : Int) (g : Nat) (hg : g = W.heap.size) : FaultAt (W.alloc (.cells #[.int .i64 e, .int .i64 f] 36)) (.pointer (some ⟨g, 0, none⟩)) e f := by
  subst hg
  exact ⟨_, rfl, by simp, rowAt_alloc_at _ _ _ _ rfl⟩
end Go.Proofs.Ytabjhmblfeoiaaa

/- Contract of apportionkit's OverBytes. -/
import Derived.Test.YtfapldajodobhaaOcwB
import Derived.Test.YtfapldajodobhaaOcuQ
import Derived.LoopN
namespace Go.Proofs.Ytfapldajodobhaa
set_option linter.unusedVariables false
set_option linter.unusedSimpArgs false
open Go.RowKit

theorem xor_byte (z : Nat) (h : z < 256) : ∃ y : Nat, y < 256 ∧ bits .xor .u8 (z : Int) 90 = (y : Int) := by
  refine ⟨((BitVec.ofInt 8 (z : Int)) ^^^ (BitVec.ofInt 8 90)).toNat, BitVec.isLt _, ?_⟩
  show IntKind.u8.wrap ((((BitVec.ofInt 8 (z : Int)) ^^^ (BitVec.ofInt 8 90)).toNat : Nat) : Int) = _
  have hlt := ((BitVec.ofInt 8 (z : Int)) ^^^ (BitVec.ofInt 8 90)).isLt
  generalize ((BitVec.ofInt 8 (z : Int)) ^^^ (BitVec.ofInt 8 90)).toNat = y at *
  simp [IntKind.wrap, IntKind.signed, IntKind.bits]
  omega

/-- Nothing but the row of v has turned. -/
structure Only (v : Value) (w w' : World) : Prop where
  os : w'.os = w.os
  tape : w'.tape = w.tape
  output : w'.output = w.output
  size : w'.heap.size = w.heap.size
  block : ∀ k, v.ownBlock ≠ some k → w'.heap[k]? = w.heap[k]?
theorem Only.refl (v : Value) (w : World) : Only v w w := ⟨rfl, rfl, rfl, rfl, fun _ _ => rfl⟩
theorem Only.setRow {w w' : World} {g n cap : Nat} (h : Only (.slice (some ⟨g, 0, none⟩) n cap) w w') (c : Array Value) : Only (.slice (some ⟨g, 0, none⟩) n cap) w (w'.setRow g c) :=
  ⟨h.os, h.tape, h.output, by simpa using h.size, fun k hk => by rw [setRow_other w' g k c (fun e => hk (by subst e; rfl))]; exact h.block k hk⟩
theorem Only.below {v : Value} {w w' : World} {B : Nat} (h : Only v w w') (hB : ∀ k, v.ownBlock = some k → B ≤ k) : Below B w w' :=
  ⟨h.os, h.tape, h.output, Nat.le_of_eq h.size.symm, fun k hk => h.block k (fun e => by have := hB k e; omega)⟩
theorem BOwns.only {w w' : World} {base : Nat} {v u : Value} {L : List UInt8} (h : BOwns w base u L) (ho : Only v w w') (hne : ∀ k, u.ownBlock = some k → v.ownBlock ≠ some k) : BOwns w' base u L := by
  obtain ⟨h1, h⟩ := h
  refine ⟨h1, ?_⟩
  rcases h with h | ⟨g, cap, cur, hv, hg, hc, h4, h5, h6, h7⟩
  · exact .inl h
  · exact .inr ⟨g, cap, cur, hv, hg, by rw [ho.block g (hne g (by rw [hv]; rfl))]; exact hc, h4, h5, h6, h7⟩
theorem AllBytes.only {w w' : World} {v u : Value} (h : AllBytes w u) (ho : Only v w w') (hne : ∀ k, u.ownBlock = some k → v.ownBlock ≠ some k) : AllBytes w' u := by
  intro g n cap hv
  obtain ⟨cur, hc, hu⟩ := h g n cap hv
  exact ⟨cur, by rw [ho.block g (hne g (by rw [hv]; rfl))]; exact hc, hu⟩
theorem bowns_lt {w : World} {base : Nat} {v : Value} {L : List UInt8} (h : BOwns w base v L) : ∀ k, v.ownBlock = some k → base ≤ k ∧ k < w.heap.size := World.ownsRow.lt h

def OverAt (w : World) (v : Value) (g cap : Nat) (i : Value) (wr : World) : Prop := ∃ (k : Nat) (cur : Array Value), i = .int .i64 (k : Int) ∧ k ≤ cap ∧ wr.rowAt g = some cur ∧ cur.size = cap ∧ (∀ u ∈ cur.toList, IsByte u) ∧ Only v w wr

set_option maxHeartbeats 2000000 in
theorem k_OverBytes (w : World) (base : Nat) (v : Value) (L : List UInt8) (hown : BOwns w base v L) (hall : AllBytes w v) :
    Calls Try.prog 17 #[v] w fun e w' => e = .returned (.tuple #[]) ∧ Only v w w' := by
  obtain ⟨hl, hown⟩ := hown
  rcases hown with ⟨rfl, h0⟩ | ⟨g, cap, cur, rfl, hbg, hg, hnc, hcm, hcs, htake⟩
  · clear hl h0 hall
    go_enter Try.func17, Try.ntmps17
    go_wp2_with fail
    go_loopw [3] (fun i wr => i = .int .i64 0 ∧ wr = w) (fun _ _ => 0)
    case atStart => exact ⟨rfl, rfl⟩
    case round =>
      obtain ⟨rfl, rfl⟩ := hrel
      go_wp2
      go_end0
      exact ⟨rfl, Only.refl _ _⟩
  · obtain ⟨cur2, hg2, hu2⟩ := hall g _ cap rfl
    obtain rfl : cur = cur2 := by rw [hg] at hg2; injection hg2 with h; injection h
    have hrow : w.rowAt g = some cur := by unfold World.rowAt; rw [hg]; rfl
    have hcap : cap ≤ 9223372036854775807 := by unfold maxLen at hcm; omega
    have HB0 := Lib.hid (show cur.size = cap by omega)
    have HR0 := Lib.hid hrow
    have HU0 := Lib.hid hu2
    clear hg hg2 hcs htake hall hl hcm hrow hu2
    go_enter Try.func17, Try.ntmps17
    go_wp2_with fail
    go_loopw [3] (fun i wr => OverAt w (.slice (some ⟨g, 0, none⟩) L.length cap) g cap i wr) (fun i _ => cap - (intOf i).toNat)
    case atStart => exact ⟨0, cur, rfl, Nat.zero_le _, HR0.out, HB0.out, HU0.out, Only.refl _ _⟩
    case round =>
      obtain ⟨k, c, rfl, hk, hrow, hsz, hu, hb⟩ := hrel
      have HB := Lib.hid hb
      clear hb
      by_cases hlt : k < cap
      · obtain ⟨z, hz, hce⟩ := hu c[k] (by simp)
        obtain ⟨y, hy, hxy⟩ := xor_byte z hz
        have hcell := ucell_of_row hrow k
        have hfz := ufrozen_of_row hrow
        rw [Array.getElem?_eq_getElem (by omega), hce] at hcell
        have HS := Lib.hid (usetCell_of_row hrow k (.int .u8 (y : Int)))
        have HR := Lib.hid (rowAt_setRow (c' := c.setIfInBounds k (.int .u8 (y : Int))) hrow)
        have HU := Lib.hid (show ∀ u ∈ (c.setIfInBounds k (.int .u8 (y : Int))).toList, IsByte u by
          intro u hu'
          rw [Array.toList_setIfInBounds] at hu'
          rcases List.mem_or_eq_of_mem_set hu' with h | h
          · exact hu u h
          · exact ⟨y, hy, h⟩)
        have HZ := Lib.hid hsz
        have hlti : (k : Int) < (cap : Int) := by omega
        clear hrow hu hce hsz
        go_wp2_with fail
        go_roundw
        case rel => exact ⟨k + 1, c.setIfInBounds k (.int .u8 (y : Int)), by go_num, by omega, by rw [HS.out]; exact HR.out, by simpa using HZ.out, HU.out, by rw [HS.out]; exact Only.setRow HB.out _⟩
        case measure => simp [intOf]; omega
      · obtain rfl : k = cap := by omega
        go_wp2
        go_end0
        exact ⟨rfl, HB.out⟩
end Go.Proofs.Ytfapldajodobhaa

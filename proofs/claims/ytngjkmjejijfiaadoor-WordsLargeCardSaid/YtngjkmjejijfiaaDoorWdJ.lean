/- The law WordsLarge: Pick; a text as bytes, one of them written, and back. -/
import Derived.Test.YtngjkmjejijfiaaDoorWdF
import Derived.Laws.IdiomStrings
import Derived.Laws.BytesString
namespace Go.Proofs.YtngjkmjejijfiaaDoor
set_option linter.unusedVariables false
set_option linter.unusedSimpArgs false
open Go.RowKit

theorem wd_Pick (w : World) (x n : Int) (hx : -9223372036854775808 ≤ x ∧ x ≤ 9223372036854775807) (hn : -9223372036854775808 ≤ n ∧ n ≤ 9223372036854775807) :
    Calls Tryd.prog 17 #[.int .i64 x, .int .i64 n] w fun e w' => e = .returned (.int .i64 (if n < 1 then 0 else x % n)) ∧ Junk w w' := by
  obtain ⟨x0, x1⟩ := hx
  obtain ⟨n0, n1⟩ := hn
  by_cases c1 : n < 1
  · rw [if_pos c1]
    clear x0 x1 n0 n1
    go_enter Tryd.func17, Tryd.ntmps17
    go_wp2
    go_ret
    exact ⟨rfl, junk_of_below (by (repeat' first | with_reducible (first | apply Below.refl | assumption | apply bw_a | apply bw_d | apply bw_n | apply bw_p | apply bw_c | apply bw_r) | go_size))⟩
  rw [if_neg c1]
  obtain ⟨m, hm⟩ : ∃ m, x.tmod n = m := ⟨_, rfl⟩
  obtain ⟨d, hd⟩ : ∃ d, x % n = d := ⟨_, rfl⟩
  have hnz : n ≠ 0 := by omega
  have hnz2 : (n == 0) = false := beq_eq_false_iff_ne.2 hnz
  have hd0 := Int.emod_nonneg x hnz
  have hd1 := Int.emod_lt_of_pos x (show 0 < n by omega)
  have ht : m = d ∨ (m < 0 ∧ m + n = d) := by
    rw [← hm, ← hd]
    rcases Int.lt_or_le x 0 with h | h
    · by_cases hz : x % n = 0
      · left
        have := Int.dvd_of_emod_eq_zero hz
        rw [hz, Int.tmod_eq_emod]; simp [this, hz]
      · right
        have hnd : ¬ n ∣ x := fun h => hz (Int.emod_eq_zero_of_dvd h)
        have : (n.natAbs : Int) = n := by omega
        rw [Int.tmod_eq_emod, if_neg (by omega), this]
        omega
    · left
      exact Int.tmod_eq_emod_of_nonneg h
  rw [hd] at hd0 hd1 ⊢
  have e1 : x % n = d := hd
  rcases ht with ht | ⟨ht1, ht2⟩
  · subst ht
    clear hd
    go_enter Tryd.func17, Tryd.ntmps17
    go_wp2
    go_ret
    exact ⟨rfl, junk_of_below (by (repeat' first | with_reducible (first | apply Below.refl | assumption | apply bw_a | apply bw_d | apply bw_n | apply bw_p | apply bw_c | apply bw_r) | go_size))⟩
  · have e2 : IntKind.i64.wrap (m + n) = m + n := by simp [IntKind.wrap, IntKind.signed, IntKind.bits]; omega
    clear hd e1
    go_enter Tryd.func17, Tryd.ntmps17
    go_wp2
    go_ret
    exact ⟨rfl, junk_of_below (by (repeat' first | with_reducible (first | apply Below.refl | assumption | apply bw_a | apply bw_d | apply bw_n | apply bw_p | apply bw_c | apply bw_r) | go_size))⟩
/-- .. of a count that is not nought: a place. -/
theorem wd_place (x : Int) (n : Nat) (hx : -9223372036854775808 ≤ x ∧ x ≤ 9223372036854775807) (h0 : 0 < n) (hn : n ≤ 1000) : ∃ j : Nat, j < n ∧ ∀ w, Calls Tryd.prog 17 #[.int .i64 x, .int .i64 (n : Int)] w fun e w' => e = .returned (.int .i64 (j : Int)) ∧ Junk w w' := by
  have h1 := Int.emod_nonneg x (show (n : Int) ≠ 0 by omega)
  have h2 := Int.emod_lt_of_pos x (show 0 < (n : Int) by omega)
  refine ⟨(x % n).toNat, by omega, fun w => ?_⟩
  refine (wd_Pick w x n hx (by omega)).mono ?_
  rintro e w' ⟨rfl, hj⟩
  refine ⟨?_, hj⟩
  rw [if_neg (by omega), show (((x % (n : Int)).toNat : Nat) : Int) = x % n by omega]
/-- A row of bytes in memory. -/
def RowB (g : Nat) (L : List UInt8) (w : World) : Prop :=
  (∀ j, j < L.length → w.cell? ⟨g, j, none⟩ = some (.int .u8 (byteAt L j))) ∧ (∀ j, j < L.length → w.frozen? ⟨g, j, none⟩ = false) ∧ g < w.heap.size
theorem rowb_start (w : World) (L : List UInt8) (cap : Nat) : RowB w.heap.size L (w.drew.alloc (.cells (bytesRow ⟨L.toArray⟩ cap) 5 ((bytesRow ⟨L.toArray⟩ cap).size, (bytesRow ⟨L.toArray⟩ cap).size + 1))) := by
  refine ⟨fun j hj => ?_, fun j hj => ?_, by simp⟩
  · show (w.drew.alloc _).cell? ⟨w.drew.heap.size, j, none⟩ = _
    rw [World.cell?_alloc_mark, bytesRow_at _ _ _ (by simpa using hj)]
    simp [byteAt, List.getD_eq_getElem?_getD, hj]
  · show (w.drew.alloc _).frozen? ⟨w.drew.heap.size, j, none⟩ = _
    rw [World.frozen?_alloc_mark]
    have : j < (bytesRow ⟨L.toArray⟩ cap).size := by unfold bytesRow; simp; omega
    rw [decide_eq_false (by omega)]
    rfl
theorem RowB.below {g : Nat} {L : List UInt8} {w w' : World} (h : RowB g L w) (hb : Below w.heap.size w w') : RowB g L w' :=
  ⟨fun j hj => (World.cell?_of_block (hb.block g h.2.2)).trans (h.1 j hj), fun j hj => (World.frozen?_of_block (hb.block g h.2.2)).trans (h.2.1 j hj), Nat.lt_of_lt_of_le h.2.2 hb.size⟩
theorem rowb_set {g : Nat} {L : List UInt8} {i : Nat} {c : UInt8} {w : World} (h : RowB g L w) (hi : i < L.length) : RowB g (L.set i c) (w.setCell ⟨g, i, none⟩ (.int .u8 (c.toNat : Nat))) := by
  refine ⟨fun j hj => ?_, fun j hj => by rw [World.frozen?_setCell]; exact h.2.1 j (by simpa using hj), by simp; exact h.2.2⟩
  have hj' : j < L.length := by simpa using hj
  by_cases h2 : j = i
  · subst h2
    rw [World.cell?_setCell_same _ _ _ (h.1 j hj')]
    simp [byteAt, List.getD_eq_getElem?_getD, hj']
  · rw [World.cell?_setCell_other (h := fun e => h2 (by injection e with _ e _; exact e.symm)), h.1 j hj']
    have : byteAt (L.set i c) j = byteAt L j := by
      unfold byteAt
      simp [List.getD_eq_getElem?_getD, List.getElem?_set, Ne.symm h2]
    rw [this]
theorem RowB.conv {g : Nat} {L : List UInt8} {w : World} (h : RowB g L w) (hl : L ≠ []) (cap : Nat) : (convert 32 9 (.slice (some ⟨g, 0, none⟩) L.length cap)).run Tryd.prog w = .ok (.string ⟨L.toArray⟩) w := by
  exact run_convert_bytes_back (P := Tryd.prog) w 32 9 5 ⟨g, 0, none⟩ cap L Tryd.underlying32 Tryd.underlying5 Tryd.underlying9 (fun j hj => by
    have e : (⟨g, 0, none⟩ : Addr).add j = ⟨g, j, none⟩ := by unfold Addr.add; split <;> simp_all
    rw [e, h.1 j (by omega)]
    simp [byteAt, List.getD_eq_getElem?_getD, hj])
theorem or_small (c : UInt8) : bits .or .u8 ((c.toNat : Nat) : Int) 32 = (((smallB c).toNat : Nat) : Int) := by
  have h : ∀ n : Nat, n < 256 → bits .or .u8 (n : Int) 32 = (((UInt8.ofNat (n ||| 32)).toNat : Nat) : Int) := by decide +kernel
  exact h c.toNat (UInt8.toNat_lt c)
/-- What is told of a word, a letter of it made small, a blank behind it, ahead of it. -/
theorem large_at {k : Int} {p : Wd} (hp : p ∈ wdT k) {i : Nat} (hi : i < p.1.length) :
    (p.1.set i (smallB (p.1.getD i 0)) = p.1 ∨ shortW (wdT k) (p.1.set i (smallB (p.1.getD i 0))) = none) ∧ shortW (wdT k) (p.1 ++ [32]) = none ∧ shortW (wdT k) (32 :: p.1) = none := by
  have h := List.all_eq_true.1 (large_all k) p hp
  simp only [Bool.and_eq_true, decide_eq_true_eq, List.all_eq_true, Bool.or_eq_true, List.mem_range] at h
  exact ⟨h.1.1 i hi, h.1.2, h.2⟩
end Go.Proofs.YtngjkmjejijfiaaDoor

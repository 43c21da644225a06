/- Contracts of token's Upper and of apportionref15's word, kind, next. -/
import Derived.Test.YtpoahdfhhnlghaaTkA
namespace Go.Proofs.Ytpoahdfhhnlghaa
set_option linter.unusedVariables false
set_option linter.unusedSimpArgs false
open Go.RowKit

/-- A new row of bytes whose first ones are capital letters already. -/
def UpB (g : Nat) (L : List UInt8) (k : Nat) (w : World) : Prop :=
  (∀ j, j < L.length → w.cell? ⟨g, j, none⟩ = some (.int .u8 ((if j < k then upN (byteAt L j) else byteAt L j : Nat) : Int))) ∧ (∀ j, j < L.length → w.frozen? ⟨g, j, none⟩ = false) ∧ g < w.heap.size
theorem up_start (w : World) (L : List UInt8) (cap : Nat) : UpB w.heap.size L 0 (w.drew.alloc (.cells (bytesRow ⟨L.toArray⟩ cap) 5 ((bytesRow ⟨L.toArray⟩ cap).size, (bytesRow ⟨L.toArray⟩ cap).size + 1))) := by
  refine ⟨fun j hj => ?_, fun j hj => ?_, by simp⟩
  · show (w.drew.alloc _).cell? ⟨w.drew.heap.size, j, none⟩ = _
    rw [World.cell?_alloc_mark, bytesRow_at _ _ _ (by simpa using hj), if_neg (by omega)]
    simp [byteAt, List.getD_eq_getElem?_getD, hj]
  · show (w.drew.alloc _).frozen? ⟨w.drew.heap.size, j, none⟩ = _
    rw [World.frozen?_alloc_mark]
    have : j < (bytesRow ⟨L.toArray⟩ cap).size := by unfold bytesRow; simp; omega
    rw [decide_eq_false (by omega)]
    rfl
theorem up_same {g : Nat} {L : List UInt8} {k : Nat} {w : World} (h : UpB g L k w) (e : upN (byteAt L k) = byteAt L k) : UpB g L (k + 1) w := by
  refine ⟨fun j hj => ?_, h.2⟩
  rw [h.1 j hj]
  by_cases h1 : j < k
  · rw [if_pos h1, if_pos (by omega)]
  · by_cases h2 : j = k
    · subst h2; rw [if_neg h1, if_pos (by omega), e]
    · rw [if_neg h1, if_neg (by omega)]
theorem up_set {g : Nat} {L : List UInt8} {k : Nat} {w : World} (h : UpB g L k w) (hk : k < L.length) : UpB g L (k + 1) (w.setCell ⟨g, k, none⟩ (.int .u8 (upN (byteAt L k) : Nat))) := by
  refine ⟨fun j hj => ?_, fun j hj => by rw [World.frozen?_setCell]; exact h.2.1 j hj, by simp; exact h.2.2⟩
  by_cases h2 : j = k
  · subst h2
    rw [World.cell?_setCell_same _ _ _ (h.1 j hj), if_pos (by omega)]
  · rw [World.cell?_setCell_other (h := fun e => h2 (by injection e with _ e _; exact e.symm)), h.1 j hj]
    by_cases h1 : j < k
    · rw [if_pos h1, if_pos (by omega)]
    · rw [if_neg h1, if_neg (by omega)]
theorem up_reads {g : Nat} {L : List UInt8} {w : World} (h : UpB g L L.length w) : BReads w (some ⟨g, 0, none⟩) L.length (L.map upB) := by
  refine ⟨by simp, ?_⟩
  refine .inr ⟨g, 0, rfl, fun i hi => ?_⟩
  rw [Nat.zero_add, h.1 i hi, if_pos hi]
  have : byteAt (L.map upB) i = upN (byteAt L i) := by
    unfold byteAt
    rw [← up_n]
    simp [List.getD_eq_getElem?_getD, hi]
  rw [this]
set_option maxRecDepth 100000 in
set_option maxHeartbeats 1000000 in
theorem n_tkUpper (L : List UInt8) (w : World) (hl : L.length ≤ 1099511627776) :
    Calls Try.prog 14 #[.string ⟨L.toArray⟩] w fun e w' => e = .returned (.string ⟨(L.map upB).toArray⟩) ∧ Junk w w' := by
  have HS := Lib.hid (fun cap => up_start w L cap)
  go_enter Try.func14, Try.ntmps14
  go_wp2_with fail
  rw [run_bytes_of_string _ 9 42 5 _ Try.underlying9 Try.underlying42 Try.underlying5]
  simp only [Result.andThen]
  rw [Oper.upon_value]
  have hsz : (⟨L.toArray⟩ : ByteArray).size = L.length := by simp [ByteArray.size]
  rw [hsz]
  have HS1 := HS.out (grownCap w L.length 0 5)
  generalize grownCap w L.length 0 5 = cap at *
  have hb1 : Below w.heap.size w (w.drew.alloc (.cells (bytesRow ⟨L.toArray⟩ cap) 5 ((bytesRow ⟨L.toArray⟩ cap).size, (bytesRow ⟨L.toArray⟩ cap).size + 1))) := by (repeat' first | with_reducible (first | apply Below.refl | assumption | apply bw_a | apply bw_d | apply bw_n | apply bw_p | apply bw_c | apply bw_r) | go_size)
  generalize w.drew.alloc (.cells (bytesRow ⟨L.toArray⟩ cap) 5 ((bytesRow ⟨L.toArray⟩ cap).size, (bytesRow ⟨L.toArray⟩ cap).size + 1)) = w1 at *
  have HS1 := Lib.hid HS1
  have HB1 := Lib.hid hb1
  generalize hg : w.heap.size = g at *
  have HG := Lib.hid hg
  clear HS hb1 hsz hg
  go_wp2_with fail
  go_loopw [10, 4, 5] (fun i _ _ wr => ∃ k : Nat, i = .int .i64 (k : Int) ∧ k ≤ L.length ∧ UpB g L k wr ∧ Below g w wr) (fun i _ _ _ => L.length - (intOf i).toNat)
  case atStart => exact ⟨0, rfl, Nat.zero_le _, HS1.out, HB1.out⟩
  case round =>
    obtain ⟨k, rfl, hk, hu, hb⟩ := hrel
    have HU := Lib.hid hu; have HB := Lib.hid hb
    clear hu hb
    by_cases hlt : k < L.length
    · have c0 := HU.out.1 k hlt
      rw [if_neg (Nat.lt_irrefl _)] at c0
      have f0 := HU.out.2.1 k hlt
      have hgs := HU.out.2.2
      have hB := byte_lt L k
      have h : (byteAt L k < 97) ∨ (97 ≤ byteAt L k ∧ byteAt L k ≤ 122) ∨ 122 < byteAt L k := by omega
      rcases h with h | ⟨h, h2⟩ | h
      · have HE := Lib.hid (up_same HU.out (by unfold upN; rw [if_neg (by omega)]))
        generalize byteAt L k = c at *
        go_wp2
        go_roundw
        case rel => exact ⟨k + 1, by go_num, by omega, HE.out, HB.out⟩
        case measure => simp [intOf]; omega
      · have HE := Lib.hid (up_set HU.out hlt)
        have e : upN (byteAt L k) = byteAt L k - 32 := by unfold upN; rw [if_pos ⟨h, h2⟩]
        rw [e] at HE
        have e1 : IntKind.u8.wrap ((byteAt L k : Int) - 97) = ((byteAt L k - 97 : Nat) : Int) := by simp [IntKind.wrap, IntKind.signed, IntKind.bits]; omega
        have e2 : IntKind.u8.wrap (((byteAt L k - 97 : Nat) : Int) + 65) = ((byteAt L k - 32 : Nat) : Int) := by simp [IntKind.wrap, IntKind.signed, IntKind.bits]; omega
        generalize ((byteAt L k - 97 : Nat) : Int) = x at *
        generalize ((byteAt L k - 32 : Nat) : Int) = y at *
        generalize byteAt L k = c at *
        clear e
        go_wp2
        go_roundw
        case rel => exact ⟨k + 1, by go_num, by omega, HE.out, HB.out.setCell (Nat.le_refl _) _⟩
        case measure => simp [intOf]; omega
      · have HE := Lib.hid (up_same HU.out (by unfold upN; rw [if_neg (by omega)]))
        generalize byteAt L k = c at *
        go_wp2
        go_roundw
        case rel => exact ⟨k + 1, by go_num, by omega, HE.out, HB.out⟩
        case measure => simp [intOf]; omega
    · obtain rfl : k = L.length := by omega
      have HC := Lib.hid (conv_row (cap := cap) (up_reads HU.out))
      obtain ⟨U, hU⟩ : ∃ U, L.map upB = U := ⟨_, rfl⟩
      have HU := Lib.hid hU
      rw [hU] at HC
      clear hU
      go_wp2_with fail
      rw [HC.out]
      simp only [Result.andThen]
      rw [Oper.upon_value]
      go_wp2
      go_ret
      exact ⟨by rw [HU.out]; rfl, junk_of_below (by rw [HG.out]; exact HB.out)⟩
end Go.Proofs.Ytpoahdfhhnlghaa

/- Contracts of apportionkit's LentInts, KeptInts. -/
import Derived.Test.YtabjhmblfeoiaaaIRow
import Derived.Test.YtabjhmblfeoiaaaKitA
import Derived.Test.YtabjhmblfeoiaaaQGuard
namespace Go.Proofs.Ytabjhmblfeoiaaa
set_option linter.unusedVariables false
set_option linter.unusedSimpArgs false
open Go.RowKit

theorem icopy_none (W : World) (g n : Nat) : (Builtin.copy_ #[22, 22] 3 #[.slice (some ⟨g, 0, none⟩) n n, .slice none 0 0]).run Try.prog W = .ok (goInt 0) W := by
  obtain ⟨i, hi, hz, hs, hb⟩ := info_int
  simp [Builtin.copy_, run_underlying Try.underlying22, Builtin.lenOf, Builtin.firstCells, storeCells, Nat.min, Result.andThen]

/-- What lies in a lent copy. -/
def lentI (L : List Int) (i : Nat) : Int := if i < L.length then L.getD i 0 else -77 - (i : Int)

/-- What is laid before place k. -/
def fillI (L : List Int) (k j : Nat) : Int := if j < k then lentI L j else 0
theorem ifill_start (L : List Int) (n : Nat) : irow (copyI L) n = irow (fillI L L.length) n := by
  refine irow_congr fun i _ => ?_
  unfold fillI lentI copyI
  by_cases h : i < L.length
  · rw [if_pos h, if_pos h]
  · rw [if_neg h]; simp [List.getD_eq_getElem?_getD, h]
theorem ifill_step (L : List Int) (n k : Nat) (hk : L.length ≤ k) : (irow (fillI L k) n).setIfInBounds k (.int .i64 (-77 - (k : Int))) = irow (fillI L (k + 1)) n := by
  rw [irow_set]
  refine irow_congr fun i _ => ?_
  unfold fillI
  by_cases h : i = k
  · subst h
    rw [if_pos rfl, if_pos (by omega)]
    unfold lentI
    rw [if_neg (by omega)]
  · rw [if_neg h]
    by_cases h2 : i < k
    · rw [if_pos h2, if_pos (by omega)]
    · rw [if_neg h2, if_neg (by omega)]
theorem ifill_end (L : List Int) (n : Nat) : irow (fillI L n) n = irow (lentI L) n := by
  refine irow_congr fun i hi => ?_
  unfold fillI
  rw [if_pos hi]

set_option maxHeartbeats 2000000 in
theorem k_LentInts (w : World) (a : Option Addr) (len cap : Nat) (L : List Int) (hR : Reads w a len L) (hn : a = none → len = 0 ∧ cap = 0) (hs : len ≤ 1048576) :
    Calls Try.prog 11 #[.slice a len cap] w fun e w' => e = .returned (.slice (some ⟨w.heap.size, 0, none⟩) len (len + 3)) ∧ ∃ d, w' = (w.alloc (.cells (irow (lentI L) (len + 3)) 3)).drewN d := by
  have hL := hR.1
  subst hL
  have hmk := made_irow (L.length + 3) (by omega)
  rw [show ((L.length + 3 : Nat) : Int) = (L.length : Int) + 3 by omega] at hmk
  rcases a with _ | ad
  · obtain ⟨h0, rfl⟩ := hn rfl
    obtain rfl : L = [] := List.eq_nil_of_length_eq_zero h0
    have hm3 : ∀ w, (Instr.makeSlice 22 (.int .i64 3) (.int .i64 3)).run Try.prog w = .ok (.slice (some ⟨w.heap.size, 0, none⟩) 3 3) (w.alloc (.cells (irow (fun _ => 0) 3) 3)) := made_irow 3 (by omega)
    have hcn := fun W => icopy_none W w.heap.size 3
    clear hmk
    go_enter Try.func11, Try.ntmps11
    go_wp2_with fail
    rw [show irow (fun _ => 0) 3 = irow (fillI [] 0) 3 from irow_congr fun i _ => by unfold fillI; rw [if_neg (by omega)]]
    clear hm3 hcn
    go_loopw [4] (fun i wr => ∃ k : Nat, i = .int .i64 (k : Int) ∧ k ≤ 3 ∧ wr = w.alloc (.cells (irow (fillI [] k) 3) 3)) (fun i _ => 3 - (intOf i).toNat)
    case atStart => exact ⟨0, rfl, by omega, rfl⟩
    case round =>
      obtain ⟨k, rfl, k1, rfl⟩ := hrel
      by_cases hlt : k < 3
      · have HF := Lib.hid (ifill_step [] 3 k (Nat.zero_le _))
        go_wp2_with fail
        go_roundw
        case rel => exact ⟨k + 1, by go_num, by omega, by rw [← HF.out]⟩
        case measure => simp [intOf]; omega
      · obtain rfl : k = 3 := by omega
        go_wp2_with fail
        go_ret
        exact ⟨rfl, 0, by rw [ifill_end]; rfl⟩
  · have hcp := copied_ints w (L.length + 3) ad L cap (by omega) hR
    go_enter Try.func11, Try.ntmps11
    go_wp2_with fail
    rw [ifill_start]
    clear hcp hmk
    go_loopw [4] (fun i wr => ∃ k : Nat, i = .int .i64 (k : Int) ∧ L.length ≤ k ∧ k ≤ L.length + 3 ∧ wr = w.alloc (.cells (irow (fillI L k) (L.length + 3)) 3)) (fun i _ => L.length + 3 - (intOf i).toNat)
    case atStart => exact ⟨L.length, rfl, Nat.le_refl _, by omega, rfl⟩
    case round =>
      obtain ⟨k, rfl, k0, k1, rfl⟩ := hrel
      by_cases hlt : k < L.length + 3
      · have HF := Lib.hid (ifill_step L (L.length + 3) k k0)
        go_wp2_with fail
        go_roundw
        case rel => exact ⟨k + 1, by go_num, by omega, by omega, by rw [← HF.out]⟩
        case measure => simp [intOf]; omega
      · obtain rfl : k = L.length + 3 := by omega
        go_wp2_with fail
        go_ret
        exact ⟨rfl, 0, by rw [ifill_end]; rfl⟩
end Go.Proofs.Ytabjhmblfeoiaaa

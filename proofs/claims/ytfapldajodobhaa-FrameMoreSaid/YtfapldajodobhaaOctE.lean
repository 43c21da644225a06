/- Contracts of apportionkit's LentBytes, KeptBytes. -/
import Derived.Test.YtfapldajodobhaaURow
import Derived.Test.YtfapldajodobhaaOctK
namespace Go.Proofs.Ytfapldajodobhaa
set_option linter.unusedVariables false
set_option linter.unusedSimpArgs false
open Go.RowKit

theorem copy_none (W : World) (g n : Nat) : (Builtin.copy_ #[22, 22] 3 #[.slice (some ⟨g, 0, none⟩) n n, .slice none 0 0]).run Try.prog W = .ok (goInt 0) W := by
  obtain ⟨i, hi, hz, hs, hb⟩ := info_u8
  simp [Builtin.copy_, run_underlying Try.underlying22, Builtin.lenOf, Builtin.firstCells, storeCells, Nat.min, Result.andThen]

/-- What lies in a lent copy. -/
def lentF (L : List UInt8) (i : Nat) : Nat := if i < L.length then byteAt L i else (160 + i % 90) % 256

/-- What is laid before place k. -/
def fillF (L : List UInt8) (k j : Nat) : Nat := if j < k then lentF L j else 0
theorem fill_start (L : List UInt8) (n : Nat) : urow (fun i => byteAt L i) n = urow (fillF L L.length) n := by
  refine urow_congr fun i _ => ?_
  unfold fillF lentF
  by_cases h : i < L.length
  · rw [if_pos h, if_pos h]
  · rw [if_neg h]; unfold byteAt; simp [List.getD_eq_getElem?_getD, h]
theorem fill_step (L : List UInt8) (n k : Nat) (hk : L.length ≤ k) : (urow (fillF L k) n).setIfInBounds k (.int .u8 (((160 + k % 90) % 256 : Nat) : Int)) = urow (fillF L (k + 1)) n := by
  rw [urow_set]
  refine urow_congr fun i _ => ?_
  unfold fillF
  by_cases h : i = k
  · subst h
    rw [if_pos rfl, if_pos (by omega)]
    unfold lentF
    rw [if_neg (by omega)]
  · rw [if_neg h]
    by_cases h2 : i < k
    · rw [if_pos h2, if_pos (by omega)]
    · rw [if_neg h2, if_neg (by omega)]
theorem fill_end (L : List UInt8) (n : Nat) : urow (fillF L n) n = urow (lentF L) n := by
  refine urow_congr fun i hi => ?_
  unfold fillF
  rw [if_pos hi]

set_option maxHeartbeats 2000000 in
theorem k_LentBytes (w : World) (a : Option Addr) (len cap : Nat) (L : List UInt8) (h : BIn w a len L cap) (hs : len ≤ 1048576) :
    Calls Try.prog 11 #[.slice a len cap] w fun e w' => e = .returned (.slice (some ⟨w.heap.size, 0, none⟩) len (len + 3)) ∧ ∃ d, w' = (w.alloc (.cells (urow (lentF L) (len + 3)) 5)).drewN d := by
  obtain ⟨hR, hn, _, _⟩ := h
  have hL := hR.1
  subst hL
  have hmk := made_bytes (L.length + 3) (by omega)
  rw [show ((L.length + 3 : Nat) : Int) = (L.length : Int) + 3 by omega] at hmk
  rcases a with _ | ad
  · obtain ⟨h0, rfl⟩ := hn rfl
    obtain rfl : L = [] := List.eq_nil_of_length_eq_zero h0
    have hm3 : ∀ w, (Instr.makeSlice 22 (.int .i64 3) (.int .i64 3)).run Try.prog w = .ok (.slice (some ⟨w.heap.size, 0, none⟩) 3 3) (w.alloc (.cells (urow (fun _ => 0) 3) 5)) := made_bytes 3 (by omega)
    have hcn := fun W => copy_none W w.heap.size 3
    clear hmk
    go_enter Try.func11, Try.ntmps11
    go_wp2_with fail
    rw [show urow (fun _ => 0) 3 = urow (fillF [] 0) 3 from urow_congr fun i _ => by unfold fillF; rw [if_neg (by omega)]]
    clear hm3 hcn
    go_loopw [4] (fun i wr => ∃ k : Nat, i = .int .i64 (k : Int) ∧ k ≤ 3 ∧ wr = w.alloc (.cells (urow (fillF [] k) 3) 5)) (fun i _ => 3 - (intOf i).toNat)
    case atStart => exact ⟨0, rfl, by omega, rfl⟩
    case round =>
      obtain ⟨k, rfl, k1, rfl⟩ := hrel
      by_cases hlt : k < 3
      · obtain ⟨c, hc⟩ : ∃ c, k % 90 = c := ⟨_, rfl⟩
        have HF := Lib.hid (fill_step [] 3 k (Nat.zero_le _))
        rw [hc] at HF
        obtain ⟨b, hb⟩ : ∃ b, (160 + c) % 256 = b := ⟨_, rfl⟩
        rw [hb] at HF
        have e1 : (k : Int) % 90 = (c : Int) := by omega
        have e2 : (k : Int).tmod 90 = (c : Int) := by rw [Int.tmod_eq_emod_of_nonneg (by omega)]; omega
        have c1 : c < 90 := by omega
        have e3 : IntKind.u8.wrap (160 + (c : Int)) = (b : Int) := by simp [IntKind.wrap, IntKind.signed, IntKind.bits]; omega
        clear hc hb
        go_wp2_with fail
        go_roundw
        case rel => exact ⟨k + 1, by go_num, by omega, by rw [← HF.out]⟩
        case measure => simp [intOf]; omega
      · obtain rfl : k = 3 := by omega
        go_wp2_with fail
        go_ret
        exact ⟨rfl, 0, by rw [fill_end]; rfl⟩
  · have hcp := copied_bytes w (L.length + 3) ad L cap (by omega) hR
    go_enter Try.func11, Try.ntmps11
    go_wp2_with fail
    rw [fill_start]
    clear hcp hmk
    go_loopw [4] (fun i wr => ∃ k : Nat, i = .int .i64 (k : Int) ∧ L.length ≤ k ∧ k ≤ L.length + 3 ∧ wr = w.alloc (.cells (urow (fillF L k) (L.length + 3)) 5)) (fun i _ => L.length + 3 - (intOf i).toNat)
    case atStart => exact ⟨L.length, rfl, Nat.le_refl _, by omega, rfl⟩
    case round =>
      obtain ⟨k, rfl, k0, k1, rfl⟩ := hrel
      by_cases hlt : k < L.length + 3
      · obtain ⟨c, hc⟩ : ∃ c, k % 90 = c := ⟨_, rfl⟩
        have HF := Lib.hid (fill_step L (L.length + 3) k k0)
        rw [hc] at HF
        obtain ⟨b, hb⟩ : ∃ b, (160 + c) % 256 = b := ⟨_, rfl⟩
        rw [hb] at HF
        have e1 : (k : Int) % 90 = (c : Int) := by omega
        have e2 : (k : Int).tmod 90 = (c : Int) := by rw [Int.tmod_eq_emod_of_nonneg (by omega)]; omega
        have c1 : c < 90 := by omega
        have e3 : IntKind.u8.wrap (160 + (c : Int)) = (b : Int) := by simp [IntKind.wrap, IntKind.signed, IntKind.bits]; omega
        clear hc hb
        go_wp2_with fail
        go_roundw
        case rel => exact ⟨k + 1, by go_num, by omega, by omega, by rw [← HF.out]⟩
        case measure => simp [intOf]; omega
      · obtain rfl : k = L.length + 3 := by omega
        go_wp2_with fail
        go_ret
        exact ⟨rfl, 0, by rw [fill_end]; rfl⟩
end Go.Proofs.Ytfapldajodobhaa

/- Contracts of the laws' empty and awake. -/
import Derived.Test.YtfapldajodobhaaFrG
import Derived.Test.YtfapldajodobhaaFrK
import Derived.Lib.SmallJoins
namespace Go.Proofs.Ytfapldajodobhaa
set_option linter.unusedVariables false
set_option linter.unusedSimpArgs false
open Go.RowKit

def emptyL : List UInt8 := [0, 0, 0, 0, 255, 255, 255, 255, 0, 0, 0, 0]
def emptyC : Array Value := #[.int .u8 0, .int .u8 0, .int .u8 0, .int .u8 0, .int .u8 255, .int .u8 255, .int .u8 255, .int .u8 255, .int .u8 0, .int .u8 0, .int .u8 0, .int .u8 0]
theorem emptyC_eq : emptyC = (bcells emptyL).toArray := rfl
theorem empty_frame : frameF [] = emptyL := by decide
theorem sum_digits : sumF [49, 50, 51, 52, 53, 54, 55, 56, 57] = 3421780262 := by kernel_rfl

theorem full_cells (w : World) (L : List UInt8) (hl : L.length ≤ 1099511627776) : BFull (w.alloc (.cells (bcells L).toArray 5)) w.heap.size (.slice (some ⟨w.heap.size, 0, none⟩) L.length L.length) L := by
  refine ⟨⟨by simp, .inr ⟨w.heap.size, L.length, (bcells L).toArray, rfl, Nat.le_refl _, World.alloc_heap_new _ _, Nat.le_refl _, by unfold maxLen; omega, by simp, ?_⟩⟩, allbytes_new w _ _ _ (by simpa using bcells_byte L)⟩
  rw [Nat.mul_one, List.take_of_length_le (by simp)]

theorem l_empty (w : World) : Calls Try.prog 26 #[] w fun e w' => e = .returned (.slice (some ⟨w.heap.size, 0, none⟩) 12 12) ∧ w' = w.alloc (.cells emptyC 5) := by
  go_enter Try.func26, Try.ntmps26
  go_wp2
  go_ret
  exact ⟨rfl, rfl⟩
theorem empty_full (w : World) : BFull (w.alloc (.cells emptyC 5)) w.heap.size (.slice (some ⟨w.heap.size, 0, none⟩) 12 12) emptyL := full_cells w emptyL (by decide)

theorem digits_reads (w : World) (fr : Nat × Nat) (g : Nat) (hg : g = w.heap.size) : BReads (w.alloc (.cells #[.int .u8 49, .int .u8 50, .int .u8 51, .int .u8 52, .int .u8 53, .int .u8 54, .int .u8 55, .int .u8 56, .int .u8 57] 5 fr)) (some ⟨g, 0, none⟩) 9 [49, 50, 51, 52, 53, 54, 55, 56, 57] := by
  subst hg
  refine ⟨rfl, .inr ⟨w.heap.size, 0, rfl, fun i hi => ?_⟩⟩
  have hh := World.alloc_heap_new w (.cells #[.int .u8 49, .int .u8 50, .int .u8 51, .int .u8 52, .int .u8 53, .int .u8 54, .int .u8 55, .int .u8 56, .int .u8 57] 5 fr)
  unfold World.cell?
  rw [hh]
  have : i = 0 ∨ i = 1 ∨ i = 2 ∨ i = 3 ∨ i = 4 ∨ i = 5 ∨ i = 6 ∨ i = 7 ∨ i = 8 := by omega
  rcases this with rfl | rfl | rfl | rfl | rfl | rfl | rfl | rfl | rfl <;> rfl
theorem awake_scan : scanF (emptyL ++ emptyL.take 7) = ([[]], emptyL.take 7) := by
  have h := scan_frames [[]] (emptyL.take 7) (by simp)
  have e : framesF [[]] = emptyL := by rw [← empty_frame]; rfl
  rw [e] at h
  rw [h, scan_none (by decide)]
  rfl

set_option maxRecDepth 100000 in
set_option maxHeartbeats 4000000 in
theorem l_awake (w : World) : Calls Try.prog 19 #[] w fun e w' => e = .returned (.bool true) ∧ Junk w w' := by
  have HP := Lib.hid (fun w' => n_frPut w' none 0 0 [] ⟨⟨rfl, .inl rfl⟩, (fun _ => ⟨rfl, rfl⟩), by omega, by omega⟩ (by omega))
  have HE := Lib.hid l_empty
  have HSc := Lib.hid (fun w' a len cap L h => n_Scan w' a len cap L h)
  have HSame := Lib.hid (fun w' a b n m ca cb L M h1 h2 => k_SameBytes w' a b n m ca cb L M h1 h2)
  have HSum := Lib.hid (fun w' a len cap L h hl => n_Sum w' a len cap L h hl)
  go_enter Try.func19, Try.ntmps19
  go_wp2_with fail
  refine (HP.out _).mono ?_
  rintro e w1 ⟨v1, rfl, ho1, ha1, hj1⟩
  rw [empty_frame] at ho1
  obtain ⟨a1, c1, e1, hB1⟩ := bin_of_owns ho1 (by decide)
  rw [show emptyL.length = 12 from rfl] at e1 hB1
  subst e1
  have hb1 := hj1.below
  clear ho1 ha1 hj1 HP
  go_wp2_with fail
  refine (HE.out _).mono ?_
  rintro e w2 ⟨rfl, rfl⟩
  go_wp2_with fail
  refine (HE.out _).mono ?_
  rintro e w2 ⟨rfl, rfl⟩
  have hF2 := (empty_full w1).keeps (keeps_below ((Below.refl _ (w1.alloc (.cells emptyC 5))).alloc (Nat.le_refl _) (.cells emptyC 5)) _ _)
  have HF2 := Lib.hid hF2
  have hR2 : BReads ((w1.alloc (.cells emptyC 5)).alloc (.cells emptyC 5)) (some ⟨w1.heap.size + 1, 0, none⟩) 7 (emptyL.take 7) := by
    have h := breads_here (empty_full (w1.alloc (.cells emptyC 5))).1
    rw [World.size_alloc] at h
    refine ⟨rfl, .inr ⟨w1.heap.size + 1, 0, rfl, fun i hi => ?_⟩⟩
    rcases h.2 with h0 | ⟨b, off, he, hc⟩
    · cases h0
    · injection he with he; injection he with he1 he2 _
      subst he1; subst he2
      rw [hc i (by omega)]
      congr 2
      unfold byteAt
      simp [List.getD_eq_getElem?_getD, List.getElem?_take_of_lt hi]
  have HR2 := Lib.hid hR2
  have hb2 : Below w.heap.size w ((w1.alloc (.cells emptyC 5)).alloc (.cells emptyC 5)) := (hb1.alloc hb1.size _).alloc (by have := hb1.size; simp; omega) _
  have hB2 := Lib.hid (hB1.below (((Below.refl _ w1).alloc (Nat.le_refl _) (.cells emptyC 5)).alloc (by simp) (.cells emptyC 5)))
  have hnn : ∀ {g o n m : Nat}, (some ⟨g, o, none⟩ : Option Addr) = none → n = 0 ∧ m = 0 := fun h => by cases h
  rw [World.size_alloc]
  clear hF2 hR2
  go_wp2_with (at_builtin; refine wpList_bapp rfl _ _ rfl w1.heap.size _ emptyL rfl HF2.out.1 (some ⟨w1.heap.size + 1, 0, none⟩) 7 12 (emptyL.take 7) rfl hnn HR2.out (by decide) (by simp; omega) ?_; intro v3 w3 ho3 hg3; obtain ⟨a3, c3, e3, hB3⟩ := bin_of_owns ho3 (by decide); rw [show (emptyL ++ emptyL.take 7).length = 19 from rfl] at e3 hB3; subst e3)
  have hb3 := hb2.grown hg3 hb2.size (fun k hk => Nat.le_trans hb1.size (HF2.out.1.block k hk))
  have HB3 := Lib.hid (hB1.below (Below.grown (((Below.refl w1.heap.size w1).alloc (Nat.le_refl _) (.cells emptyC 5)).alloc (by simp) (.cells emptyC 5)) hg3 (by simp; omega) (fun k hk => HF2.out.1.block k hk)))
  refine (HSc.out _ a3 19 c3 _ hB3).mono ?_
  rintro e w4 ⟨⟨v4, ps, he, hps, hlo⟩, hj4⟩
  rw [awake_scan] at he hps
  rw [show (emptyL ++ emptyL.take 7).length - ([([] : List UInt8)], emptyL.take 7).2.length = 12 from rfl, show stateF ([([] : List UInt8)], emptyL.take 7).2 = 1 by decide] at he
  subst he
  obtain ⟨p, rfl⟩ : ∃ p, ps = [p] := by
    cases ps with
    | nil => cases hps
    | cons p qs => cases qs with
      | nil => exact ⟨p, rfl⟩
      | cons q rs => exact absurd (congrArg List.length hps) (by simp)
  have hp2 : p.2 = [] := by simpa using hps
  obtain ⟨aS, cS, rfl, hLin⟩ := lin_of_owns hlo (by simp) (by intro q hq; rw [List.mem_singleton.1 hq, hp2]; simp)
  rcases hLin.cells with h0 | ⟨bS, oS, rfl, hcS⟩
  · cases h0
  obtain ⟨a5, n5, c5, q5, hB5⟩ := hcS 0 p.2 rfl
  have hn5 := hB5.reads.1
  rw [hp2] at hn5
  subst hn5
  rw [show oS + 0 = oS from rfl, show ([] : List UInt8).length = 0 from rfl] at q5
  have hbS : bS < w4.heap.size := World.block_lt_of_cell? _ _ q5
  rw [show ([p] : List (Value × List UInt8)).length = 1 from rfl]
  have hb4 := hb3.trans (hj4.below.mono hb3.size)
  have HB4 := Lib.hid (HB3.out.below hj4.below)
  clear hcS hLin hlo hps hB5 hB3 hg3 hB1
  go_wp2_with (first
    | (go_at_call 26; refine (HE.out _).mono ?_; rintro e w5 ⟨rfl, rfl⟩)
    | (go_at_call 14; refine (HSame.out _ _ _ _ _ _ _ _ _ (HB4.out.reads.below (by (repeat' (first | (with_reducible exact Below.refl _ _) | (with_reducible assumption) | (with_reducible refine Below.alloc ?_ ?_ _) | (with_reducible refine Below.drew ?_) | (with_reducible refine below_drewN ?_ _) | (with_reducible refine below_plus ?_ ?_ _ _) | (with_reducible refine Below.setCell ?_ ?_ _) | (with_reducible refine Below.setRow ?_ ?_ _) | go_size)))) (breads_here (empty_full _).1)).mono ?_; rintro e w6 ⟨rfl, J6, d6, rfl⟩))
  rw [Joins.run_convert_bytes_const_at _ 22 5 _ _ _ _ (by simp) Try.underlying22 Try.underlying5]
  simp only [Result.andThen]
  rw [Oper.upon_value]
  go_wp2_with (go_at_call 15; refine (HSum.out _ _ _ _ _ (digits_reads _ _ _ (by simp)) (by decide)).mono ?_; rw [sum_digits]; rintro e w7 ⟨rfl, J7, d7, rfl⟩)
  go_ret
  exact ⟨rfl, junk_of_below (hb4.trans ((show Below w4.heap.size w4 _ by (repeat' (first | (with_reducible exact Below.refl _ _) | (with_reducible assumption) | (with_reducible refine Below.alloc ?_ ?_ _) | (with_reducible refine Below.drew ?_) | (with_reducible refine below_drewN ?_ _) | (with_reducible refine below_plus ?_ ?_ _ _) | (with_reducible refine Below.setCell ?_ ?_ _) | (with_reducible refine Below.setRow ?_ ?_ _) | go_size))).mono hb4.size))⟩
end Go.Proofs.Ytfapldajodobhaa

/- The law OctetNone: a reader that is none reads nothing. -/
import Derived.Test.YtabjhmblfeoiaaaOcuW
import Derived.LoopN
namespace Go.Proofs.Ytabjhmblfeoiaaa
set_option linter.unusedVariables false
set_option linter.unusedSimpArgs false
open Go.RowKit

/-- The two readers that are none. -/
def noneV (b k : Nat) : Value := if k = 0 then .pointer none else .pointer (some ⟨b, 0, none⟩)
def NoneAt (w0 : World) (i : Value) (wr : World) : Prop := ∃ k : Nat, i = .int .i64 (k : Int) ∧ k ≤ 2 ∧ Below w0.heap.size w0 wr
theorem noneV_ptr (b k : Nat) : ∃ p, noneV b k = .pointer p := by
  unfold noneV
  by_cases h : k = 0
  · exact ⟨_, if_pos h⟩
  · exact ⟨_, if_neg h⟩

set_option maxRecDepth 100000 in
set_option maxHeartbeats 16000000 in
theorem l_octetNone (lo hi : Int) (w : World) : Calls Try.prog 6 #[.int .i64 lo, .int .i64 hi] w fun e w' => e = .returned (.bool true) ∧ Junk w w' := by
  have HA := Lib.hid (fun w => l_awake w)
  have HI := Lib.hid (fun W v h => n_Int_none W v lo hi h)
  have HT := Lib.hid (fun W v h => n_Text_none W v hi h)
  have HC := Lib.hid (fun W v h => n_Count_none W v hi h)
  have HAt := Lib.hid (fun W v h => n_At_none W v h)
  have HF := Lib.hid (fun W v h => n_Fault_none W v h)
  have HE := Lib.hid (fun W v h => n_End_none W v h)
  go_enter Try.func6, Try.ntmps6
  go_wp2_with fail
  obtain ⟨w0, hw0⟩ : ∃ w0, w0 = ((w.alloc (.cells #[.pointer none, .slice none 0 0, .int .i64 0, .int .i64 0, .int .i64 0] 59)).alloc (.cells #[.pointer none, .pointer (some ⟨w.heap.size, 0, none⟩)] 45)) := ⟨_, rfl⟩
  have hB0 : Below w.heap.size w w0 := by rw [hw0]; (repeat' (first | (with_reducible exact Below.refl _ _) | (with_reducible assumption) | (with_reducible refine Below.alloc ?_ ?_ _) | (with_reducible refine Below.drew ?_) | (with_reducible refine below_drewN ?_ _) | (with_reducible refine below_plus ?_ ?_ _ _) | (with_reducible refine Below.setCell ?_ ?_ _) | (with_reducible refine Below.setRow ?_ ?_ _) | go_size))
  have hs0 : w0.heap.size = w.heap.size + 1 + 1 := by rw [hw0]; simp
  have hU0 : ∀ k, Unmade w0 (noneV w.heap.size k) := by
    intro k
    unfold noneV
    by_cases h : k = 0
    · rw [if_pos h]; exact .inl rfl
    · rw [if_neg h]
      refine .inr ⟨w.heap.size, rfl, ?_⟩
      rw [hw0]; simp [go_sem]
  have hC0 : ∀ k, k < 2 → w0.cell? ⟨w.heap.size + 1, k, none⟩ = some (noneV w.heap.size k) := by
    intro k hk
    rw [hw0]
    obtain rfl | rfl : k = 0 ∨ k = 1 := by omega
    · simp [go_sem, noneV]
    · simp [go_sem, noneV]
  have HB0 := Lib.hid hB0
  have HU0 := Lib.hid hU0
  have HC0 := Lib.hid hC0
  have HS0 := Lib.hid hs0
  rw [← hw0]
  clear hw0 hB0 hU0 hC0 hs0
  go_loopw [6, 7, 8] (fun i _ _ wr => NoneAt w0 i wr) (fun i _ _ _ => 2 - (intOf i).toNat)
  case atStart => exact ⟨0, rfl, by omega, Below.refl _ _⟩
  case round =>
    obtain ⟨k, rfl, hk, hb⟩ := hrel
    have HB := Lib.hid hb
    have hsz : w.heap.size + 1 < wr.heap.size := by have := hb.size; have := HS0.out; omega
    clear hb
    by_cases hlt : k < 2
    · have hcell : wr.cell? ⟨w.heap.size + 1, k, none⟩ = some (noneV w.heap.size k) := by rw [← HC0.out k hlt]; exact World.cell?_of_block (HB.out.block (w.heap.size + 1) (by have := HS0.out; omega))
      have HVr := Lib.hid ((HU0.out k).below HB.out)
      obtain ⟨p, hp⟩ := noneV_ptr w.heap.size k
      rw [hp] at hcell HVr
      clear hp
      go_upto_region 7 with fail
      obtain ⟨wb, hwb⟩ : ∃ wb, wb = wr.alloc (.cells #[.int .i64 1, .int .i64 0] 36) := ⟨_, rfl⟩
      have HV := Lib.hid (show Unmade wb (.pointer p) by rw [hwb]; exact HVr.out.below ((Below.refl _ _).alloc (Nat.le_refl _) _))
      have hrw : wb.rowAt wr.heap.size = some #[.int .i64 1, .int .i64 0] := by rw [hwb]; exact rowAt_alloc_at _ _ _ _ rfl
      have HFW := Lib.hid (fun W (h : Below wb.heap.size wb W) => show W.rowAt wr.heap.size = some #[.int .i64 1, .int .i64 0] by rw [rowAt_of_block (h.block _ (by rw [hwb]; simp))]; exact hrw)
      have HBb := Lib.hid (show Below w0.heap.size w0 wb by rw [hwb]; exact HB.out.alloc HB.out.size _)
      rw [← hwb]
      clear hrw hwb
      refine region_two (fun _ W => Below wb.heap.size wb W) 99 98 0 (by decide) rfl (by intro o h; cases h) (by kernel_rfl) (by kernel_rfl) (Below.drew (Below.refl _ _)) ?_
      iterate 3
        (refine t_ex (by rfl) rfl rfl ?_; apply Exists.intro; refine ⟨fun W => ?_, ?_⟩; (go_simp; with_reducible rfl); go_simp)
      refine t_op (by rfl) rfl rfl (.int .i64 0) (fun _ W _ hD => ?_) ?_
      · show stepUpong _ (fun W => Below wb.heap.size wb W) _ _
        unfold stepUpong
        go_simp
        refine (HI.out W _ (HV.out.below hD)).mono ?_
        rintro e' w' ⟨rfl, J, d, rfl⟩
        exact ⟨rfl, below_plus hD hD.size _ _⟩
      go_simp
      iterate 4
        (refine t_ex (by rfl) rfl rfl ?_; apply Exists.intro; refine ⟨fun W => ?_, ?_⟩; (go_simp; with_reducible rfl); go_simp)
      refine t_op (by rfl) rfl rfl (.string ⟨#[]⟩) (fun _ W _ hD => ?_) ?_
      · show stepUpong _ (fun W => Below wb.heap.size wb W) _ _
        unfold stepUpong
        go_simp
        refine (HT.out W _ (HV.out.below hD)).mono ?_
        rintro e' w' ⟨rfl, J, d, rfl⟩
        exact ⟨rfl, below_plus hD hD.size _ _⟩
      go_simp
      iterate 5
        (refine t_ex (by rfl) rfl rfl ?_; apply Exists.intro; refine ⟨fun W => ?_, ?_⟩; (go_simp; with_reducible rfl); go_simp)
      refine t_op (by rfl) rfl rfl (.int .i64 0) (fun _ W _ hD => ?_) ?_
      · show stepUpong _ (fun W => Below wb.heap.size wb W) _ _
        unfold stepUpong
        go_simp
        refine (HC.out W _ (HV.out.below hD)).mono ?_
        rintro e' w' ⟨rfl, J, d, rfl⟩
        exact ⟨rfl, below_plus hD hD.size _ _⟩
      go_simp
      iterate 4
        (refine t_ex (by rfl) rfl rfl ?_; apply Exists.intro; refine ⟨fun W => ?_, ?_⟩; (go_simp; with_reducible rfl); go_simp)
      refine t_op (by rfl) rfl rfl (.int .i64 0) (fun _ W _ hD => ?_) ?_
      · show stepUpong _ (fun W => Below wb.heap.size wb W) _ _
        unfold stepUpong
        go_simp
        refine (HAt.out W _ (HV.out.below hD)).mono ?_
        rintro e' w' ⟨rfl, J, d, rfl⟩
        exact ⟨rfl, below_plus hD hD.size _ _⟩
      go_simp
      iterate 4
        (refine t_ex (by rfl) rfl rfl ?_; apply Exists.intro; refine ⟨fun W => ?_, ?_⟩; (go_simp; with_reducible rfl); go_simp)
      refine t_op (by rfl) rfl rfl (.agg #[.int .i64 1, .int .i64 0]) (fun _ W _ hD => ?_) ?_
      · show stepUpong _ (fun W => Below wb.heap.size wb W) _ _
        unfold stepUpong
        go_simp
        refine (HF.out W _ (HV.out.below hD)).mono ?_
        rintro e' w' ⟨rfl, J, d, rfl⟩
        exact ⟨rfl, below_plus hD hD.size _ _⟩
      go_simp
      (refine t_read (by rfl) rfl rfl ?_; apply Exists.intro; refine ⟨fun b' W _ hD => ?_, ?_⟩; (rw [show execOp _ _ = execOp _ _ from rfl]; have hr := HFW.out W hD; have d0 := ucell_of_row hr 0; have d1 := ucell_of_row hr 1; have zz := ufrozen_of_row hr; simp at d0 d1; go_simp; with_reducible rfl); go_simp)
      iterate 4
        (refine t_ex (by rfl) rfl rfl ?_; apply Exists.intro; refine ⟨fun W => ?_, ?_⟩; (go_simp; with_reducible rfl); go_simp)
      refine t_op (by rfl) rfl rfl (.agg #[.int .i64 1, .int .i64 0]) (fun _ W _ hD => ?_) ?_
      · show stepUpong _ (fun W => Below wb.heap.size wb W) _ _
        unfold stepUpong
        go_simp
        refine (HE.out W _ (HV.out.below hD)).mono ?_
        rintro e' w' ⟨rfl, J, d, rfl⟩
        exact ⟨rfl, below_plus hD hD.size _ _⟩
      go_simp
      (refine t_read (by rfl) rfl rfl ?_; apply Exists.intro; refine ⟨fun b' W _ hD => ?_, ?_⟩; (rw [show execOp _ _ = execOp _ _ from rfl]; have hr := HFW.out W hD; have d0 := ucell_of_row hr 0; have d1 := ucell_of_row hr 1; have zz := ufrozen_of_row hr; simp at d0 d1; go_simp; with_reducible rfl); go_simp)
      iterate 2
        (refine t_ex (by rfl) rfl rfl ?_; apply Exists.intro; refine ⟨fun W => ?_, ?_⟩; (go_simp; with_reducible rfl); go_simp)
      refine t_nil ?_
      intro W hD
      have HD := Lib.hid hD
      clear hD
      go_wp2_with fail
      go_roundw
      case rel => exact ⟨k + 1, by go_num, by omega, HBb.out.trans (HD.out.mono HBb.out.size)⟩
      case measure => simp [intOf]; omega
    · obtain rfl : k = 2 := by omega
      go_wp2_with fail
      refine (HA.out _).mono ?_; rintro e w' ⟨rfl, J, dr, rfl⟩
      go_wp2
      go_ret
      exact ⟨rfl, junk_of_below (below_plus (HB0.out.trans (HB.out.mono HB0.out.size)) (Nat.le_trans HB0.out.size HB.out.size) _ _)⟩
end Go.Proofs.Ytabjhmblfeoiaaa

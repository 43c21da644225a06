/- The law BoxtreeKnown: the walk. -/
import Derived.Test.YtnpkhhchbahcpaaBnLaw
namespace Go.Proofs.Ytnpkhhchbahcpaa
set_option linter.unusedVariables false
set_option linter.unusedSimpArgs false
open Go.RowKit

theorem made_bx (w : World) : ∃ Z, (Instr.makeSlice 22 (.int .i64 1001) (.int .i64 1001)).run Try.prog w = .ok (.slice (some ⟨w.heap.size, 0, none⟩) 1001 1001) (w.alloc (.cells Z 33)) := by
  obtain ⟨i, hi, hz, hs, hb⟩ := info_bx
  have h := run_make (P := Try.prog) w 22 33 i _ Try.underlying22 hi hz .i64 .i64 1001 1001 (by decide) (by decide) (by rw [hb]; decide) (by decide)
  exact ⟨_, h⟩
theorem made_bx2 : ∃ Z : Array Value, ∀ w : World, (Instr.makeSlice 22 (.int .i64 1001) (.int .i64 1001)).run Try.prog w = .ok (.slice (some ⟨w.heap.size, 0, none⟩) 1001 1001) (w.alloc (.cells Z 33)) := by
  obtain ⟨i, hi, hz, hs, hb⟩ := info_bx
  exact ⟨_, fun w => run_make (P := Try.prog) w 22 33 i _ Try.underlying22 hi hz .i64 .i64 1001 1001 (by decide) (by decide) (by rw [hb]; decide) (by decide)⟩
theorem smp_at9 : scanB (inB 9 9) smpL = [] := by decide
theorem smp_over : scanB (meetB (3, 3, 9, 9)) smpL = [0, 1] := by decide
theorem smp_order : ordB smpL = [0, 1, 2] := by decide +kernel
theorem box_lit (L : List Bx) (i : Int) (v : Value) (hv : bxAt L i = v) (W : World) (B T tb : Nat) (h : TreeB W B T tb L) :
    Calls Try.prog 22 #[.pointer (some ⟨tb, 0, none⟩), .int .i64 i] W fun e w' => e = .returned v ∧ Junk W w' := by
  have := n_treeBox h i
  rw [hv] at this
  exact this
set_option maxRecDepth 100000 in
set_option maxHeartbeats 4000000 in
theorem l_boxtreeKnown (w : World) : Calls Try.prog 6 #[] w fun e w' => e = .returned (.bool true) ∧ Junk w w' := by
  have HS := Lib.hid l_btSample
  have HAw := Lib.hid l_btAwake
  have HBl := Lib.hid (fun W a c => n_btBuildLong W a 1001 c (by decide))
  have HB0 := Lib.hid (fun W => build_lit W none 0 0 [] ⟨xreads_nil W, ⟨Nat.le_refl _, fun _ => rfl⟩⟩ (by intro b hb; cases hb) (by decide))
  have HA1 := Lib.hid (fun W B T tb h => at_lit 9 9 smpL [] smp_at9 (by decide) W B T tb h)
  have HA2 := Lib.hid (fun W B T tb h => at_lit 0 0 [] [] rfl (by decide) W B T tb h)
  have HO := Lib.hid (fun W B T tb h => over_lit 3 3 9 9 smpL [0, 1] smp_over (by decide) W B T tb h)
  have HR := Lib.hid (fun W B T tb h => order_lit smpL [0, 1, 2] smp_order (by decide) W B T tb h)
  have HD := Lib.hid (fun W B T tb h => depth_lit [] 0 (by decide +kernel) (by decide) W B T tb h)
  have HX := Lib.hid (fun W B T tb h => box_lit smpL 3 (.tuple #[bvB Bx0, .int .i64 6]) (by unfold bxAt; rw [if_neg (by decide)]) W B T tb h)
  have HBo := Lib.hid (fun W => l_btBox 3 3 9 9 W)
  have HC1 := Lib.hid (fun W a g c h hc => same_lit [0, 1] [0, 1] (by decide) (by decide) (by decide) W a g c h hc)
  have HC2 := Lib.hid (fun W a g c h hc => same_lit [0, 1, 2] [0, 1, 2] (by decide) (by decide) (by decide) W a g c h hc)
  obtain ⟨Z, hmk⟩ := made_bx2
  generalize smpL = L at *
  unfold bvB at HX
  unfold pt bxV at *
  simp only [List.length_cons, List.length_nil, Bx0] at HA1 HA2 HO HR HX HC1 HC2
  go_enter Try.func6, Try.ntmps6
  go_wp2_with (first
    | (go_at_call 23; refine (HS.out _).mono ?_; rintro e w1 ⟨⟨tb, B, T, rfl, ht, _⟩, J1, d1, rfl⟩; have HT := Lib.hid ht; clear ht)
    | (go_at_call 11; (with_reducible refine (HB0.out _).mono ?_); rintro e w1 ⟨⟨tb2, B2, T2, rfl, ht, _⟩, J2, d2, rfl⟩; (try simp only [plus_plus, Array.append_assoc] at ht); have HU := Lib.hid ht; clear ht)
    | (go_at_call 11; (with_reducible refine (HBl.out _ _ _).mono ?_); rintro e w1 ⟨rfl, hw⟩; rw [hw]; clear hw)
    | (go_at_call 22; (with_reducible refine (HX.out _ B T tb ?_).mono ?_); (exact HT.out.below (by ((try simp only [← Array.append_assoc]); repeat' (first | (with_reducible exact Below.refl _ _) | (with_reducible assumption) | (with_reducible refine Below.alloc ?_ ?_ _) | (with_reducible refine Below.drew ?_) | (with_reducible refine below_drewN ?_ _) | (with_reducible exact below_d _ _ _ _ _) | (with_reducible refine below_snoc _ _ ?_ ?_) | (with_reducible refine below_plus ?_ ?_ _ _) | (with_reducible refine Below.setCell ?_ ?_ _) | (with_reducible refine Below.setRow ?_ ?_ _) | go_size)))); rintro e w1 ⟨rfl, J3, d3, rfl⟩)
    | (go_at_call 13; (with_reducible refine (HA1.out _ B T tb ?_).mono ?_); (exact HT.out.below (by ((try simp only [← Array.append_assoc]); repeat' (first | (with_reducible exact Below.refl _ _) | (with_reducible assumption) | (with_reducible refine Below.alloc ?_ ?_ _) | (with_reducible refine Below.drew ?_) | (with_reducible refine below_drewN ?_ _) | (with_reducible exact below_d _ _ _ _ _) | (with_reducible refine below_snoc _ _ ?_ ?_) | (with_reducible refine below_plus ?_ ?_ _ _) | (with_reducible refine Below.setCell ?_ ?_ _) | (with_reducible refine Below.setRow ?_ ?_ _) | go_size)))); rintro e w1 ⟨⟨a1, c1, rfl, hr, _⟩, J4, d4, rfl⟩; clear hr)
    | (go_at_call 24; refine (HBo.out _).mono ?_; rintro e w1 ⟨rfl, J5, d5, rfl⟩)
    | (go_at_call 16; (with_reducible refine (HO.out _ B T tb ?_).mono ?_); (exact HT.out.below (by ((try simp only [← Array.append_assoc]); repeat' (first | (with_reducible exact Below.refl _ _) | (with_reducible assumption) | (with_reducible refine Below.alloc ?_ ?_ _) | (with_reducible refine Below.drew ?_) | (with_reducible refine below_drewN ?_ _) | (with_reducible exact below_d _ _ _ _ _) | (with_reducible refine below_snoc _ _ ?_ ?_) | (with_reducible refine below_plus ?_ ?_ _ _) | (with_reducible refine Below.setCell ?_ ?_ _) | (with_reducible refine Below.setRow ?_ ?_ _) | go_size)))); rintro e w1 ⟨⟨a2, c2, rfl, hr, _⟩, J6, d6, rfl⟩; (try simp only [plus_plus, Array.append_assoc] at hr); have HR1 := Lib.hid hr; clear hr)
    | (go_at_call 14; refine (HC1.out _ _ _ _ (HR1.out.below (by ((try simp only [← Array.append_assoc]); repeat' (first | (with_reducible exact Below.refl _ _) | (with_reducible assumption) | (with_reducible refine Below.alloc ?_ ?_ _) | (with_reducible refine Below.drew ?_) | (with_reducible refine below_drewN ?_ _) | (with_reducible exact below_d _ _ _ _ _) | (with_reducible refine below_snoc _ _ ?_ ?_) | (with_reducible refine below_plus ?_ ?_ _ _) | (with_reducible refine Below.setCell ?_ ?_ _) | (with_reducible refine Below.setRow ?_ ?_ _) | go_size)))) (fun i hi => ?_)).mono ?_; (have h2 : i = 0 ∨ i = 1 := (by omega)); (rcases h2 with rfl | rfl <;> simp [go_sem]); rintro e w1 ⟨rfl, J7, d7, rfl⟩; clear HR1)
    | (go_at_call 20; (with_reducible refine (HR.out _ B T tb ?_).mono ?_); (exact HT.out.below (by ((try simp only [← Array.append_assoc]); repeat' (first | (with_reducible exact Below.refl _ _) | (with_reducible assumption) | (with_reducible refine Below.alloc ?_ ?_ _) | (with_reducible refine Below.drew ?_) | (with_reducible refine below_drewN ?_ _) | (with_reducible exact below_d _ _ _ _ _) | (with_reducible refine below_snoc _ _ ?_ ?_) | (with_reducible refine below_plus ?_ ?_ _ _) | (with_reducible refine Below.setCell ?_ ?_ _) | (with_reducible refine Below.setRow ?_ ?_ _) | go_size)))); rintro e w1 ⟨⟨a3, c3, rfl, hr, _⟩, J8, d8, rfl⟩; (try simp only [plus_plus, Array.append_assoc] at hr); have HR2 := Lib.hid hr; clear hr)
    | (go_at_call 14; refine (HC2.out _ _ _ _ (HR2.out.below (by ((try simp only [← Array.append_assoc]); repeat' (first | (with_reducible exact Below.refl _ _) | (with_reducible assumption) | (with_reducible refine Below.alloc ?_ ?_ _) | (with_reducible refine Below.drew ?_) | (with_reducible refine below_drewN ?_ _) | (with_reducible exact below_d _ _ _ _ _) | (with_reducible refine below_snoc _ _ ?_ ?_) | (with_reducible refine below_plus ?_ ?_ _ _) | (with_reducible refine Below.setCell ?_ ?_ _) | (with_reducible refine Below.setRow ?_ ?_ _) | go_size)))) (fun i hi => ?_)).mono ?_; (have h2 : i = 0 ∨ i = 1 ∨ i = 2 := (by omega)); (rcases h2 with rfl | rfl | rfl <;> simp [go_sem]); rintro e w1 ⟨rfl, J9, d9, rfl⟩; clear HR2)
    | (go_at_call 10; refine (HAw.out _).mono ?_; rintro e w1 ⟨rfl, J10, d10, rfl⟩)
    | (go_at_call 13; (with_reducible refine (HA2.out _ B2 T2 tb2 ?_).mono ?_); (exact HU.out.below (by ((try simp only [← Array.append_assoc]); repeat' (first | (with_reducible exact Below.refl _ _) | (with_reducible assumption) | (with_reducible refine Below.alloc ?_ ?_ _) | (with_reducible refine Below.drew ?_) | (with_reducible refine below_drewN ?_ _) | (with_reducible exact below_d _ _ _ _ _) | (with_reducible refine below_snoc _ _ ?_ ?_) | (with_reducible refine below_plus ?_ ?_ _ _) | (with_reducible refine Below.setCell ?_ ?_ _) | (with_reducible refine Below.setRow ?_ ?_ _) | go_size)))); rintro e w1 ⟨⟨a4, c4, rfl, hr, _⟩, J11, d11, rfl⟩; clear hr)
    | (go_at_call 18; refine (HD.out _ B2 T2 tb2 (HU.out.below (by ((try simp only [← Array.append_assoc]); repeat' (first | (with_reducible exact Below.refl _ _) | (with_reducible assumption) | (with_reducible refine Below.alloc ?_ ?_ _) | (with_reducible refine Below.drew ?_) | (with_reducible refine below_drewN ?_ _) | (with_reducible exact below_d _ _ _ _ _) | (with_reducible refine below_snoc _ _ ?_ ?_) | (with_reducible refine below_plus ?_ ?_ _ _) | (with_reducible refine Below.setCell ?_ ?_ _) | (with_reducible refine Below.setRow ?_ ?_ _) | go_size))))).mono ?_; rintro e w1 ⟨rfl, J12, d12, rfl⟩))
  go_ret
  exact ⟨rfl, junk_of_below (by (repeat' (first | (with_reducible exact Below.refl _ _) | (with_reducible assumption) | (with_reducible refine Below.alloc ?_ ?_ _) | (with_reducible refine Below.drew ?_) | (with_reducible refine below_drewN ?_ _) | (with_reducible refine below_plus ?_ ?_ _ _) | (with_reducible refine Below.setCell ?_ ?_ _) | (with_reducible refine Below.setRow ?_ ?_ _) | go_size)))⟩
end Go.Proofs.Ytnpkhhchbahcpaa

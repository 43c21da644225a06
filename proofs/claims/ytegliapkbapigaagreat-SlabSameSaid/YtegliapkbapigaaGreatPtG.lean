/- Contract of point.Compare. -/
import Derived.Test.YtegliapkbapigaaGreatPtOne
import Derived.Test.YtegliapkbapigaaGreatWideB
import Derived.Test.YtegliapkbapigaaGreatKitOne
import Derived.Test.YtegliapkbapigaaGreatKitTwo
namespace Go.Proofs.YtegliapkbapigaaGreat
set_option linter.unusedVariables false
set_option linter.unusedSimpArgs false
open Go.RowKit

theorem cmpF_sgn (ax ay bx by_ : Int) : (if sgn (ay - by_) = 0 then sgn (ax - bx) else sgn (ay - by_)) = cmpF ax ay bx by_ := by
  have h1 := sgn_cases (ay - by_)
  have h2 := sgn_cases (ax - bx)
  unfold cmpF
  rcases h1 with ⟨h1, e1⟩ | ⟨h1, e1⟩ | ⟨h1, e1⟩ <;> rcases h2 with ⟨h2, e2⟩ | ⟨h2, e2⟩ | ⟨h2, e2⟩ <;> rw [e1, e2] <;> repeat' split <;> first | rfl | omega
set_option maxRecDepth 100000 in
set_option maxHeartbeats 1000000 in
theorem n_ptCompare (ax ay bx by_ : Int) (w : World) : Calls Tryz.prog 75 #[pt ax ay, pt bx by_] w fun e w' => e = .returned (.int .i64 (cmpF ax ay bx by_)) ∧ Junk w w' := by
  rw [← cmpF_sgn]
  have H1 := Lib.hid (fun w' => w_cmp ay by_ w')
  have H2 := Lib.hid (fun w' => w_cmp ax bx w')
  generalize sgn (ay - by_) = p at *
  generalize sgn (ax - bx) = q at *
  obtain ⟨r, hr⟩ : ∃ r, (if p = 0 then q else p) = r := ⟨_, rfl⟩
  rw [hr]
  have HO := Lib.hid (show ∀ (b : Nat) (w' : World), w'.cell? ⟨b, 0, none⟩ = some (.int .i64 p) → w'.cell? ⟨b, 1, none⟩ = some (.int .i64 q) → Calls Tryz.prog 87 #[.slice (some ⟨b, 0, none⟩) 2 2] w' fun e w'' => e = .returned (.int .i64 r) ∧ w' = w'' from by
    intro b w' h0 h1
    rw [← hr]
    exact w_or2 p q b w' h0 h1)
  clear hr
  unfold pt
  go_enter Tryz.func75, Tryz.ntmps75
  go_upto_region 1 with fail
  refine region_quiet_tail (C := Cls ((w.alloc (.cells #[.int .i64 ax, .int .i64 ay] 40)).alloc (.cells #[.int .i64 bx, .int .i64 by_] 40))) 10 (by kernel_rfl) (by kernel_rfl) ⟨#[], _, (plus_nil _).symm⟩ ?_
  simp only [List.take_succ_cons, List.take_zero, List.drop_succ_cons, List.drop_zero]
  iterate 5 (refine wpQuiet_step (fun K hK => ?_); go_simp; first | (refine hK _ ?_; clear hK K) | (apply Exists.intro; refine ⟨?_, hK _ ?_⟩; (rintro w3_ ⟨J3_, d3_, rfl⟩; first | (with_reducible exact rfl) | (go_simp; with_reducible exact rfl) | (go_simp; refine (H1.out _).mono ?_; rintro e_ w_ ⟨rfl, rfl⟩; exact ⟨rfl, _, _, rfl⟩)); clear hK K))
  iterate 5 (refine wpQuiet_step (fun K hK => ?_); go_simp; first | (refine hK _ ?_; clear hK K) | (apply Exists.intro; refine ⟨?_, hK _ ?_⟩; (rintro w3_ ⟨J3_, d3_, rfl⟩; first | (with_reducible exact rfl) | (go_simp; with_reducible exact rfl) | (go_simp; refine (H2.out _).mono ?_; rintro e_ w_ ⟨rfl, rfl⟩; exact ⟨rfl, _, _, rfl⟩)); clear hK K))
  refine wpQuiet_nil ?_
  rintro w3 ⟨J3, d3, rfl⟩
  go_wp2_with fail
  refine (HO.out _ _ ?_ ?_).mono ?_
  · simp [go_sem]
  · simp [go_sem]
  rintro e w1 ⟨rfl, rfl⟩
  go_wp2
  go_ret
  exact ⟨rfl, junk_of_below (by (repeat' (first | (with_reducible exact Below.refl _ _) | (with_reducible assumption) | (with_reducible refine Below.alloc ?_ ?_ _) | (with_reducible refine Below.drew ?_) | (with_reducible refine below_drewN ?_ _) | (with_reducible refine below_plus ?_ ?_ _ _) | (with_reducible refine Below.setCell ?_ ?_ _) | (with_reducible refine Below.setRow ?_ ?_ _) | go_size)))⟩
end Go.Proofs.YtegliapkbapigaaGreat

/- Contracts of package point: On, Move. -/
import Derived.Test.YthjjhfopmianoaaPtH
namespace Go.Proofs.Ythjjhfopmianoaa
set_option linter.unusedVariables false
set_option linter.unusedSimpArgs false
open Go.RowKit

set_option maxRecDepth 100000 in
set_option maxHeartbeats 1000000 in
theorem n_ptMove (x y u v : Int) (w : World) : Calls Try.prog 20 #[pt x y, pt u v] w fun e w' => e = .returned (.tuple #[pt (moveX x y u v) (moveY x y u v), .int .i64 (moveE x y u v)]) ∧ Junk w w' := by
  have HA := Lib.hid (fun W b h0 h1 h2 h3 => n_ptAll2 W b x y u v h0 h1 h2 h3)
  have H3 := Lib.hid (fun w' => n_ptValid (x + u) (y + v) w')
  unfold moveX moveY moveE
  cases h1 : okP x y && okP u v with
  | false =>
    rw [h1] at HA
    simp only [Bool.false_eq_true, if_false, show ¬ (2 : Int) = 0 by decide]
    unfold pt at *
    clear h1
    go_enter Try.func20, Try.ntmps20
    go_wp2_with fail
    refine (HA.out _ _ ?_ ?_ ?_ ?_).mono ?_
    iterate 4 (simp [go_sem])
    rintro e w1 ⟨rfl, J1, d1, rfl⟩
    go_wp2
    refine bodyPost_ret (results_pt rfl _ _ (w.heap.size + 1 + 1) #[.int .i64 0, .int .i64 0] rfl (by simp [go_sem]) rfl) rfl ⟨rfl, junk_of_below (by (repeat' (first | (with_reducible exact Below.refl _ _) | (with_reducible assumption) | (with_reducible refine Below.alloc ?_ ?_ _) | (with_reducible refine Below.drew ?_) | (with_reducible refine below_drewN ?_ _) | (with_reducible refine below_plus ?_ ?_ _ _) | (with_reducible refine Below.setCell ?_ ?_ _) | (with_reducible refine Below.setRow ?_ ?_ _) | go_size)))⟩
  | true =>
    rw [h1] at HA
    rw [Bool.and_eq_true] at h1
    obtain ⟨h1, h2⟩ := h1
    obtain ⟨⟨a1, a2⟩, a3, a4⟩ := okP_iff.1 h1
    obtain ⟨⟨b1, b2⟩, b3, b4⟩ := okP_iff.1 h2
    have c1 : IntKind.i64.wrap (x + u) = x + u := by simp [IntKind.wrap, IntKind.signed, IntKind.bits]; omega
    have c2 : IntKind.i64.wrap (y + v) = y + v := by simp [IntKind.wrap, IntKind.signed, IntKind.bits]; omega
    cases h3 : okP (x + u) (y + v) with
    | false =>
      rw [h3] at H3
      simp only [if_true, Bool.false_eq_true, if_false, show ¬ (5 : Int) = 0 by decide]
      unfold pt at *
      clear h1 h2 h3
      go_enter Try.func20, Try.ntmps20
      go_wp2_with fail
      refine (HA.out _ _ ?_ ?_ ?_ ?_).mono ?_
      iterate 4 (simp [go_sem])
      rintro e w1 ⟨rfl, J1, d1, rfl⟩
      go_wp2_with (go_at_call 22; refine (H3.out _).mono ?_; rintro e w1 ⟨rfl, J3, d3, rfl⟩)
      refine bodyPost_ret (results_pt rfl _ _ (w.heap.size + 1 + 1) #[.int .i64 0, .int .i64 0] rfl (by simp [go_sem]) rfl) rfl ⟨rfl, junk_of_below (by (repeat' (first | (with_reducible exact Below.refl _ _) | (with_reducible assumption) | (with_reducible refine Below.alloc ?_ ?_ _) | (with_reducible refine Below.drew ?_) | (with_reducible refine below_drewN ?_ _) | (with_reducible refine below_plus ?_ ?_ _ _) | (with_reducible refine Below.setCell ?_ ?_ _) | (with_reducible refine Below.setRow ?_ ?_ _) | go_size)))⟩
    | true =>
      rw [h3] at H3
      simp only [if_true]
      unfold pt at *
      clear h1 h2 h3
      go_enter Try.func20, Try.ntmps20
      go_wp2_with fail
      refine (HA.out _ _ ?_ ?_ ?_ ?_).mono ?_
      iterate 4 (simp [go_sem])
      rintro e w1 ⟨rfl, J1, d1, rfl⟩
      go_wp2_with (go_at_call 22; refine (H3.out _).mono ?_; rintro e w1 ⟨rfl, J3, d3, rfl⟩)
      refine bodyPost_ret (results_pt rfl _ _ (w.heap.size + 1 + 1) #[.int .i64 (x + u), .int .i64 (y + v)] rfl (by simp [go_sem]) rfl) rfl ⟨rfl, junk_of_below (by (repeat' (first | (with_reducible exact Below.refl _ _) | (with_reducible assumption) | (with_reducible refine Below.alloc ?_ ?_ _) | (with_reducible refine Below.drew ?_) | (with_reducible refine below_drewN ?_ _) | (with_reducible refine below_plus ?_ ?_ _ _) | (with_reducible refine Below.setCell ?_ ?_ _) | (with_reducible refine Below.setRow ?_ ?_ _) | go_size)))⟩
end Go.Proofs.Ythjjhfopmianoaa

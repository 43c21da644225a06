/- Contracts of package point: Turn, On. -/
import Derived.Test.YtegliapkbapigaaGreatPtG
import Derived.Test.YtegliapkbapigaaGreatPtU
namespace Go.Proofs.YtegliapkbapigaaGreat
set_option linter.unusedVariables false
set_option linter.unusedSimpArgs false
open Go.RowKit

theorem n_ptAll3 (W : World) (b : Nat) (ax ay bx by_ cx cy : Int) (h0 : W.cell? ⟨b, 0, none⟩ = some (.int .i64 ax)) (h1 : W.cell? ⟨b, 1, none⟩ = some (.int .i64 ay)) (h2 : W.cell? ⟨b, 2, none⟩ = some (.int .i64 bx))
    (h3 : W.cell? ⟨b, 3, none⟩ = some (.int .i64 by_)) (h4 : W.cell? ⟨b, 4, none⟩ = some (.int .i64 cx)) (h5 : W.cell? ⟨b, 5, none⟩ = some (.int .i64 cy)) :
    Calls Tryz.prog 60 #[.slice (some ⟨b, 0, none⟩) 3 3] W fun e w' => e = .returned (.bool (okP ax ay && okP bx by_ && okP cx cy)) ∧ Junk W w' := by
  have h := n_ptAll W (some ⟨b, 0, none⟩) 3 3 [(ax, ay), (bx, by_), (cx, cy)] ⟨rfl, .inr ⟨b, 0, rfl, fun i hi => by
    match i, hi with
    | 0, _ => exact ⟨h0, h1⟩
    | 1, _ => exact ⟨h2, h3⟩
    | 2, _ => exact ⟨h4, h5⟩⟩⟩ (by decide)
  refine h.mono fun e w' ⟨e1, e2⟩ => ⟨?_, e2⟩
  rw [e1]
  simp [allOk, Bool.and_assoc]
theorem n_ptAll2 (W : World) (b : Nat) (ax ay bx by_ : Int) (h0 : W.cell? ⟨b, 0, none⟩ = some (.int .i64 ax)) (h1 : W.cell? ⟨b, 1, none⟩ = some (.int .i64 ay)) (h2 : W.cell? ⟨b, 2, none⟩ = some (.int .i64 bx))
    (h3 : W.cell? ⟨b, 3, none⟩ = some (.int .i64 by_)) :
    Calls Tryz.prog 60 #[.slice (some ⟨b, 0, none⟩) 2 2] W fun e w' => e = .returned (.bool (okP ax ay && okP bx by_)) ∧ Junk W w' := by
  have h := n_ptAll W (some ⟨b, 0, none⟩) 2 2 [(ax, ay), (bx, by_)] ⟨rfl, .inr ⟨b, 0, rfl, fun i hi => by
    match i, hi with
    | 0, _ => exact ⟨h0, h1⟩
    | 1, _ => exact ⟨h2, h3⟩⟩⟩ (by decide)
  refine h.mono fun e w' ⟨e1, e2⟩ => ⟨?_, e2⟩
  rw [e1]
  simp [allOk]

set_option maxRecDepth 100000 in
set_option maxHeartbeats 1000000 in
theorem n_ptTurn (ax ay bx by_ cx cy : Int) (w : World) : Calls Tryz.prog 40 #[pt ax ay, pt bx by_, pt cx cy] w fun e w' => e = .returned (.int .i64 (turnF ax ay bx by_ cx cy)) ∧ Junk w w' := by
  unfold turnF
  have HA := Lib.hid (fun W b h0 h1 h2 h3 h4 h5 => n_ptAll3 W b ax ay bx by_ cx cy h0 h1 h2 h3 h4 h5)
  cases hv : okP ax ay && okP bx by_ && okP cx cy with
  | false =>
    rw [hv] at HA
    simp only [Bool.false_eq_true, if_false]
    unfold pt
    clear hv
    go_enter Tryz.func40, Tryz.ntmps40
    go_wp2_with fail
    refine (HA.out _ _ ?_ ?_ ?_ ?_ ?_ ?_).mono ?_
    iterate 6 (simp [go_sem])
    rintro e w1 ⟨rfl, J1, d1, rfl⟩
    go_wp2
    go_ret
    exact ⟨rfl, junk_of_below (by (repeat' (first | (with_reducible exact Below.refl _ _) | (with_reducible assumption) | (with_reducible refine Below.alloc ?_ ?_ _) | (with_reducible refine Below.drew ?_) | (with_reducible refine below_drewN ?_ _) | (with_reducible refine below_plus ?_ ?_ _ _) | (with_reducible refine Below.setCell ?_ ?_ _) | (with_reducible refine Below.setRow ?_ ?_ _) | go_size)))⟩
  | true =>
    rw [hv] at HA
    simp only [if_true]
    rw [Bool.and_eq_true, Bool.and_eq_true] at hv
    obtain ⟨⟨v1, v2⟩, v3⟩ := hv
    obtain ⟨⟨a1, a2⟩, a3, a4⟩ := okP_iff.1 v1
    obtain ⟨⟨b1, b2⟩, b3, b4⟩ := okP_iff.1 v2
    obtain ⟨⟨c1, c2⟩, c3, c4⟩ := okP_iff.1 v3
    have e1 : IntKind.i64.wrap (bx - ax) = bx - ax := by simp [IntKind.wrap, IntKind.signed, IntKind.bits]; omega
    have e2 : IntKind.i64.wrap (cy - ay) = cy - ay := by simp [IntKind.wrap, IntKind.signed, IntKind.bits]; omega
    have e3 : IntKind.i64.wrap (by_ - ay) = by_ - ay := by simp [IntKind.wrap, IntKind.signed, IntKind.bits]; omega
    have e4 : IntKind.i64.wrap (cx - ax) = cx - ax := by simp [IntKind.wrap, IntKind.signed, IntKind.bits]; omega
    have HS := Lib.hid (show ∀ w', Calls Tryz.prog 61 #[.int .i64 (bx - ax), .int .i64 (cy - ay), .int .i64 (by_ - ay), .int .i64 (cx - ax)] w' fun e w'' => e = .returned (.int .i64 (sgn (detP ax ay bx by_ cx cy))) ∧ Junk w' w'' from
      fun w' => (w_Sign (bx - ax) (cy - ay) (by_ - ay) (cx - ax) (by omega) (by omega) (by omega) (by omega) (by omega) (by omega) (by omega) (by omega) w').mono fun e w'' ⟨h1, h2⟩ => ⟨h1, junk_of_below h2⟩)
    clear v1 v2 v3
    unfold pt
    go_enter Tryz.func40, Tryz.ntmps40
    go_wp2_with fail
    refine (HA.out _ _ ?_ ?_ ?_ ?_ ?_ ?_).mono ?_
    iterate 6 (simp [go_sem])
    rintro e w1 ⟨rfl, J1, d1, rfl⟩
    go_wp2_with (go_at_call 61; refine (HS.out _).mono ?_; rintro e w1 ⟨rfl, J4, d4, rfl⟩)
    go_ret
    exact ⟨rfl, junk_of_below (by (repeat' (first | (with_reducible exact Below.refl _ _) | (with_reducible assumption) | (with_reducible refine Below.alloc ?_ ?_ _) | (with_reducible refine Below.drew ?_) | (with_reducible refine below_drewN ?_ _) | (with_reducible refine below_plus ?_ ?_ _ _) | (with_reducible refine Below.setCell ?_ ?_ _) | (with_reducible refine Below.setRow ?_ ?_ _) | go_size)))⟩
end Go.Proofs.YtegliapkbapigaaGreat

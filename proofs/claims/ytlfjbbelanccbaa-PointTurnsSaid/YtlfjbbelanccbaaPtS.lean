/- Contracts of apportionref07: between, In, Meet, Move. -/
import Derived.Test.YtlfjbbelanccbaaPtR
import Derived.Test.YtlfjbbelanccbaaRow
namespace Go.Proofs.Ytlfjbbelanccbaa
set_option linter.unusedVariables false
set_option linter.unusedSimpArgs false
open Go.RowKit

theorem retB {p q : Bool} (h : p = q) : Ending.returned (.bool p) = Ending.returned (.bool q) := by rw [h]
theorem r_ptBetween (n a b : Int) (w : World) : Calls Try.prog 38 #[.int .i64 n, .int .i64 a, .int .i64 b] w fun e w' => e = .returned (.bool (decide (btw n a b))) ∧ w' = w := by
  obtain ⟨R, hR⟩ : ∃ R, decide (btw n a b) = R := ⟨_, rfl⟩
  rw [hR]
  have HR := Lib.hid hR
  clear hR
  go_enter Try.func38, Try.ntmps38
  go_wp2
  all_goals
    go_ret
    refine ⟨retB ?_, rfl⟩
    rw [← HR.out]
    unfold btw
    first | exact decide_eq_decide.2 (by omega) | exact (decide_eq_false (by omega)).symm | exact (decide_eq_true (by omega)).symm

def inF (px py lx ly hx hy : Int) : Bool := decide (lx ≤ px ∧ px < hx ∧ ly ≤ py ∧ py < hy)
def bxV (lx ly hx hy : Int) : Value := .agg #[.int .i64 lx, .int .i64 ly, .int .i64 hx, .int .i64 hy]
theorem r_ptIn (px py lx ly hx hy : Int) (w : World) : Calls Try.prog 26 #[pt px py, bxV lx ly hx hy] w fun e w' => e = .returned (.bool (inF px py lx ly hx hy)) ∧ Junk w w' := by
  obtain ⟨R, hR⟩ : ∃ R, inF px py lx ly hx hy = R := ⟨_, rfl⟩
  rw [hR]
  have HR := Lib.hid hR
  clear hR
  unfold bxV pt
  go_enter Try.func26, Try.ntmps26
  go_wp2
  all_goals
    go_ret
    refine ⟨retB ?_, junk_of_below (by (repeat' (first | (with_reducible exact Below.refl _ _) | (with_reducible assumption) | (with_reducible refine Below.alloc ?_ ?_ _) | (with_reducible refine Below.drew ?_) | (with_reducible refine below_drewN ?_ _) | (with_reducible refine below_plus ?_ ?_ _ _) | (with_reducible refine Below.setCell ?_ ?_ _) | (with_reducible refine Below.setRow ?_ ?_ _) | go_size)))⟩
    rw [← HR.out]
    unfold inF
    first | exact decide_eq_decide.2 (by omega) | exact (decide_eq_false (by omega)).symm | exact (decide_eq_true (by omega)).symm

def meetF (lx ly hx hy kx ky mx my : Int) : Bool := decide (max lx kx < min hx mx ∧ max ly ky < min hy my)
theorem r_ptMeet (lx ly hx hy kx ky mx my : Int) (w : World) : Calls Try.prog 28 #[bxV lx ly hx hy, bxV kx ky mx my] w fun e w' => e = .returned (.bool (meetF lx ly hx hy kx ky mx my)) ∧ Junk w w' := by
  obtain ⟨R, hR⟩ : ∃ R, meetF lx ly hx hy kx ky mx my = R := ⟨_, rfl⟩
  rw [hR]
  have HR := Lib.hid hR
  clear hR
  unfold bxV
  go_enter Try.func28, Try.ntmps28
  go_wp2
  all_goals
    go_ret
    refine ⟨retB ?_, junk_of_below (by (repeat' (first | (with_reducible exact Below.refl _ _) | (with_reducible assumption) | (with_reducible refine Below.alloc ?_ ?_ _) | (with_reducible refine Below.drew ?_) | (with_reducible refine below_drewN ?_ _) | (with_reducible refine below_plus ?_ ?_ _ _) | (with_reducible refine Below.setCell ?_ ?_ _) | (with_reducible refine Below.setRow ?_ ?_ _) | go_size)))⟩
    rw [← HR.out]
    unfold meetF
    first | exact decide_eq_decide.2 (by omega) | exact (decide_eq_false (by omega)).symm | exact (decide_eq_true (by omega)).symm

theorem results_pt {fn : Func} {p t : Tmp} (h : fn.results = #[.cell p 23, .tmp t]) (tmps : Array Value) (w : World) (g : Nat) (c : Array Value)
    (hp : tmps.getD p undef = .pointer (some ⟨g, 0, none⟩)) (hr : w.rowAt g = some c) (hc : c.size = 2) : (results fn tmps).run Try.prog w = .ok (.tuple #[.agg c, tmps.getD t undef]) w := by
  obtain ⟨ty, hg⟩ := rowAt_some hr
  have hp' : tmps[p]?.getD undef = .pointer (some ⟨g, 0, none⟩) := by simpa using hp
  simp [results, h, hp', asAddr, run_loadVar_row w g ty _ c (0, 0) _ hg Try.underlying23 rfl (by rw [hc]; kernel_rfl)]

set_option maxRecDepth 100000 in
theorem r_ptMove (x y u v : Int) (w : World) : Calls Try.prog 12 #[pt x y, pt u v] w fun e w' => e = .returned (.tuple #[pt (moveX x y u v) (moveY x y u v), .int .i64 (moveE x y u v)]) ∧ Junk w w' := by
  have HV := Lib.hid r_ptValid
  unfold moveX moveY moveE
  cases h1 : okP x y with
  | false =>
    have H1 := Lib.hid (fun w' => r_ptValid x y w')
    rw [h1] at H1
    simp only [Bool.false_and, Bool.false_eq_true, if_false, show ¬ (2 : Int) = 0 by decide]
    unfold pt at *
    clear h1 HV
    go_enter Try.func12, Try.ntmps12
    go_wp2_with (go_at_call 14; refine (H1.out _).mono ?_; rintro e w1 ⟨rfl, J1, d1, rfl⟩)
    refine bodyPost_ret (results_pt rfl _ _ (w.heap.size + 1 + 1) #[.int .i64 0, .int .i64 0] rfl (by simp [go_sem]) rfl) rfl ⟨rfl, junk_of_below (by (repeat' (first | (with_reducible exact Below.refl _ _) | (with_reducible assumption) | (with_reducible refine Below.alloc ?_ ?_ _) | (with_reducible refine Below.drew ?_) | (with_reducible refine below_drewN ?_ _) | (with_reducible refine below_plus ?_ ?_ _ _) | (with_reducible refine Below.setCell ?_ ?_ _) | (with_reducible refine Below.setRow ?_ ?_ _) | go_size)))⟩
  | true =>
    have H1 := Lib.hid (fun w' => r_ptValid x y w')
    rw [h1] at H1
    cases h2 : okP u v with
    | false =>
      have H2 := Lib.hid (fun w' => r_ptValid u v w')
      rw [h2] at H2
      simp only [Bool.and_false, Bool.false_eq_true, if_false, show ¬ (2 : Int) = 0 by decide]
      unfold pt at *
      clear h1 h2 HV
      go_enter Try.func12, Try.ntmps12
      go_wp2_with (first | (go_at_call 14; refine (H1.out _).mono ?_; clear H1; rintro e w1 ⟨rfl, J1, d1, rfl⟩) | (go_at_call 14; refine (H2.out _).mono ?_; clear H2; rintro e w1 ⟨rfl, J2, d2, rfl⟩))
      refine bodyPost_ret (results_pt rfl _ _ (w.heap.size + 1 + 1) #[.int .i64 0, .int .i64 0] rfl (by simp [go_sem]) rfl) rfl ⟨rfl, junk_of_below (by (repeat' (first | (with_reducible exact Below.refl _ _) | (with_reducible assumption) | (with_reducible refine Below.alloc ?_ ?_ _) | (with_reducible refine Below.drew ?_) | (with_reducible refine below_drewN ?_ _) | (with_reducible refine below_plus ?_ ?_ _ _) | (with_reducible refine Below.setCell ?_ ?_ _) | (with_reducible refine Below.setRow ?_ ?_ _) | go_size)))⟩
    | true =>
      have H2 := Lib.hid (fun w' => r_ptValid u v w')
      rw [h2] at H2
      have hx := okP_iff.1 h1
      have hy := okP_iff.1 h2
      obtain ⟨⟨a1, a2⟩, a3, a4⟩ := hx
      obtain ⟨⟨b1, b2⟩, b3, b4⟩ := hy
      have c1 : IntKind.i64.wrap (x + u) = x + u := by simp [IntKind.wrap, IntKind.signed, IntKind.bits]; omega
      have c2 : IntKind.i64.wrap (y + v) = y + v := by simp [IntKind.wrap, IntKind.signed, IntKind.bits]; omega
      have H3 := Lib.hid (fun w' => r_ptValid (x + u) (y + v) w')
      cases h3 : okP (x + u) (y + v) with
      | false =>
        rw [h3] at H3
        simp only [Bool.and_self, if_true, Bool.false_eq_true, if_false, show ¬ (5 : Int) = 0 by decide]
        unfold pt at *
        clear h1 h2 h3 HV
        go_enter Try.func12, Try.ntmps12
        go_wp2_with (first | (go_at_call 14; refine (H1.out _).mono ?_; clear H1; rintro e w1 ⟨rfl, J1, d1, rfl⟩) | (go_at_call 14; refine (H2.out _).mono ?_; clear H2; rintro e w1 ⟨rfl, J2, d2, rfl⟩) | (go_at_call 14; refine (H3.out _).mono ?_; clear H3; rintro e w1 ⟨rfl, J3, d3, rfl⟩))
        refine bodyPost_ret (results_pt rfl _ _ (w.heap.size + 1 + 1) #[.int .i64 0, .int .i64 0] rfl (by simp [go_sem]) rfl) rfl ⟨rfl, junk_of_below (by (repeat' (first | (with_reducible exact Below.refl _ _) | (with_reducible assumption) | (with_reducible refine Below.alloc ?_ ?_ _) | (with_reducible refine Below.drew ?_) | (with_reducible refine below_drewN ?_ _) | (with_reducible refine below_plus ?_ ?_ _ _) | (with_reducible refine Below.setCell ?_ ?_ _) | (with_reducible refine Below.setRow ?_ ?_ _) | go_size)))⟩
      | true =>
        rw [h3] at H3
        simp only [Bool.and_self, if_true]
        unfold pt at *
        clear h1 h2 h3 HV
        go_enter Try.func12, Try.ntmps12
        go_wp2_with (first | (go_at_call 14; refine (H1.out _).mono ?_; clear H1; rintro e w1 ⟨rfl, J1, d1, rfl⟩) | (go_at_call 14; refine (H2.out _).mono ?_; clear H2; rintro e w1 ⟨rfl, J2, d2, rfl⟩) | (go_at_call 14; refine (H3.out _).mono ?_; clear H3; rintro e w1 ⟨rfl, J3, d3, rfl⟩))
        refine bodyPost_ret (results_pt rfl _ _ (w.heap.size + 1 + 1) #[.int .i64 (x + u), .int .i64 (y + v)] rfl (by simp [go_sem]) rfl) rfl ⟨rfl, junk_of_below (by (repeat' (first | (with_reducible exact Below.refl _ _) | (with_reducible assumption) | (with_reducible refine Below.alloc ?_ ?_ _) | (with_reducible refine Below.drew ?_) | (with_reducible refine below_drewN ?_ _) | (with_reducible refine below_plus ?_ ?_ _ _) | (with_reducible refine Below.setCell ?_ ?_ _) | (with_reducible refine Below.setRow ?_ ?_ _) | go_size)))⟩
end Go.Proofs.Ytlfjbbelanccbaa

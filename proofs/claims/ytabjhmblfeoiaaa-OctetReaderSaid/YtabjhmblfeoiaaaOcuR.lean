/- Contracts of apportionref05's Reader: Int, Count. -/
import Derived.Test.YtabjhmblfeoiaaaOcuQ
namespace Go.Proofs.Ytabjhmblfeoiaaa
set_option linter.unusedVariables false
set_option linter.unusedSimpArgs false
open Go.RowKit

set_option maxRecDepth 100000 in
set_option maxHeartbeats 4000000 in
theorem r_Int (w : World) (b : Nat) (a : Option Addr) (len cap : Nat) (L : List UInt8) (hR : BIn w a len L cap) (pl e f lo hi : Int) (hp : I64 pl) (hrow : w.rowAt b = some (rcells a len cap pl e f))
    (r : Int × Int × Int × Int) (hr : Hid (numR (chkP (within lo hi) L pl) pl e f = r)) :
    Calls Try.prog 33 #[.pointer (some ⟨b, 0, none⟩), .int .i64 lo, .int .i64 hi] w fun e w' => e = .returned (.int .i64 r.1) ∧ Turned b (rcells a len cap r.2.1 r.2.2.1 r.2.2.2) w w' := by
  have HR := Lib.hid hR
  have hr := hr.out
  unfold numR at hr
  have c0 := ucell_of_row hrow 0
  have c1 := ucell_of_row hrow 1
  have c2 := ucell_of_row hrow 2
  have c3 := ucell_of_row hrow 3
  have f0 := ufrozen_of_row hrow
  have hb := World.block_lt_of_cell? _ _ c0
  simp [rcells] at c0 c1 c2 c3
  have HROW := Lib.hid hrow
  clear hrow
  by_cases he : e ≠ 0
  · rw [if_pos he] at hr
    subst hr
    have e2 : (e != 0) = true := bne_iff_ne.2 he
    clear he hR hp
    go_enter Try.func33, Try.ntmps33
    go_wp2
    go_ret
    exact ⟨rfl, turned_self HROW.out (junk_of_below (by (repeat' (first | (with_reducible exact Below.refl _ _) | (with_reducible assumption) | (with_reducible refine Below.alloc ?_ ?_ _) | (with_reducible refine Below.drew ?_) | (with_reducible refine below_drewN ?_ _) | (with_reducible refine below_plus ?_ ?_ _ _) | (with_reducible refine Below.setCell ?_ ?_ _) | (with_reducible refine Below.setRow ?_ ?_ _) | go_size))))⟩
  obtain rfl : e = 0 := Decidable.of_not_not he
  rw [if_neg he] at hr
  clear he
  have HGet := fun w' (h : BIn w' a len L cap) => r_Get w' a len cap L h.reads h.none h.small pl hp _ (Lib.hid rfl)
  unfold chkP at hr
  generalize getP L pl = G at *
  obtain ⟨n, q, e, a'⟩ := G
  have HGet := Lib.hid HGet
  simp only at hr
  have HRR := Lib.hid hr
  clear hr hR hp
  go_enter Try.func33, Try.ntmps33
  go_upto_region 3 with fail
  go_cut [7, 8, 9] from 16 (fun x y p wx => x = .int .i64 n ∧ y = .int .i64 q ∧ ∃ J1 d1 J2 d2, wx = ((w.plus J1 d1).alloc (.cells #[.int .i64 e, .int .i64 a'] 36)).plus J2 d2 ∧ p = .pointer (some ⟨w.heap.size + J1.size, 0, none⟩))
  case first =>
    go_region_with (go_at_call 24; refine (HGet.out _ (HR.out.below (by (repeat' (first | (with_reducible exact Below.refl _ _) | (with_reducible assumption) | (with_reducible refine Below.alloc ?_ ?_ _) | (with_reducible refine Below.drew ?_) | (with_reducible refine below_drewN ?_ _) | (with_reducible refine below_plus ?_ ?_ _ _) | (with_reducible refine Below.setCell ?_ ?_ _) | (with_reducible refine Below.setRow ?_ ?_ _) | go_size))))).mono ?_; rintro e w' ⟨rfl, J, dr, rfl⟩)
    all_goals (go_wp2_with fail; go_meet; exact ⟨rfl, rfl, by first | exact met_first | exact met_last⟩)
  obtain ⟨rfl, rfl, J1, d1, J2, d2, rfl, rfl⟩ := hcut
  have hr := HRR.out
  by_cases he1 : e ≠ 0
  · rw [if_pos he1] at hr
    have hr : (0, pl, e, a') = r := by rw [← hr, if_pos he1]
    subst hr
    have e2 : (e != 0) = true := bne_iff_ne.2 he1
    have e3 : (e == 0) = false := beq_eq_false_iff_ne.2 he1
    clear he1
    have HS := Lib.hid (show (w.setCell ⟨b, 2, none⟩ (.int .i64 e)).setCell ⟨b, 3, none⟩ (.int .i64 a') = w.setRow b (rcells a len cap pl e a') by rw [set2 HROW.out]; rfl)
    go_wp2
    go_ret
    refine ⟨rfl, ?_⟩
    unfold Turned
    rw [HS.out]
    exact junk_of_below (by (repeat' (first | (with_reducible exact Below.refl _ _) | (with_reducible assumption) | (with_reducible refine Below.alloc ?_ ?_ _) | (with_reducible refine Below.drew ?_) | (with_reducible refine below_drewN ?_ _) | (with_reducible refine below_plus ?_ ?_ _ _) | (with_reducible refine Below.setCell ?_ ?_ _) | (with_reducible refine Below.setRow ?_ ?_ _) | go_size)))
  obtain rfl : e = 0 := Decidable.of_not_not he1
  rw [if_neg he1] at hr
  unfold within at hr
  clear he1
  by_cases d1 : n < lo
  · rw [if_pos (Or.inl d1), if_pos (show (5 : Int) ≠ 0 by decide)] at hr
    have hr : (0, pl, 5, pl) = r := hr
    subst hr
    have HS := Lib.hid (show (w.setCell ⟨b, 2, none⟩ (.int .i64 5)).setCell ⟨b, 3, none⟩ (.int .i64 pl) = w.setRow b (rcells a len cap pl 5 pl) by rw [set2 HROW.out]; rfl)
    go_wp2
    go_ret
    refine ⟨rfl, ?_⟩
    unfold Turned
    rw [HS.out]
    exact junk_of_below (by (repeat' (first | (with_reducible exact Below.refl _ _) | (with_reducible assumption) | (with_reducible refine Below.alloc ?_ ?_ _) | (with_reducible refine Below.drew ?_) | (with_reducible refine below_drewN ?_ _) | (with_reducible refine below_plus ?_ ?_ _ _) | (with_reducible refine Below.setCell ?_ ?_ _) | (with_reducible refine Below.setRow ?_ ?_ _) | go_size)))
  by_cases d2 : hi < n
  · rw [if_pos (Or.inr d2), if_pos (show (5 : Int) ≠ 0 by decide)] at hr
    have hr : (0, pl, 5, pl) = r := hr
    subst hr
    have HS := Lib.hid (show (w.setCell ⟨b, 2, none⟩ (.int .i64 5)).setCell ⟨b, 3, none⟩ (.int .i64 pl) = w.setRow b (rcells a len cap pl 5 pl) by rw [set2 HROW.out]; rfl)
    go_wp2
    go_ret
    refine ⟨rfl, ?_⟩
    unfold Turned
    rw [HS.out]
    exact junk_of_below (by (repeat' (first | (with_reducible exact Below.refl _ _) | (with_reducible assumption) | (with_reducible refine Below.alloc ?_ ?_ _) | (with_reducible refine Below.drew ?_) | (with_reducible refine below_drewN ?_ _) | (with_reducible refine below_plus ?_ ?_ _ _) | (with_reducible refine Below.setCell ?_ ?_ _) | (with_reducible refine Below.setRow ?_ ?_ _) | go_size)))
  · rw [if_neg (show ¬ (n < lo ∨ hi < n) by omega), if_neg (show ¬ (0 : Int) ≠ 0 by decide)] at hr
    have hr : (n, q, 0, f) = r := hr
    subst hr
    have HS := Lib.hid (show w.setCell ⟨b, 1, none⟩ (.int .i64 q) = w.setRow b (rcells a len cap q 0 f) by rw [set1 HROW.out]; rfl)
    go_wp2
    go_ret
    refine ⟨rfl, ?_⟩
    unfold Turned
    rw [HS.out]
    exact junk_of_below (by (repeat' (first | (with_reducible exact Below.refl _ _) | (with_reducible assumption) | (with_reducible refine Below.alloc ?_ ?_ _) | (with_reducible refine Below.drew ?_) | (with_reducible refine below_drewN ?_ _) | (with_reducible refine below_plus ?_ ?_ _ _) | (with_reducible refine Below.setCell ?_ ?_ _) | (with_reducible refine Below.setRow ?_ ?_ _) | go_size)))

set_option maxRecDepth 100000 in
set_option maxHeartbeats 4000000 in
theorem r_Count (w : World) (b : Nat) (a : Option Addr) (len cap : Nat) (L : List UInt8) (hR : BIn w a len L cap) (pl e f most : Int) (hp : I64 pl) (hrow : w.rowAt b = some (rcells a len cap pl e f))
    (r : Int × Int × Int × Int) (hr : Hid (numR (chkP (countE most) L pl) pl e f = r)) :
    Calls Try.prog 37 #[.pointer (some ⟨b, 0, none⟩), .int .i64 most] w fun e w' => e = .returned (.int .i64 r.1) ∧ Turned b (rcells a len cap r.2.1 r.2.2.1 r.2.2.2) w w' := by
  have HR := Lib.hid hR
  have hr := hr.out
  unfold numR at hr
  have c0 := ucell_of_row hrow 0
  have c1 := ucell_of_row hrow 1
  have c2 := ucell_of_row hrow 2
  have c3 := ucell_of_row hrow 3
  have f0 := ufrozen_of_row hrow
  have hb := World.block_lt_of_cell? _ _ c0
  simp [rcells] at c0 c1 c2 c3
  have HROW := Lib.hid hrow
  clear hrow
  by_cases he : e ≠ 0
  · rw [if_pos he] at hr
    subst hr
    have e2 : (e != 0) = true := bne_iff_ne.2 he
    clear he hR hp
    go_enter Try.func37, Try.ntmps37
    go_wp2
    go_ret
    exact ⟨rfl, turned_self HROW.out (junk_of_below (by (repeat' (first | (with_reducible exact Below.refl _ _) | (with_reducible assumption) | (with_reducible refine Below.alloc ?_ ?_ _) | (with_reducible refine Below.drew ?_) | (with_reducible refine below_drewN ?_ _) | (with_reducible refine below_plus ?_ ?_ _ _) | (with_reducible refine Below.setCell ?_ ?_ _) | (with_reducible refine Below.setRow ?_ ?_ _) | go_size))))⟩
  obtain rfl : e = 0 := Decidable.of_not_not he
  rw [if_neg he] at hr
  clear he
  have HGet := fun w' (h : BIn w' a len L cap) => r_Get w' a len cap L h.reads h.none h.small pl hp _ (Lib.hid rfl)
  unfold chkP at hr
  generalize getP L pl = G at *
  obtain ⟨n, q, e, a'⟩ := G
  have HGet := Lib.hid HGet
  simp only at hr
  have HRR := Lib.hid hr
  clear hr hR hp
  go_enter Try.func37, Try.ntmps37
  go_upto_region 3 with fail
  go_cut [5, 6, 7] from 14 (fun x y p wx => x = .int .i64 n ∧ y = .int .i64 q ∧ ∃ J1 d1 J2 d2, wx = ((w.plus J1 d1).alloc (.cells #[.int .i64 e, .int .i64 a'] 36)).plus J2 d2 ∧ p = .pointer (some ⟨w.heap.size + J1.size, 0, none⟩))
  case first =>
    go_region_with (go_at_call 24; refine (HGet.out _ (HR.out.below (by (repeat' (first | (with_reducible exact Below.refl _ _) | (with_reducible assumption) | (with_reducible refine Below.alloc ?_ ?_ _) | (with_reducible refine Below.drew ?_) | (with_reducible refine below_drewN ?_ _) | (with_reducible refine below_plus ?_ ?_ _ _) | (with_reducible refine Below.setCell ?_ ?_ _) | (with_reducible refine Below.setRow ?_ ?_ _) | go_size))))).mono ?_; rintro e w' ⟨rfl, J, dr, rfl⟩)
    all_goals (go_wp2_with fail; go_meet; exact ⟨rfl, rfl, by first | exact met_first | exact met_last⟩)
  obtain ⟨rfl, rfl, J1, d1, J2, d2, rfl, rfl⟩ := hcut
  have hr := HRR.out
  by_cases he1 : e ≠ 0
  · rw [if_pos he1] at hr
    have hr : (0, pl, e, a') = r := by rw [← hr, if_pos he1]
    subst hr
    have e2 : (e != 0) = true := bne_iff_ne.2 he1
    have e3 : (e == 0) = false := beq_eq_false_iff_ne.2 he1
    clear he1
    have HS := Lib.hid (show (w.setCell ⟨b, 2, none⟩ (.int .i64 e)).setCell ⟨b, 3, none⟩ (.int .i64 a') = w.setRow b (rcells a len cap pl e a') by rw [set2 HROW.out]; rfl)
    go_wp2
    go_ret
    refine ⟨rfl, ?_⟩
    unfold Turned
    rw [HS.out]
    exact junk_of_below (by (repeat' (first | (with_reducible exact Below.refl _ _) | (with_reducible assumption) | (with_reducible refine Below.alloc ?_ ?_ _) | (with_reducible refine Below.drew ?_) | (with_reducible refine below_drewN ?_ _) | (with_reducible refine below_plus ?_ ?_ _ _) | (with_reducible refine Below.setCell ?_ ?_ _) | (with_reducible refine Below.setRow ?_ ?_ _) | go_size)))
  obtain rfl : e = 0 := Decidable.of_not_not he1
  rw [if_neg he1] at hr
  unfold countE within at hr
  clear he1
  by_cases d1 : most < n
  · rw [if_pos d1, if_pos (show (3 : Int) ≠ 0 by decide)] at hr
    have hr : (0, pl, 3, pl) = r := hr
    subst hr
    have HS := Lib.hid (show (w.setCell ⟨b, 2, none⟩ (.int .i64 3)).setCell ⟨b, 3, none⟩ (.int .i64 pl) = w.setRow b (rcells a len cap pl 3 pl) by rw [set2 HROW.out]; rfl)
    go_wp2
    go_ret
    refine ⟨rfl, ?_⟩
    unfold Turned
    rw [HS.out]
    exact junk_of_below (by (repeat' (first | (with_reducible exact Below.refl _ _) | (with_reducible assumption) | (with_reducible refine Below.alloc ?_ ?_ _) | (with_reducible refine Below.drew ?_) | (with_reducible refine below_drewN ?_ _) | (with_reducible refine below_plus ?_ ?_ _ _) | (with_reducible refine Below.setCell ?_ ?_ _) | (with_reducible refine Below.setRow ?_ ?_ _) | go_size)))
  rw [if_neg d1] at hr
  by_cases d2 : n < 0
  · rw [if_pos (Or.inl d2), if_pos (show (5 : Int) ≠ 0 by decide)] at hr
    have hr : (0, pl, 5, pl) = r := hr
    subst hr
    have HS := Lib.hid (show (w.setCell ⟨b, 2, none⟩ (.int .i64 5)).setCell ⟨b, 3, none⟩ (.int .i64 pl) = w.setRow b (rcells a len cap pl 5 pl) by rw [set2 HROW.out]; rfl)
    go_wp2
    go_ret
    refine ⟨rfl, ?_⟩
    unfold Turned
    rw [HS.out]
    exact junk_of_below (by (repeat' (first | (with_reducible exact Below.refl _ _) | (with_reducible assumption) | (with_reducible refine Below.alloc ?_ ?_ _) | (with_reducible refine Below.drew ?_) | (with_reducible refine below_drewN ?_ _) | (with_reducible refine below_plus ?_ ?_ _ _) | (with_reducible refine Below.setCell ?_ ?_ _) | (with_reducible refine Below.setRow ?_ ?_ _) | go_size)))
  · rw [if_neg (show ¬ (n < 0 ∨ most < n) by omega), if_neg (show ¬ (0 : Int) ≠ 0 by decide)] at hr
    have hr : (n, q, 0, f) = r := hr
    subst hr
    have HS := Lib.hid (show w.setCell ⟨b, 1, none⟩ (.int .i64 q) = w.setRow b (rcells a len cap q 0 f) by rw [set1 HROW.out]; rfl)
    go_wp2
    go_ret
    refine ⟨rfl, ?_⟩
    unfold Turned
    rw [HS.out]
    exact junk_of_below (by (repeat' (first | (with_reducible exact Below.refl _ _) | (with_reducible assumption) | (with_reducible refine Below.alloc ?_ ?_ _) | (with_reducible refine Below.drew ?_) | (with_reducible refine below_drewN ?_ _) | (with_reducible refine below_plus ?_ ?_ _ _) | (with_reducible refine Below.setCell ?_ ?_ _) | (with_reducible refine Below.setRow ?_ ?_ _) | go_size)))

end Go.Proofs.Ytabjhmblfeoiaaa

/- Contracts of apportionref05's Reader: Text, End. -/
import Derived.Test.YtabjhmblfeoiaaaOcuQ
namespace Go.Proofs.Ytabjhmblfeoiaaa
set_option linter.unusedVariables false
set_option linter.unusedSimpArgs false
open Go.RowKit

set_option maxRecDepth 100000 in
set_option maxHeartbeats 4000000 in
theorem r_Text (w : World) (b : Nat) (a : Option Addr) (len cap : Nat) (L : List UInt8) (hR : BIn w a len L cap) (pl e f most : Int) (hp : I64 pl) (hm : I64 most) (hrow : w.rowAt b = some (rcells a len cap pl e f))
    (r : List UInt8 × Int × Int × Int) (hr : Hid (txtR (textP L pl most) pl e f = r)) :
    Calls Try.prog 35 #[.pointer (some ⟨b, 0, none⟩), .int .i64 most] w fun e w' => e = .returned (.string ⟨r.1.toArray⟩) ∧ Turned b (rcells a len cap r.2.1 r.2.2.1 r.2.2.2) w w' := by
  have HR := Lib.hid hR
  have hr := hr.out
  unfold txtR at hr
  have c0 := ucell_of_row hrow 0
  have c1 := ucell_of_row hrow 1
  have c2 := ucell_of_row hrow 2
  have c3 := ucell_of_row hrow 3
  have f0 := ufrozen_of_row hrow
  have hb := World.block_lt_of_cell? _ _ c0
  simp [rcells] at c0 c1 c2 c3
  have HROW := Lib.hid hrow
  clear hrow
  by_cases he : e ≠ 0
  · rw [if_pos he] at hr
    subst hr
    have e2 : (e != 0) = true := bne_iff_ne.2 he
    clear he hR hp hm
    go_enter Try.func35, Try.ntmps35
    go_wp2
    go_ret
    exact ⟨rfl, turned_self HROW.out (junk_of_below (by (repeat' (first | (with_reducible exact Below.refl _ _) | (with_reducible assumption) | (with_reducible refine Below.alloc ?_ ?_ _) | (with_reducible refine Below.drew ?_) | (with_reducible refine below_drewN ?_ _) | (with_reducible refine below_plus ?_ ?_ _ _) | (with_reducible refine Below.setCell ?_ ?_ _) | (with_reducible refine Below.setRow ?_ ?_ _) | go_size))))⟩
  obtain rfl : e = 0 := Decidable.of_not_not he
  rw [if_neg he] at hr
  clear he
  have HGet := fun w' (h : BIn w' a len L cap) => r_GetText w' a len cap L h pl most hp hm _ (Lib.hid rfl)
  generalize textP L pl most = G at *
  obtain ⟨s, q, e, a'⟩ := G
  have HGet := Lib.hid HGet
  simp only at hr
  have HRR := Lib.hid hr
  clear hr hR hp hm
  go_enter Try.func35, Try.ntmps35
  go_upto_region 3 with fail
  go_cut [5, 6, 7] from 14 (fun x y p wx => x = .string ⟨s.toArray⟩ ∧ y = .int .i64 q ∧ ∃ J1 d1 J2 d2, wx = ((w.plus J1 d1).alloc (.cells #[.int .i64 e, .int .i64 a'] 36)).plus J2 d2 ∧ p = .pointer (some ⟨w.heap.size + J1.size, 0, none⟩))
  case first =>
    go_region_with (go_at_call 26; refine (HGet.out _ (HR.out.below (by (repeat' (first | (with_reducible exact Below.refl _ _) | (with_reducible assumption) | (with_reducible refine Below.alloc ?_ ?_ _) | (with_reducible refine Below.drew ?_) | (with_reducible refine below_drewN ?_ _) | (with_reducible refine below_plus ?_ ?_ _ _) | (with_reducible refine Below.setCell ?_ ?_ _) | (with_reducible refine Below.setRow ?_ ?_ _) | go_size))))).mono ?_; rintro e w' ⟨rfl, J, dr, rfl⟩)
    all_goals (go_wp2_with fail; go_meet; exact ⟨rfl, rfl, by first | exact met_first | exact met_last⟩)
  obtain ⟨rfl, rfl, J1, d1, J2, d2, rfl, rfl⟩ := hcut
  have hr := HRR.out
  by_cases he1 : e ≠ 0
  · rw [if_pos he1] at hr
    subst hr
    have e2 : (e != 0) = true := bne_iff_ne.2 he1
    have e3 : (e == 0) = false := beq_eq_false_iff_ne.2 he1
    clear he1
    have HS := Lib.hid (show (w.setCell ⟨b, 2, none⟩ (.int .i64 e)).setCell ⟨b, 3, none⟩ (.int .i64 a') = w.setRow b (rcells a len cap pl e a') by rw [set2 HROW.out]; rfl)
    go_wp2
    go_ret
    refine ⟨rfl, ?_⟩
    unfold Turned
    rw [HS.out]
    exact junk_of_below (by (repeat' (first | (with_reducible exact Below.refl _ _) | (with_reducible assumption) | (with_reducible refine Below.alloc ?_ ?_ _) | (with_reducible refine Below.drew ?_) | (with_reducible refine below_drewN ?_ _) | (with_reducible refine below_plus ?_ ?_ _ _) | (with_reducible refine Below.setCell ?_ ?_ _) | (with_reducible refine Below.setRow ?_ ?_ _) | go_size)))
  · obtain rfl : e = 0 := Decidable.of_not_not he1
    rw [if_neg he1] at hr
    subst hr
    have HS := Lib.hid (show w.setCell ⟨b, 1, none⟩ (.int .i64 q) = w.setRow b (rcells a len cap q 0 f) by rw [set1 HROW.out]; rfl)
    go_wp2
    go_ret
    refine ⟨rfl, ?_⟩
    unfold Turned
    rw [HS.out]
    exact junk_of_below (by (repeat' (first | (with_reducible exact Below.refl _ _) | (with_reducible assumption) | (with_reducible refine Below.alloc ?_ ?_ _) | (with_reducible refine Below.drew ?_) | (with_reducible refine below_drewN ?_ _) | (with_reducible refine below_plus ?_ ?_ _ _) | (with_reducible refine Below.setCell ?_ ?_ _) | (with_reducible refine Below.setRow ?_ ?_ _) | go_size)))

theorem results_f1 {fn : Func} {p : Tmp} (h : fn.results = #[.cell p 36]) (tmps : Array Value) (w : World) (g : Nat) (c : Array Value)
    (hp : tmps.getD p undef = .pointer (some ⟨g, 0, none⟩)) (hr : w.rowAt g = some c) (hc : c.size = 2) : (results fn tmps).run Try.prog w = .ok (.agg c) w := by
  obtain ⟨ty, hg⟩ := rowAt_some hr
  have hp' : tmps[p]?.getD undef = .pointer (some ⟨g, 0, none⟩) := by simpa using hp
  simp [results, h, hp', asAddr, run_loadVar_row w g ty _ c (0, 0) _ hg Try.underlying36 rfl (by rw [hc]; kernel_rfl)]

set_option maxRecDepth 100000 in
set_option maxHeartbeats 4000000 in
theorem r_End (w : World) (b : Nat) (a : Option Addr) (len cap : Nat) (L : List UInt8) (hL : L.length = len) (hs : len ≤ 1099511627776) (pl e f : Int) (hrow : w.rowAt b = some (rcells a len cap pl e f))
    (r : Int × Int) (hr : Hid (endR L pl e f = r)) :
    Calls Try.prog 39 #[.pointer (some ⟨b, 0, none⟩)] w fun e w' => e = .returned (.agg #[.int .i64 r.1, .int .i64 r.2]) ∧ Junk w w' := by
  have hr := hr.out
  unfold endR at hr
  have c0 := ucell_of_row hrow 0
  have c1 := ucell_of_row hrow 1
  have c2 := ucell_of_row hrow 2
  have c3 := ucell_of_row hrow 3
  have f0 := ufrozen_of_row hrow
  have hb := World.block_lt_of_cell? _ _ c0
  simp [rcells] at c0 c1 c2 c3
  subst hL
  by_cases he : e = 0
  · subst he
    by_cases hl : pl < (L.length : Int)
    · rw [if_pos ⟨rfl, hl⟩] at hr
      subst hr
      go_enter Try.func39, Try.ntmps39
      go_wp2_with fail
      go_region
      all_goals go_wp2
      all_goals refine bodyPost_ret (results_f1 rfl _ _ w.heap.size #[.int .i64 4, .int .i64 pl] rfl (by simp [go_sem]) rfl) rfl ⟨rfl, junk_of_below (by (repeat' (first | (with_reducible exact Below.refl _ _) | (with_reducible assumption) | (with_reducible refine Below.alloc ?_ ?_ _) | (with_reducible refine Below.drew ?_) | (with_reducible refine below_drewN ?_ _) | (with_reducible refine below_plus ?_ ?_ _ _) | (with_reducible refine Below.setCell ?_ ?_ _) | (with_reducible refine Below.setRow ?_ ?_ _) | go_size)))⟩
    · rw [if_neg (fun h => hl h.2)] at hr
      subst hr
      go_enter Try.func39, Try.ntmps39
      go_wp2_with fail
      go_region
      all_goals go_wp2
      all_goals refine bodyPost_ret (results_f1 rfl _ _ w.heap.size #[.int .i64 0, .int .i64 f] rfl (by simp [go_sem]) rfl) rfl ⟨rfl, junk_of_below (by (repeat' (first | (with_reducible exact Below.refl _ _) | (with_reducible assumption) | (with_reducible refine Below.alloc ?_ ?_ _) | (with_reducible refine Below.drew ?_) | (with_reducible refine below_drewN ?_ _) | (with_reducible refine below_plus ?_ ?_ _ _) | (with_reducible refine Below.setCell ?_ ?_ _) | (with_reducible refine Below.setRow ?_ ?_ _) | go_size)))⟩
  · rw [if_neg (fun h => he h.1)] at hr
    subst hr
    have e3 : (e == 0) = false := beq_eq_false_iff_ne.2 he
    clear he
    go_enter Try.func39, Try.ntmps39
    go_wp2_with fail
    go_region
    all_goals go_wp2
    all_goals refine bodyPost_ret (results_f1 rfl _ _ w.heap.size #[.int .i64 e, .int .i64 f] rfl (by simp [go_sem]) rfl) rfl ⟨rfl, junk_of_below (by (repeat' (first | (with_reducible exact Below.refl _ _) | (with_reducible assumption) | (with_reducible refine Below.alloc ?_ ?_ _) | (with_reducible refine Below.drew ?_) | (with_reducible refine below_drewN ?_ _) | (with_reducible refine below_plus ?_ ?_ _ _) | (with_reducible refine Below.setCell ?_ ?_ _) | (with_reducible refine Below.setRow ?_ ?_ _) | go_size)))⟩
end Go.Proofs.Ytabjhmblfeoiaaa

/- The law PointSmall: the walk. -/
import Derived.Test.YtlfjbbelanccbaaPtJ
import Derived.Test.YtlfjbbelanccbaaLtx
namespace Go.Proofs.Ytlfjbbelanccbaa
set_option linter.unusedVariables false
set_option linter.unusedSimpArgs false
open Go.RowKit

def SmallTo (zs : List Int) (k : Nat) : Prop := ∀ j, j < k → -1048576 ≤ zs.getD j 0 ∧ zs.getD j 0 ≤ 1048576
def SmallAt (zs : List Int) (W : World) (i : Value) (wr : World) : Prop := ∃ k : Nat, i = .int .i64 (k : Int) ∧ k ≤ 6 ∧ SmallTo zs k ∧ wr = W
theorem SmallTo.next {zs : List Int} {k : Nat} (h : SmallTo zs k) {z : Int} (hz : zs.getD k 0 = z) (h1 : ¬ z < -1048576) (h2 : ¬ 1048576 < z) : SmallTo zs (k + 1) := by
  intro j hj
  by_cases e : j = k
  · subst e; rw [hz]; omega
  · exact h j (by omega)

set_option maxRecDepth 100000 in
set_option maxHeartbeats 4000000 in
theorem l_pointSmall (w : World) (ax ay bx by_ cx cy : Int) : Calls Try.prog 6 #[pt ax ay, pt bx by_, pt cx cy] w fun e w' => e = .returned (.bool true) ∧ Junk w w' := by
  have H9 := Lib.hid l_ptAwake
  have HT := H9
  unfold pt
  go_enter Try.func6, Try.ntmps6
  go_wp2_with (first | (go_at_call 17; (with_reducible refine (HT.out _).mono ?_); rintro e w1 ⟨rfl, J2, d2, rfl⟩) | (go_at_call 21; refine (H9.out _).mono ?_; rintro e w1 ⟨rfl, J1, d1, rfl⟩))
  go_loopw [9] (fun i wr => SmallAt [ax, ay, bx, by_, cx, cy] (((((w.alloc (.cells #[.int .i64 ax, .int .i64 ay] 23)).alloc (.cells #[.int .i64 bx, .int .i64 by_] 23)).alloc (.cells #[.int .i64 cx, .int .i64 cy] 23)).plus J1 d1).alloc (.cells #[.int .i64 ax, .int .i64 ay, .int .i64 bx, .int .i64 by_, .int .i64 cx, .int .i64 cy] 3)) i wr) (fun i _ => 6 - (intOf i).toNat)
  case atStart => exact ⟨0, rfl, by omega, fun j hj => by omega, rfl⟩
  case round =>
    obtain ⟨k, hi, k1, hs, rfl⟩ := hrel
    rcases (show k = 0 ∨ k = 1 ∨ k = 2 ∨ k = 3 ∨ k = 4 ∨ k = 5 ∨ k = 6 by omega) with rfl | rfl | rfl | rfl | rfl | rfl | rfl
    · obtain rfl : _ = Value.int .i64 0 := hi
      have HS := Lib.hid hs
      clear hs
      by_cases h1 : ax < -1048576
      · go_wp2_with fail
        go_ret
        exact ⟨rfl, junk_of_below (by (repeat' (first | (with_reducible exact Below.refl _ _) | (with_reducible assumption) | (with_reducible refine Below.alloc ?_ ?_ _) | (with_reducible refine Below.drew ?_) | (with_reducible refine below_drewN ?_ _) | (with_reducible refine below_plus ?_ ?_ _ _) | (with_reducible refine Below.setCell ?_ ?_ _) | (with_reducible refine Below.setRow ?_ ?_ _) | go_size)))⟩
      by_cases h2 : 1048576 < ax
      · go_wp2_with fail
        go_ret
        exact ⟨rfl, junk_of_below (by (repeat' (first | (with_reducible exact Below.refl _ _) | (with_reducible assumption) | (with_reducible refine Below.alloc ?_ ?_ _) | (with_reducible refine Below.drew ?_) | (with_reducible refine below_drewN ?_ _) | (with_reducible refine below_plus ?_ ?_ _ _) | (with_reducible refine Below.setCell ?_ ?_ _) | (with_reducible refine Below.setRow ?_ ?_ _) | go_size)))⟩
      have HN := Lib.hid (HS.out.next (z := ax) rfl h1 h2)
      go_wp2_with fail
      go_roundw
      case rel => exact ⟨0 + 1, by first | rfl | go_num, by omega, HN.out, rfl⟩
      case measure => simp [intOf]
    · obtain rfl : _ = Value.int .i64 1 := hi
      have HS := Lib.hid hs
      clear hs
      by_cases h1 : ay < -1048576
      · go_wp2_with fail
        go_ret
        exact ⟨rfl, junk_of_below (by (repeat' (first | (with_reducible exact Below.refl _ _) | (with_reducible assumption) | (with_reducible refine Below.alloc ?_ ?_ _) | (with_reducible refine Below.drew ?_) | (with_reducible refine below_drewN ?_ _) | (with_reducible refine below_plus ?_ ?_ _ _) | (with_reducible refine Below.setCell ?_ ?_ _) | (with_reducible refine Below.setRow ?_ ?_ _) | go_size)))⟩
      by_cases h2 : 1048576 < ay
      · go_wp2_with fail
        go_ret
        exact ⟨rfl, junk_of_below (by (repeat' (first | (with_reducible exact Below.refl _ _) | (with_reducible assumption) | (with_reducible refine Below.alloc ?_ ?_ _) | (with_reducible refine Below.drew ?_) | (with_reducible refine below_drewN ?_ _) | (with_reducible refine below_plus ?_ ?_ _ _) | (with_reducible refine Below.setCell ?_ ?_ _) | (with_reducible refine Below.setRow ?_ ?_ _) | go_size)))⟩
      have HN := Lib.hid (HS.out.next (z := ay) rfl h1 h2)
      go_wp2_with fail
      go_roundw
      case rel => exact ⟨1 + 1, by first | rfl | go_num, by omega, HN.out, rfl⟩
      case measure => simp [intOf]
    · obtain rfl : _ = Value.int .i64 2 := hi
      have HS := Lib.hid hs
      clear hs
      by_cases h1 : bx < -1048576
      · go_wp2_with fail
        go_ret
        exact ⟨rfl, junk_of_below (by (repeat' (first | (with_reducible exact Below.refl _ _) | (with_reducible assumption) | (with_reducible refine Below.alloc ?_ ?_ _) | (with_reducible refine Below.drew ?_) | (with_reducible refine below_drewN ?_ _) | (with_reducible refine below_plus ?_ ?_ _ _) | (with_reducible refine Below.setCell ?_ ?_ _) | (with_reducible refine Below.setRow ?_ ?_ _) | go_size)))⟩
      by_cases h2 : 1048576 < bx
      · go_wp2_with fail
        go_ret
        exact ⟨rfl, junk_of_below (by (repeat' (first | (with_reducible exact Below.refl _ _) | (with_reducible assumption) | (with_reducible refine Below.alloc ?_ ?_ _) | (with_reducible refine Below.drew ?_) | (with_reducible refine below_drewN ?_ _) | (with_reducible refine below_plus ?_ ?_ _ _) | (with_reducible refine Below.setCell ?_ ?_ _) | (with_reducible refine Below.setRow ?_ ?_ _) | go_size)))⟩
      have HN := Lib.hid (HS.out.next (z := bx) rfl h1 h2)
      go_wp2_with fail
      go_roundw
      case rel => exact ⟨2 + 1, by first | rfl | go_num, by omega, HN.out, rfl⟩
      case measure => simp [intOf]
    · obtain rfl : _ = Value.int .i64 3 := hi
      have HS := Lib.hid hs
      clear hs
      by_cases h1 : by_ < -1048576
      · go_wp2_with fail
        go_ret
        exact ⟨rfl, junk_of_below (by (repeat' (first | (with_reducible exact Below.refl _ _) | (with_reducible assumption) | (with_reducible refine Below.alloc ?_ ?_ _) | (with_reducible refine Below.drew ?_) | (with_reducible refine below_drewN ?_ _) | (with_reducible refine below_plus ?_ ?_ _ _) | (with_reducible refine Below.setCell ?_ ?_ _) | (with_reducible refine Below.setRow ?_ ?_ _) | go_size)))⟩
      by_cases h2 : 1048576 < by_
      · go_wp2_with fail
        go_ret
        exact ⟨rfl, junk_of_below (by (repeat' (first | (with_reducible exact Below.refl _ _) | (with_reducible assumption) | (with_reducible refine Below.alloc ?_ ?_ _) | (with_reducible refine Below.drew ?_) | (with_reducible refine below_drewN ?_ _) | (with_reducible refine below_plus ?_ ?_ _ _) | (with_reducible refine Below.setCell ?_ ?_ _) | (with_reducible refine Below.setRow ?_ ?_ _) | go_size)))⟩
      have HN := Lib.hid (HS.out.next (z := by_) rfl h1 h2)
      go_wp2_with fail
      go_roundw
      case rel => exact ⟨3 + 1, by first | rfl | go_num, by omega, HN.out, rfl⟩
      case measure => simp [intOf]
    · obtain rfl : _ = Value.int .i64 4 := hi
      have HS := Lib.hid hs
      clear hs
      by_cases h1 : cx < -1048576
      · go_wp2_with fail
        go_ret
        exact ⟨rfl, junk_of_below (by (repeat' (first | (with_reducible exact Below.refl _ _) | (with_reducible assumption) | (with_reducible refine Below.alloc ?_ ?_ _) | (with_reducible refine Below.drew ?_) | (with_reducible refine below_drewN ?_ _) | (with_reducible refine below_plus ?_ ?_ _ _) | (with_reducible refine Below.setCell ?_ ?_ _) | (with_reducible refine Below.setRow ?_ ?_ _) | go_size)))⟩
      by_cases h2 : 1048576 < cx
      · go_wp2_with fail
        go_ret
        exact ⟨rfl, junk_of_below (by (repeat' (first | (with_reducible exact Below.refl _ _) | (with_reducible assumption) | (with_reducible refine Below.alloc ?_ ?_ _) | (with_reducible refine Below.drew ?_) | (with_reducible refine below_drewN ?_ _) | (with_reducible refine below_plus ?_ ?_ _ _) | (with_reducible refine Below.setCell ?_ ?_ _) | (with_reducible refine Below.setRow ?_ ?_ _) | go_size)))⟩
      have HN := Lib.hid (HS.out.next (z := cx) rfl h1 h2)
      go_wp2_with fail
      go_roundw
      case rel => exact ⟨4 + 1, by first | rfl | go_num, by omega, HN.out, rfl⟩
      case measure => simp [intOf]
    · obtain rfl : _ = Value.int .i64 5 := hi
      have HS := Lib.hid hs
      clear hs
      by_cases h1 : cy < -1048576
      · go_wp2_with fail
        go_ret
        exact ⟨rfl, junk_of_below (by (repeat' (first | (with_reducible exact Below.refl _ _) | (with_reducible assumption) | (with_reducible refine Below.alloc ?_ ?_ _) | (with_reducible refine Below.drew ?_) | (with_reducible refine below_drewN ?_ _) | (with_reducible refine below_plus ?_ ?_ _ _) | (with_reducible refine Below.setCell ?_ ?_ _) | (with_reducible refine Below.setRow ?_ ?_ _) | go_size)))⟩
      by_cases h2 : 1048576 < cy
      · go_wp2_with fail
        go_ret
        exact ⟨rfl, junk_of_below (by (repeat' (first | (with_reducible exact Below.refl _ _) | (with_reducible assumption) | (with_reducible refine Below.alloc ?_ ?_ _) | (with_reducible refine Below.drew ?_) | (with_reducible refine below_drewN ?_ _) | (with_reducible refine below_plus ?_ ?_ _ _) | (with_reducible refine Below.setCell ?_ ?_ _) | (with_reducible refine Below.setRow ?_ ?_ _) | go_size)))⟩
      have HN := Lib.hid (HS.out.next (z := cy) rfl h1 h2)
      go_wp2_with fail
      go_roundw
      case rel => exact ⟨5 + 1, by first | rfl | go_num, by omega, HN.out, rfl⟩
      case measure => simp [intOf]
    · obtain rfl : _ = Value.int .i64 6 := hi
      have b0 : -1048576 ≤ ax ∧ ax ≤ 1048576 := hs 0 (by decide)
      have b1 : -1048576 ≤ ay ∧ ay ≤ 1048576 := hs 1 (by decide)
      have b2 : -1048576 ≤ bx ∧ bx ≤ 1048576 := hs 2 (by decide)
      have b3 : -1048576 ≤ by_ ∧ by_ ≤ 1048576 := hs 3 (by decide)
      have b4 : -1048576 ≤ cx ∧ cx ≤ 1048576 := hs 4 (by decide)
      have b5 : -1048576 ≤ cy ∧ cy ≤ 1048576 := hs 5 (by decide)
      have e1 : IntKind.i64.wrap (bx - ax) = bx - ax := by simp [IntKind.wrap, IntKind.signed, IntKind.bits]; omega
      have e2 : IntKind.i64.wrap (cy - ay) = cy - ay := by simp [IntKind.wrap, IntKind.signed, IntKind.bits]; omega
      have e3 : IntKind.i64.wrap (by_ - ay) = by_ - ay := by simp [IntKind.wrap, IntKind.signed, IntKind.bits]; omega
      have e4 : IntKind.i64.wrap (cx - ax) = cx - ax := by simp [IntKind.wrap, IntKind.signed, IntKind.bits]; omega
      have m1 := mul_small (a := bx - ax) (b := cy - ay) (m := 2097152) (by omega) (by omega) (by omega) (by omega)
      have m2 := mul_small (a := by_ - ay) (b := cx - ax) (m := 2097152) (by omega) (by omega) (by omega) (by omega)
      have ht : turnF ax ay bx by_ cx cy = sgn ((bx - ax) * (cy - ay) - (by_ - ay) * (cx - ax)) := by
        unfold turnF
        rw [if_pos (by simp [okP, okI]; omega)]
        rfl
      have HT := Lib.hid (fun w' => n_ptTurn ax ay bx by_ cx cy w')
      rw [ht] at HT
      unfold pt at HT
      clear ht
      obtain ⟨p, hp⟩ : ∃ p, (bx - ax) * (cy - ay) = p := ⟨_, rfl⟩
      obtain ⟨q, hq⟩ : ∃ q, (by_ - ay) * (cx - ax) = q := ⟨_, rfl⟩
      rw [hp] at m1 HT
      rw [hq] at m2 HT
      have e5 : IntKind.i64.wrap p = p := by simp [IntKind.wrap, IntKind.signed, IntKind.bits]; omega
      have e6 : IntKind.i64.wrap q = q := by simp [IntKind.wrap, IntKind.signed, IntKind.bits]; omega
      have e7 : IntKind.i64.wrap (p - q) = p - q := by simp [IntKind.wrap, IntKind.signed, IntKind.bits]; omega
      clear m1 m2 b0 b1 b2 b3 b4 b5 hs
      rcases sgn_cases (p - q) with ⟨h, e⟩ | ⟨h, e⟩ | ⟨h, e⟩
      · rw [e] at HT
        clear e
        have h7 : ¬ p - q < 0 := by omega
        go_wp2_with (first | (go_at_call 17; (with_reducible refine (HT.out _).mono ?_); rintro e w1 ⟨rfl, J3, d3, rfl⟩) | (go_at_call 21; refine (H9.out _).mono ?_; rintro e w1 ⟨rfl, J1, d1, rfl⟩))
        go_ret
        exact ⟨rfl, junk_of_below (by (repeat' (first | (with_reducible exact Below.refl _ _) | (with_reducible assumption) | (with_reducible refine Below.alloc ?_ ?_ _) | (with_reducible refine Below.drew ?_) | (with_reducible refine below_drewN ?_ _) | (with_reducible refine below_plus ?_ ?_ _ _) | (with_reducible refine Below.setCell ?_ ?_ _) | (with_reducible refine Below.setRow ?_ ?_ _) | go_size)))⟩
      · rw [e] at HT
        clear e
        have h7 : ¬ p - q < 0 := by omega
        have h8 : ¬ 0 < p - q := by omega
        go_wp2_with (first | (go_at_call 17; (with_reducible refine (HT.out _).mono ?_); rintro e w1 ⟨rfl, J3, d3, rfl⟩) | (go_at_call 21; refine (H9.out _).mono ?_; rintro e w1 ⟨rfl, J1, d1, rfl⟩))
        go_ret
        exact ⟨rfl, junk_of_below (by (repeat' (first | (with_reducible exact Below.refl _ _) | (with_reducible assumption) | (with_reducible refine Below.alloc ?_ ?_ _) | (with_reducible refine Below.drew ?_) | (with_reducible refine below_drewN ?_ _) | (with_reducible refine below_plus ?_ ?_ _ _) | (with_reducible refine Below.setCell ?_ ?_ _) | (with_reducible refine Below.setRow ?_ ?_ _) | go_size)))⟩
      · rw [e] at HT
        clear e
        have h8 : ¬ 0 < p - q := by omega
        go_wp2_with (first | (go_at_call 17; (with_reducible refine (HT.out _).mono ?_); rintro e w1 ⟨rfl, J3, d3, rfl⟩) | (go_at_call 21; refine (H9.out _).mono ?_; rintro e w1 ⟨rfl, J1, d1, rfl⟩))
        go_ret
        exact ⟨rfl, junk_of_below (by (repeat' (first | (with_reducible exact Below.refl _ _) | (with_reducible assumption) | (with_reducible refine Below.alloc ?_ ?_ _) | (with_reducible refine Below.drew ?_) | (with_reducible refine below_drewN ?_ _) | (with_reducible refine below_plus ?_ ?_ _ _) | (with_reducible refine Below.setCell ?_ ?_ _) | (with_reducible refine Below.setRow ?_ ?_ _) | go_size)))⟩
end Go.Proofs.Ytlfjbbelanccbaa

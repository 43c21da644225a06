/- Contracts of package point: within, Valid, between, share, In, Meet, valid. -/
import Derived.Test.YtlfjbbelanccbaaPtP
namespace Go.Proofs.Ytlfjbbelanccbaa
set_option linter.unusedVariables false
set_option linter.unusedSimpArgs false
open Go.RowKit

theorem n_ptWithin (n : Int) (w : World) : Calls Try.prog 31 #[.int .i64 n] w fun e w' => e = .returned (.bool (okI n)) ∧ w' = w := by
  unfold okI
  by_cases h1 : -1099511627775 ≤ n
  · by_cases h2 : n ≤ 1099511627775
    · go_enter Try.func31, Try.ntmps31
      go_wp2
      go_ret
      exact ⟨by simp [h1, h2], rfl⟩
    · go_enter Try.func31, Try.ntmps31
      go_wp2
      go_ret
      exact ⟨by simp [h1, h2], rfl⟩
  · go_enter Try.func31, Try.ntmps31
    go_wp2
    go_ret
    exact ⟨congrArg Value.bool (by simp; omega) |> congrArg Ending.returned, rfl⟩
theorem n_ptValid (x y : Int) (w : World) : Calls Try.prog 13 #[pt x y] w fun e w' => e = .returned (.bool (okP x y)) ∧ Junk w w' := by
  have HF := Lib.hid n_ptWithin
  unfold pt okP
  cases hx : okI x with
  | false =>
    have HF1 := Lib.hid (fun w' => n_ptWithin x w')
    rw [hx] at HF1
    clear hx
    go_enter Try.func13, Try.ntmps13
    go_wp2_with (go_at_call 31; refine (HF1.out _).mono ?_; rintro e w1 ⟨rfl, rfl⟩)
    go_ret
    exact ⟨rfl, junk_of_below (by (repeat' (first | (with_reducible exact Below.refl _ _) | (with_reducible assumption) | (with_reducible refine Below.alloc ?_ ?_ _) | (with_reducible refine Below.drew ?_) | (with_reducible refine below_drewN ?_ _) | (with_reducible refine below_plus ?_ ?_ _ _) | (with_reducible refine Below.setCell ?_ ?_ _) | (with_reducible refine Below.setRow ?_ ?_ _) | go_size)))⟩
  | true =>
    have HF1 := Lib.hid (fun w' => n_ptWithin x w')
    rw [hx] at HF1
    clear hx
    go_enter Try.func13, Try.ntmps13
    go_wp2_with (first | (go_at_call 31; refine (HF1.out _).mono ?_; clear HF1; rintro e w1 ⟨rfl, rfl⟩) | (go_at_call 31; refine (HF.out _ _).mono ?_; rintro e w1 ⟨rfl, rfl⟩))
    go_ret
    exact ⟨by simp, junk_of_below (by (repeat' (first | (with_reducible exact Below.refl _ _) | (with_reducible assumption) | (with_reducible refine Below.alloc ?_ ?_ _) | (with_reducible refine Below.drew ?_) | (with_reducible refine below_drewN ?_ _) | (with_reducible refine below_plus ?_ ?_ _ _) | (with_reducible refine Below.setCell ?_ ?_ _) | (with_reducible refine Below.setRow ?_ ?_ _) | go_size)))⟩
theorem n_ptBetween (n a b : Int) (w : World) : Calls Try.prog 37 #[.int .i64 n, .int .i64 a, .int .i64 b] w fun e w' => e = .returned (.bool (decide (btw n a b))) ∧ w' = w := by
  obtain ⟨R, hR⟩ : ∃ R, decide (btw n a b) = R := ⟨_, rfl⟩
  rw [hR]
  have HR := Lib.hid hR
  clear hR
  go_enter Try.func37, Try.ntmps37
  go_wp2
  all_goals
    go_ret
    refine ⟨retB ?_, rfl⟩
    rw [← HR.out]
    unfold btw
    first | exact decide_eq_decide.2 (by omega) | exact (decide_eq_false (by omega)).symm | exact (decide_eq_true (by omega)).symm
theorem n_ptShare (a b c d : Int) (w : World) : Calls Try.prog 44 #[.int .i64 a, .int .i64 b, .int .i64 c, .int .i64 d] w fun e w' => e = .returned (.bool (decide (max a c < min b d))) ∧ w' = w := by
  obtain ⟨R, hR⟩ : ∃ R, decide (max a c < min b d) = R := ⟨_, rfl⟩
  rw [hR]
  have HR := Lib.hid hR
  clear hR
  go_enter Try.func44, Try.ntmps44
  go_wp2
  all_goals
    go_ret
    refine ⟨retB ?_, rfl⟩
    rw [← HR.out]
    first | exact decide_eq_decide.2 (by omega) | exact (decide_eq_false (by omega)).symm | exact (decide_eq_true (by omega)).symm
theorem n_ptIn (px py lx ly hx hy : Int) (w : World) : Calls Try.prog 25 #[pt px py, bxV lx ly hx hy] w fun e w' => e = .returned (.bool (inF px py lx ly hx hy)) ∧ Junk w w' := by
  obtain ⟨R, hR⟩ : ∃ R, inF px py lx ly hx hy = R := ⟨_, rfl⟩
  rw [hR]
  have HR := Lib.hid hR
  clear hR
  unfold bxV pt
  go_enter Try.func25, Try.ntmps25
  go_wp2
  all_goals
    go_ret
    refine ⟨retB ?_, junk_of_below (by (repeat' (first | (with_reducible exact Below.refl _ _) | (with_reducible assumption) | (with_reducible refine Below.alloc ?_ ?_ _) | (with_reducible refine Below.drew ?_) | (with_reducible refine below_drewN ?_ _) | (with_reducible refine below_plus ?_ ?_ _ _) | (with_reducible refine Below.setCell ?_ ?_ _) | (with_reducible refine Below.setRow ?_ ?_ _) | go_size)))⟩
    rw [← HR.out]
    unfold inF
    first | exact decide_eq_decide.2 (by omega) | exact (decide_eq_false (by omega)).symm | exact (decide_eq_true (by omega)).symm
theorem meetF_two (lx ly hx hy kx ky mx my : Int) : meetF lx ly hx hy kx ky mx my = (decide (max lx kx < min hx mx) && decide (max ly ky < min hy my)) := by
  unfold meetF; simp
theorem n_ptMeet (lx ly hx hy kx ky mx my : Int) (w : World) : Calls Try.prog 27 #[bxV lx ly hx hy, bxV kx ky mx my] w fun e w' => e = .returned (.bool (meetF lx ly hx hy kx ky mx my)) ∧ Junk w w' := by
  rw [meetF_two]
  have H1 := Lib.hid (fun w' => n_ptShare lx hx kx mx w')
  have H2 := Lib.hid (fun w' => n_ptShare ly hy ky my w')
  generalize decide (max lx kx < min hx mx) = P1 at *
  generalize decide (max ly ky < min hy my) = P2 at *
  unfold bxV
  cases P1 with
  | false =>
    go_enter Try.func27, Try.ntmps27
    go_wp2_with (first | (go_at_call 44; refine (H1.out _).mono ?_; clear H1; rintro e w1 ⟨rfl, rfl⟩) | (go_at_call 44; refine (H2.out _).mono ?_; clear H2; rintro e w1 ⟨rfl, rfl⟩))
    go_ret
    exact ⟨retB (by simp), junk_of_below (by (repeat' (first | (with_reducible exact Below.refl _ _) | (with_reducible assumption) | (with_reducible refine Below.alloc ?_ ?_ _) | (with_reducible refine Below.drew ?_) | (with_reducible refine below_drewN ?_ _) | (with_reducible refine below_plus ?_ ?_ _ _) | (with_reducible refine Below.setCell ?_ ?_ _) | (with_reducible refine Below.setRow ?_ ?_ _) | go_size)))⟩
  | true =>
    go_enter Try.func27, Try.ntmps27
    go_wp2_with (first | (go_at_call 44; refine (H1.out _).mono ?_; clear H1; rintro e w1 ⟨rfl, rfl⟩) | (go_at_call 44; refine (H2.out _).mono ?_; clear H2; rintro e w1 ⟨rfl, rfl⟩))
    go_ret
    exact ⟨retB (by simp), junk_of_below (by (repeat' (first | (with_reducible exact Below.refl _ _) | (with_reducible assumption) | (with_reducible refine Below.alloc ?_ ?_ _) | (with_reducible refine Below.drew ?_) | (with_reducible refine below_drewN ?_ _) | (with_reducible refine below_plus ?_ ?_ _ _) | (with_reducible refine Below.setCell ?_ ?_ _) | (with_reducible refine Below.setRow ?_ ?_ _) | go_size)))⟩

def allOk (K : List (Int × Int)) : Bool := K.all fun p => okP p.1 p.2
def AllAt (w : World) (K : List (Int × Int)) (i : Value) (wr : World) : Prop := ∃ k : Nat, i = .int .i64 (k : Int) ∧ k ≤ K.length ∧ allOk (K.take k) = true ∧ ∃ J d, wr = w.plus J d
theorem allOk_take {K : List (Int × Int)} {k : Nat} {x y : Int} (hk : k < K.length) (h : K.getD k (0, 0) = (x, y)) (h1 : allOk (K.take k) = true) : allOk (K.take (k + 1)) = okP x y := by
  unfold allOk at *
  rw [List.take_succ_eq_append_getElem hk, List.all_append, h1]
  rw [List.getD_eq_getElem?_getD, List.getElem?_eq_getElem hk] at h
  simp at h
  simp [h]
theorem allOk_not {K : List (Int × Int)} {k : Nat} {x y : Int} (hk : k < K.length) (h : K.getD k (0, 0) = (x, y)) (h1 : okP x y = false) : allOk K = false := by
  unfold allOk
  rw [List.all_eq_false]
  refine ⟨K[k], List.getElem_mem hk, ?_⟩
  rw [List.getD_eq_getElem?_getD, List.getElem?_eq_getElem hk] at h
  simp at h
  simp [h, h1]

set_option maxRecDepth 100000 in
set_option maxHeartbeats 1000000 in
theorem n_ptAll (w : World) (a : Option Addr) (n ca : Nat) (K : List (Int × Int)) (hK : PReads w a n K) (hs : n ≤ 9223372036854775807) :
    Calls Try.prog 30 #[.slice a n ca] w fun e w' => e = .returned (.bool (allOk K)) ∧ Junk w w' := by
  have l1 := hK.1
  have HK := Lib.hid hK.2
  obtain ⟨R, hR⟩ : ∃ R, allOk K = R := ⟨_, rfl⟩
  rw [hR]
  have HR := Lib.hid hR
  have L1 := Lib.hid l1
  clear hK hR l1
  go_enter Try.func30, Try.ntmps30
  go_wp2_with fail
  go_loopw [7] (fun i wr => AllAt w K i wr) (fun i _ => n - (intOf i).toNat)
  case atStart => exact ⟨0, rfl, by omega, by simp [allOk], #[], _, by simp [World.plus]; rfl⟩
  case round =>
    obtain ⟨k, rfl, k1, hk, J, d, rfl⟩ := hrel
    rw [L1.out] at k1
    by_cases hlt : k < n
    · rcases HK.out with h0 | ⟨b1, o1, rfl, hc1⟩
      · omega
      obtain ⟨p1, p2⟩ := hc1 k hlt
      have i1 : (k : Int) < (n : Int) := by omega
      have hb : b1 < w.heap.size := World.block_lt_of_cell? _ _ p1
      have HK1 := Lib.hid hk
      clear hc1 hk
      have hx : ∃ x y : Int, (K.getD k (0, 0)) = (x, y) := ⟨_, _, rfl⟩
      obtain ⟨x, y, hx1⟩ := hx
      rw [hx1] at p1 p2
      have HX1 := Lib.hid hx1
      clear hx1
      have HV := Lib.hid (fun w' => n_ptValid x y w')
      unfold pt at HV
      cases hok : okP x y with
      | false =>
        rw [hok] at HV
        have HN := Lib.hid (allOk_not (by rw [L1.out]; exact hlt) HX1.out hok)
        clear hok
        go_wp2_with (go_at_call 13; refine (HV.out _).mono ?_; rintro e w1 ⟨rfl, J1, d1, rfl⟩)
        go_ret
        exact ⟨retB (by rw [← HR.out, HN.out]), junk_of_below (by (repeat' (first | (with_reducible exact Below.refl _ _) | (with_reducible assumption) | (with_reducible refine Below.alloc ?_ ?_ _) | (with_reducible refine Below.drew ?_) | (with_reducible refine below_drewN ?_ _) | (with_reducible refine below_plus ?_ ?_ _ _) | (with_reducible refine Below.setCell ?_ ?_ _) | (with_reducible refine Below.setRow ?_ ?_ _) | go_size)))⟩
      | true =>
        rw [hok] at HV
        have HN := Lib.hid ((allOk_take (by rw [L1.out]; exact hlt) HX1.out HK1.out).trans hok)
        clear hok
        go_wp2_with (go_at_call 13; refine (HV.out _).mono ?_; rintro e w1 ⟨rfl, J1, d1, rfl⟩)
        go_roundw
        case rel => exact ⟨k + 1, by go_num, by rw [L1.out]; omega, HN.out, junk_of_below (by (repeat' (first | (with_reducible exact Below.refl _ _) | (with_reducible assumption) | (with_reducible refine Below.alloc ?_ ?_ _) | (with_reducible refine Below.drew ?_) | (with_reducible refine below_drewN ?_ _) | (with_reducible refine below_plus ?_ ?_ _ _) | (with_reducible refine Below.setCell ?_ ?_ _) | (with_reducible refine Below.setRow ?_ ?_ _) | go_size)))⟩
        case measure => simp [intOf]; omega
    · obtain rfl : k = n := by omega
      have HE := Lib.hid (show R = true by rw [← HR.out, ← hk, List.take_of_length_le (by rw [L1.out]; omega)])
      clear hk
      go_wp2_with fail
      go_ret
      exact ⟨retB HE.out.symm, junk_of_below (by (repeat' (first | (with_reducible exact Below.refl _ _) | (with_reducible assumption) | (with_reducible refine Below.alloc ?_ ?_ _) | (with_reducible refine Below.drew ?_) | (with_reducible refine below_drewN ?_ _) | (with_reducible refine below_plus ?_ ?_ _ _) | (with_reducible refine Below.setCell ?_ ?_ _) | (with_reducible refine Below.setRow ?_ ?_ _) | go_size)))⟩
end Go.Proofs.Ytlfjbbelanccbaa

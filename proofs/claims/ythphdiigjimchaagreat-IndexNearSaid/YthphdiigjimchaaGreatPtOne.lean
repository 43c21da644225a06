/- How three points lie: mathematics. No program. Contracts of apportionref07: fits, Valid, Compare, Move, Turn, between, On, In, Meet. Contracts of apportionref07: between, In, Meet, Move. Slices of points that read as lists; contract of apportionkit's SamePoints. Contracts of package point: within, Valid, between, share, In, Meet, valid. -/
import Derived.Test.YthphdiigjimchaaGreatKitOne
import Derived.Test.YthphdiigjimchaaGreatProg
import Derived.Lib.Hide
import Derived.BigQuiet
namespace Go.Proofs.YthphdiigjimchaaGreat
section
set_option linter.unusedVariables false
set_option linter.unusedSimpArgs false
def detP (ax ay bx by_ cx cy : Int) : Int := (bx - ax) * (cy - ay) - (by_ - ay) * (cx - ax)
theorem det_swap (ax ay bx by_ cx cy : Int) : detP bx by_ ax ay cx cy = - detP ax ay bx by_ cx cy := by unfold detP; grind
theorem det_aba (ax ay bx by_ : Int) : detP ax ay bx by_ ax ay = 0 := by unfold detP; grind
theorem det_abb (ax ay bx by_ : Int) : detP ax ay bx by_ bx by_ = 0 := by unfold detP; grind
def btw (n a b : Int) : Prop := min a b ≤ n ∧ n ≤ max a b
theorem btw_comm (n a b : Int) : btw n a b ↔ btw n b a := by unfold btw; omega
def onF (px py ax ay bx by_ : Int) : Prop := detP ax ay bx by_ px py = 0 ∧ btw px ax bx ∧ btw py ay by_
theorem on_back (px py ax ay bx by_ : Int) : onF px py ax ay bx by_ ↔ onF px py bx by_ ax ay := by
  have e1 := det_swap ax ay bx by_ px py
  unfold onF
  rw [btw_comm px, btw_comm py]
  constructor <;> rintro ⟨h1, h2⟩ <;> exact ⟨by omega, h2⟩
theorem on_left (ax ay bx by_ : Int) : onF ax ay ax ay bx by_ := ⟨det_aba _ _ _ _, by unfold btw; omega, by unfold btw; omega⟩
theorem on_right (ax ay bx by_ : Int) : onF bx by_ ax ay bx by_ := ⟨det_abb _ _ _ _, by unfold btw; omega, by unfold btw; omega⟩
end

section
set_option linter.unusedVariables false
set_option linter.unusedSimpArgs false
open Go.RowKit
def I64n (n : Int) : Prop := -9223372036854775808 ≤ n ∧ n ≤ 9223372036854775807
def okI (n : Int) : Bool := decide (-1099511627775 ≤ n) && decide (n ≤ 1099511627775)
theorem okI_iff {n : Int} : okI n = true ↔ -1099511627775 ≤ n ∧ n ≤ 1099511627775 := by simp [okI]
def okP (x y : Int) : Bool := okI x && okI y
theorem okP_iff {x y : Int} : okP x y = true ↔ (-1099511627775 ≤ x ∧ x ≤ 1099511627775) ∧ (-1099511627775 ≤ y ∧ y ≤ 1099511627775) := by simp [okP, okI_iff]
def pt (x y : Int) : Value := .agg #[.int .i64 x, .int .i64 y]
def cmpF (ax ay bx by_ : Int) : Int := if ay < by_ ∨ (ay = by_ ∧ ax < bx) then -1 else if ax = bx ∧ ay = by_ then 0 else 1
instance (n a b : Int) : Decidable (btw n a b) := by unfold btw; exact inferInstance
instance (px py ax ay bx by_ : Int) : Decidable (onF px py ax ay bx by_) := by unfold onF; exact inferInstance
def moveE (x y u v : Int) : Int := if okP x y && okP u v then (if okP (x + u) (y + v) then 0 else 5) else 2
def moveX (x y u v : Int) : Int := if moveE x y u v = 0 then x + u else 0
def moveY (x y u v : Int) : Int := if moveE x y u v = 0 then y + v else 0
theorem r_ptFits (n : Int) (w : World) : Calls Tryz.prog 107 #[.int .i64 n] w fun e w' => e = .returned (.bool (okI n)) ∧ w' = w := by
  unfold okI
  by_cases h1 : -1099511627775 ≤ n
  · by_cases h2 : n ≤ 1099511627775
    · go_enter Tryz.func107, Tryz.ntmps107
      go_wp2
      go_ret
      exact ⟨by simp [h1, h2], rfl⟩
    · go_enter Tryz.func107, Tryz.ntmps107
      go_wp2
      go_ret
      exact ⟨by simp [h1, h2], rfl⟩
  · go_enter Tryz.func107, Tryz.ntmps107
    go_wp2
    go_ret
    exact ⟨congrArg Value.bool (by simp; omega) |> congrArg Ending.returned, rfl⟩
theorem r_ptValid (x y : Int) (w : World) : Calls Tryz.prog 82 #[pt x y] w fun e w' => e = .returned (.bool (okP x y)) ∧ Junk w w' := by
  have HF := Lib.hid r_ptFits
  unfold pt okP
  cases hx : okI x with
  | false =>
    have HF1 := Lib.hid (fun w' => r_ptFits x w')
    rw [hx] at HF1
    clear hx
    go_enter Tryz.func82, Tryz.ntmps82
    go_wp2_with (go_at_call 107; refine (HF1.out _).mono ?_; rintro e w1 ⟨rfl, rfl⟩)
    go_ret
    exact ⟨rfl, junk_of_below (by (repeat' first | with_reducible (first | apply Below.refl | assumption | apply bw_a | apply bw_d | apply bw_n | apply bw_p | apply bw_c | apply bw_r) | go_size))⟩
  | true =>
    have HF1 := Lib.hid (fun w' => r_ptFits x w')
    rw [hx] at HF1
    clear hx
    go_enter Tryz.func82, Tryz.ntmps82
    go_wp2_with (first | (go_at_call 107; refine (HF1.out _).mono ?_; clear HF1; rintro e w1 ⟨rfl, rfl⟩) | (go_at_call 107; refine (HF.out _ _).mono ?_; rintro e w1 ⟨rfl, rfl⟩))
    go_ret
    exact ⟨by simp, junk_of_below (by (repeat' first | with_reducible (first | apply Below.refl | assumption | apply bw_a | apply bw_d | apply bw_n | apply bw_p | apply bw_c | apply bw_r) | go_size))⟩
end

section
set_option linter.unusedVariables false
set_option linter.unusedSimpArgs false
open Go.RowKit
theorem retB {p q : Bool} (h : p = q) : Ending.returned (.bool p) = Ending.returned (.bool q) := by rw [h]
theorem r_ptBetween (n a b : Int) (w : World) : Calls Tryz.prog 147 #[.int .i64 n, .int .i64 a, .int .i64 b] w fun e w' => e = .returned (.bool (decide (btw n a b))) ∧ w' = w := by
  obtain ⟨R, hR⟩ : ∃ R, decide (btw n a b) = R := ⟨_, rfl⟩
  rw [hR]
  have HR := Lib.hid hR
  clear hR
  go_enter Tryz.func147, Tryz.ntmps147
  go_wp2
  all_goals
    go_ret
    refine ⟨retB ?_, rfl⟩
    rw [← HR.out]
    unfold btw
    first | exact decide_eq_decide.2 (by omega) | exact (decide_eq_false (by omega)).symm | exact (decide_eq_true (by omega)).symm
def inF (px py lx ly hx hy : Int) : Bool := decide (lx ≤ px ∧ px < hx ∧ ly ≤ py ∧ py < hy)
def bxV (lx ly hx hy : Int) : Value := .agg #[.int .i64 lx, .int .i64 ly, .int .i64 hx, .int .i64 hy]
theorem r_ptIn (px py lx ly hx hy : Int) (w : World) : Calls Tryz.prog 41 #[pt px py, bxV lx ly hx hy] w fun e w' => e = .returned (.bool (inF px py lx ly hx hy)) ∧ Junk w w' := by
  obtain ⟨R, hR⟩ : ∃ R, inF px py lx ly hx hy = R := ⟨_, rfl⟩
  rw [hR]
  have HR := Lib.hid hR
  clear hR
  unfold bxV pt
  go_enter Tryz.func41, Tryz.ntmps41
  go_wp2
  all_goals
    go_ret
    refine ⟨retB ?_, junk_of_below (by (repeat' first | with_reducible (first | apply Below.refl | assumption | apply bw_a | apply bw_d | apply bw_n | apply bw_p | apply bw_c | apply bw_r) | go_size))⟩
    rw [← HR.out]
    unfold inF
    first | exact decide_eq_decide.2 (by omega) | exact (decide_eq_false (by omega)).symm | exact (decide_eq_true (by omega)).symm
def meetF (lx ly hx hy kx ky mx my : Int) : Bool := decide (max lx kx < min hx mx ∧ max ly ky < min hy my)
end

section
set_option linter.unusedVariables false
set_option linter.unusedSimpArgs false
open Go.RowKit
def PReads (w : World) (a : Option Addr) (len : Nat) (K : List (Int × Int)) : Prop :=
  K.length = len ∧ (len = 0 ∨ ∃ b off, a = some ⟨b, off, none⟩ ∧ ∀ i, i < len → w.cell? ⟨b, off + i * 2, none⟩ = some (.int .i64 (K.getD i (0, 0)).1) ∧ w.cell? ⟨b, off + i * 2 + 1, none⟩ = some (.int .i64 (K.getD i (0, 0)).2))
theorem PReads.below {w w' : World} {a : Option Addr} {len : Nat} {K : List (Int × Int)} (h : PReads w a len K) (hb : Below w.heap.size w w') : PReads w' a len K := by
  obtain ⟨h1, h2⟩ := h
  refine ⟨h1, ?_⟩
  rcases h2 with h2 | ⟨b, off, he, hc⟩
  · exact .inl h2
  · refine .inr ⟨b, off, he, fun i hi => ?_⟩
    obtain ⟨e1, e2⟩ := hc i hi
    exact ⟨by rw [World.cell?_of_block (hb.block b (World.block_lt_of_cell? _ _ e1))]; exact e1, by rw [World.cell?_of_block (hb.block b (World.block_lt_of_cell? _ _ e2))]; exact e2⟩
def SamePAt (w : World) (K M : List (Int × Int)) (i : Value) (wr : World) : Prop := ∃ k : Nat, i = .int .i64 (k : Int) ∧ k ≤ K.length ∧ K.take k = M.take k ∧ ∃ d, wr = w.drewN d
end

section
set_option linter.unusedVariables false
set_option linter.unusedSimpArgs false
open Go.RowKit
theorem n_ptWithin (n : Int) (w : World) : Calls Tryz.prog 131 #[.int .i64 n] w fun e w' => e = .returned (.bool (okI n)) ∧ w' = w := by
  unfold okI
  by_cases h1 : -1099511627775 ≤ n
  · by_cases h2 : n ≤ 1099511627775
    · go_enter Tryz.func131, Tryz.ntmps131
      go_wp2
      go_ret
      exact ⟨by simp [h1, h2], rfl⟩
    · go_enter Tryz.func131, Tryz.ntmps131
      go_wp2
      go_ret
      exact ⟨by simp [h1, h2], rfl⟩
  · go_enter Tryz.func131, Tryz.ntmps131
    go_wp2
    go_ret
    exact ⟨congrArg Value.bool (by simp; omega) |> congrArg Ending.returned, rfl⟩
theorem n_ptValid (x y : Int) (w : World) : Calls Tryz.prog 100 #[pt x y] w fun e w' => e = .returned (.bool (okP x y)) ∧ Junk w w' := by
  have HF := Lib.hid n_ptWithin
  unfold pt okP
  cases hx : okI x with
  | false =>
    have HF1 := Lib.hid (fun w' => n_ptWithin x w')
    rw [hx] at HF1
    clear hx
    go_enter Tryz.func100, Tryz.ntmps100
    go_wp2_with (go_at_call 131; refine (HF1.out _).mono ?_; rintro e w1 ⟨rfl, rfl⟩)
    go_ret
    exact ⟨rfl, junk_of_below (by (repeat' first | with_reducible (first | apply Below.refl | assumption | apply bw_a | apply bw_d | apply bw_n | apply bw_p | apply bw_c | apply bw_r) | go_size))⟩
  | true =>
    have HF1 := Lib.hid (fun w' => n_ptWithin x w')
    rw [hx] at HF1
    clear hx
    go_enter Tryz.func100, Tryz.ntmps100
    go_wp2_with (first | (go_at_call 131; refine (HF1.out _).mono ?_; clear HF1; rintro e w1 ⟨rfl, rfl⟩) | (go_at_call 131; refine (HF.out _ _).mono ?_; rintro e w1 ⟨rfl, rfl⟩))
    go_ret
    exact ⟨by simp, junk_of_below (by (repeat' first | with_reducible (first | apply Below.refl | assumption | apply bw_a | apply bw_d | apply bw_n | apply bw_p | apply bw_c | apply bw_r) | go_size))⟩
theorem n_ptBetween (n a b : Int) (w : World) : Calls Tryz.prog 217 #[.int .i64 n, .int .i64 a, .int .i64 b] w fun e w' => e = .returned (.bool (decide (btw n a b))) ∧ w' = w := by
  obtain ⟨R, hR⟩ : ∃ R, decide (btw n a b) = R := ⟨_, rfl⟩
  rw [hR]
  have HR := Lib.hid hR
  clear hR
  go_enter Tryz.func217, Tryz.ntmps217
  go_wp2
  all_goals
    go_ret
    refine ⟨retB ?_, rfl⟩
    rw [← HR.out]
    unfold btw
    first | exact decide_eq_decide.2 (by omega) | exact (decide_eq_false (by omega)).symm | exact (decide_eq_true (by omega)).symm
theorem n_ptShare (a b c d : Int) (w : World) : Calls Tryz.prog 164 #[.int .i64 a, .int .i64 b, .int .i64 c, .int .i64 d] w fun e w' => e = .returned (.bool (decide (max a c < min b d))) ∧ w' = w := by
  obtain ⟨R, hR⟩ : ∃ R, decide (max a c < min b d) = R := ⟨_, rfl⟩
  rw [hR]
  have HR := Lib.hid hR
  clear hR
  go_enter Tryz.func164, Tryz.ntmps164
  go_wp2
  all_goals
    go_ret
    refine ⟨retB ?_, rfl⟩
    rw [← HR.out]
    first | exact decide_eq_decide.2 (by omega) | exact (decide_eq_false (by omega)).symm | exact (decide_eq_true (by omega)).symm
theorem n_ptIn (px py lx ly hx hy : Int) (w : World) : Calls Tryz.prog 59 #[pt px py, bxV lx ly hx hy] w fun e w' => e = .returned (.bool (inF px py lx ly hx hy)) ∧ Junk w w' := by
  obtain ⟨R, hR⟩ : ∃ R, inF px py lx ly hx hy = R := ⟨_, rfl⟩
  rw [hR]
  have HR := Lib.hid hR
  clear hR
  unfold bxV pt
  go_enter Tryz.func59, Tryz.ntmps59
  go_wp2
  all_goals
    go_ret
    refine ⟨retB ?_, junk_of_below (by (repeat' first | with_reducible (first | apply Below.refl | assumption | apply bw_a | apply bw_d | apply bw_n | apply bw_p | apply bw_c | apply bw_r) | go_size))⟩
    rw [← HR.out]
    unfold inF
    first | exact decide_eq_decide.2 (by omega) | exact (decide_eq_false (by omega)).symm | exact (decide_eq_true (by omega)).symm
theorem meetF_two (lx ly hx hy kx ky mx my : Int) : meetF lx ly hx hy kx ky mx my = (decide (max lx kx < min hx mx) && decide (max ly ky < min hy my)) := by
  unfold meetF; simp
theorem n_ptMeet (lx ly hx hy kx ky mx my : Int) (w : World) : Calls Tryz.prog 129 #[bxV lx ly hx hy, bxV kx ky mx my] w fun e w' => e = .returned (.bool (meetF lx ly hx hy kx ky mx my)) ∧ Junk w w' := by
  rw [meetF_two]
  have H1 := Lib.hid (fun w' => n_ptShare lx hx kx mx w')
  have H2 := Lib.hid (fun w' => n_ptShare ly hy ky my w')
  generalize decide (max lx kx < min hx mx) = P1 at *
  generalize decide (max ly ky < min hy my) = P2 at *
  unfold bxV
  cases P1 with
  | false =>
    go_enter Tryz.func129, Tryz.ntmps129
    go_wp2_with (first | (go_at_call 164; refine (H1.out _).mono ?_; clear H1; rintro e w1 ⟨rfl, rfl⟩) | (go_at_call 164; refine (H2.out _).mono ?_; clear H2; rintro e w1 ⟨rfl, rfl⟩))
    go_ret
    exact ⟨retB (by simp), junk_of_below (by (repeat' first | with_reducible (first | apply Below.refl | assumption | apply bw_a | apply bw_d | apply bw_n | apply bw_p | apply bw_c | apply bw_r) | go_size))⟩
  | true =>
    go_enter Tryz.func129, Tryz.ntmps129
    go_wp2_with (first | (go_at_call 164; refine (H1.out _).mono ?_; clear H1; rintro e w1 ⟨rfl, rfl⟩) | (go_at_call 164; refine (H2.out _).mono ?_; clear H2; rintro e w1 ⟨rfl, rfl⟩))
    go_ret
    exact ⟨retB (by simp), junk_of_below (by (repeat' first | with_reducible (first | apply Below.refl | assumption | apply bw_a | apply bw_d | apply bw_n | apply bw_p | apply bw_c | apply bw_r) | go_size))⟩
def allOk (K : List (Int × Int)) : Bool := K.all fun p => okP p.1 p.2
def AllAt (w : World) (K : List (Int × Int)) (i : Value) (wr : World) : Prop := ∃ k : Nat, i = .int .i64 (k : Int) ∧ k ≤ K.length ∧ allOk (K.take k) = true ∧ ∃ J d, wr = w.plus J d
theorem allOk_take {K : List (Int × Int)} {k : Nat} {x y : Int} (hk : k < K.length) (h : K.getD k (0, 0) = (x, y)) (h1 : allOk (K.take k) = true) : allOk (K.take (k + 1)) = okP x y := by
  unfold allOk at *
  rw [List.take_succ_eq_append_getElem hk, List.all_append, h1]
  rw [List.getD_eq_getElem?_getD, List.getElem?_eq_getElem hk] at h
  simp at h
  simp [h]
theorem allOk_not {K : List (Int × Int)} {k : Nat} {x y : Int} (hk : k < K.length) (h : K.getD k (0, 0) = (x, y)) (h1 : okP x y = false) : allOk K = false := by
  unfold allOk
  rw [List.all_eq_false]
  refine ⟨K[k], List.getElem_mem hk, ?_⟩
  rw [List.getD_eq_getElem?_getD, List.getElem?_eq_getElem hk] at h
  simp at h
  simp [h, h1]
set_option maxRecDepth 100000 in
set_option maxHeartbeats 1000000 in
theorem n_ptAll (w : World) (a : Option Addr) (n ca : Nat) (K : List (Int × Int)) (hK : PReads w a n K) (hs : n ≤ 9223372036854775807) :
    Calls Tryz.prog 67 #[.slice a n ca] w fun e w' => e = .returned (.bool (allOk K)) ∧ Junk w w' := by
  have l1 := hK.1
  have HK := Lib.hid hK.2
  obtain ⟨R, hR⟩ : ∃ R, allOk K = R := ⟨_, rfl⟩
  rw [hR]
  have HR := Lib.hid hR
  have L1 := Lib.hid l1
  clear hK hR l1
  go_enter Tryz.func67, Tryz.ntmps67
  go_wp2_with fail
  go_loopw [7] (fun i wr => AllAt w K i wr) (fun i _ => n - (intOf i).toNat)
  case atStart => exact ⟨0, rfl, by omega, by simp [allOk], #[], _, by simp [World.plus]; rfl⟩
  case round =>
    obtain ⟨k, rfl, k1, hk, J, d, rfl⟩ := hrel
    rw [L1.out] at k1
    by_cases hlt : k < n
    · rcases HK.out with h0 | ⟨b1, o1, rfl, hc1⟩
      · omega
      obtain ⟨p1, p2⟩ := hc1 k hlt
      have i1 : (k : Int) < (n : Int) := by omega
      have hb : b1 < w.heap.size := World.block_lt_of_cell? _ _ p1
      have HK1 := Lib.hid hk
      clear hc1 hk
      have hx : ∃ x y : Int, (K.getD k (0, 0)) = (x, y) := ⟨_, _, rfl⟩
      obtain ⟨x, y, hx1⟩ := hx
      rw [hx1] at p1 p2
      have HX1 := Lib.hid hx1
      clear hx1
      have HV := Lib.hid (fun w' => n_ptValid x y w')
      unfold pt at HV
      cases hok : okP x y with
      | false =>
        rw [hok] at HV
        have HN := Lib.hid (allOk_not (by rw [L1.out]; exact hlt) HX1.out hok)
        clear hok
        go_wp2_with (go_at_call 100; refine (HV.out _).mono ?_; rintro e w1 ⟨rfl, J1, d1, rfl⟩)
        go_ret
        exact ⟨retB (by rw [← HR.out, HN.out]), junk_of_below (by (repeat' first | with_reducible (first | apply Below.refl | assumption | apply bw_a | apply bw_d | apply bw_n | apply bw_p | apply bw_c | apply bw_r) | go_size))⟩
      | true =>
        rw [hok] at HV
        have HN := Lib.hid ((allOk_take (by rw [L1.out]; exact hlt) HX1.out HK1.out).trans hok)
        clear hok
        go_wp2_with (go_at_call 100; refine (HV.out _).mono ?_; rintro e w1 ⟨rfl, J1, d1, rfl⟩)
        go_roundw
        case rel => exact ⟨k + 1, by go_num, by rw [L1.out]; omega, HN.out, junk_of_below (by (repeat' first | with_reducible (first | apply Below.refl | assumption | apply bw_a | apply bw_d | apply bw_n | apply bw_p | apply bw_c | apply bw_r) | go_size))⟩
        case measure => simp [intOf]; omega
    · obtain rfl : k = n := by omega
      have HE := Lib.hid (show R = true by rw [← HR.out, ← hk, List.take_of_length_le (by rw [L1.out]; omega)])
      clear hk
      go_wp2_with fail
      go_ret
      exact ⟨retB HE.out.symm, junk_of_below (by (repeat' first | with_reducible (first | apply Below.refl | assumption | apply bw_a | apply bw_d | apply bw_n | apply bw_p | apply bw_c | apply bw_r) | go_size))⟩
end
end Go.Proofs.YthphdiigjimchaaGreat

/- Indexes: what the laws ask of the package. The laws of index: Big. The laws of index: at, box, among; literal slices of regions. The laws of index: sample, awake, IndexKnown (over the package's predicate). A box as a region of the call's own. -/
import Derived.Test.YthphdiigjimchaaGreatIxTwo
import Derived.Test.YthphdiigjimchaaGreatIxBld
import Derived.Test.YthphdiigjimchaaGreatIxMath
import Derived.Test.YthphdiigjimchaaGreatSbTwo
import Derived.Test.YthphdiigjimchaaGreatReOne
import Derived.Test.YthphdiigjimchaaGreatPtJ
import Derived.Test.YthphdiigjimchaaGreatBnLaw
namespace Go.Proofs.YthphdiigjimchaaGreat
section
set_option linter.unusedVariables false
set_option linter.unusedSimpArgs false
open Go.RowKit
theorem i_bad (w : World) (a : Option Addr) (n ca : Nat) (L : List (List (List Pt))) (hL : LRC w a n ca L) (hs : n ≤ 1000) (hl : ∀ R ∈ L, R.length ≤ 1000 ∧ ∀ K ∈ R, K.length ≤ 100000) (hb : (checkX L).1 ≠ 0) :
    Calls Tryz.prog 11 #[.slice a n ca] w fun e w' => e = .returned (.tuple #[.pointer none, fltV (checkX L)]) ∧ Junk w w' := n_ixBad w a n ca L hL (by omega) (fun _ => hl) hb
theorem i_build (w : World) (a : Option Addr) (n ca : Nat) (L : List (List (List Pt))) (hL : LRC w a n ca L) (hb : (checkX L).1 = 0) :
    Calls Tryz.prog 11 #[.slice a n ca] w fun e w' => (∃ xb U, e = .returned (.tuple #[.pointer (some ⟨xb, 0, none⟩), .agg #[.int .i64 0, .int .i64 0]]) ∧ IxS w' w.heap.size xb L U) ∧ Junk w w' := n_ixBuild w a n ca L hL hb
end

section
set_option linter.unusedVariables false
set_option linter.unusedSimpArgs false
open Go.RowKit
def sumN (L : List (List (List Pt))) : Nat := (L.map allN).sum
theorem sumn_step {L : List (List (List Pt))} {k : Nat} (h : k < L.length) : sumN (L.take (k + 1)) = sumN (L.take k) + allN (L.getD k []) := by
  unfold sumN
  rw [List.take_succ_eq_append_getElem h, List.map_append, List.sum_append, List.getD_eq_getElem?_getD, List.getElem?_eq_getElem h]
  simp
def smallL (L : List (List (List Pt))) : Prop := L.length ≤ 70 ∧ (∀ j, j < L.length → (L.getD j []).length ≤ 22 ∧ allN (L.getD j []) ≤ 120) ∧ sumN L ≤ 400
instance (L : List (List (List Pt))) : Decidable (smallL L) := by unfold smallL; infer_instance
def BgAt (W : World) (L : List (List (List Pt))) (n : Nat) (x y : Value) (wr : World) : Prop := ∃ k : Nat, y = .int .i64 (k : Int) ∧ x = .int .i64 ((sumN (L.take k) : Nat) : Int) ∧ k ≤ n ∧ k ≤ 71 ∧ sumN (L.take k) ≤ k * 120 ∧ (∀ j, j < k → (L.getD j []).length ≤ 22 ∧ allN (L.getD j []) ≤ 120) ∧ Cls W wr
def BgIn (W : World) (R : List (List Pt)) (m q : Nat) (x y : Value) (wr : World) : Prop := ∃ k : Nat, y = .int .i64 (k : Int) ∧ x = .int .i64 ((q + allN (R.take k) : Nat) : Int) ∧ k ≤ m ∧ wr = W
set_option maxRecDepth 100000 in
set_option maxHeartbeats 2000000 in
theorem l_ixBig (w : World) (a : Option Addr) (n ca : Nat) (L : List (List (List Pt))) (hL : LRC w a n ca L) (hs : n ≤ 4611686018427387903) (hl : ∀ R ∈ L, R.length ≤ 4611686018427387903 ∧ ∀ K ∈ R, K.length ≤ 8796093022208) :
    Calls Tryz.prog 8 #[.slice a n ca] w fun e w' => e = .returned (.bool (!decide (smallL L))) ∧ Junk w w' := by
  have L1 := Lib.hid hL.len
  have HK := Lib.hid hL
  have HL := Lib.hid hl
  obtain ⟨B, hB⟩ : ∃ B, (!decide (smallL L)) = B := ⟨_, rfl⟩
  rw [hB]
  have HB := Lib.hid hB
  clear hL hl hB
  go_enter Tryz.func8, Tryz.ntmps8
  go_wp2_with fail
  go_loopw [3, 4] (fun x y wr => BgAt w L n x y wr) (fun _ y _ => n - (intOf y).toNat)
  case atStart => exact ⟨0, rfl, rfl, by omega, by omega, by simp [sumN], fun j hj => by omega, #[], _, (plus_nil _).symm⟩
  case round =>
    obtain ⟨k, rfl, rfl, k1, k2, k3, hk, J, d, rfl⟩ := hrel
    have HSm := Lib.hid hk
    clear hk
    by_cases hlt : k < n ∧ k < 71
    · obtain ⟨hlt, h71⟩ := hlt
      obtain ⟨b, o, x, m, c, rfl, p1, hg, hb⟩ := HK.out.at hlt
      have hkL : k < L.length := by rw [L1.out]; exact hlt
      have hkm := HL.out _ (mem_getD hkL)
      have hm := hg.len
      have HC := Lib.hid (fun w' (h : GRC w' x m c (L.getD k [])) => k_BigRegion 120 (by decide) w' x m c (L.getD k []) h (by omega) hkm.2)
      have HSt := Lib.hid (sumn_step hkL)
      obtain ⟨R, hR⟩ : ∃ R, L.getD k [] = R := ⟨_, rfl⟩
      rw [hR] at HC hg hm hkm HSt
      have HG := Lib.hid hg
      have HRe := Lib.hid hR
      have i1 : (k : Int) < (n : Int) := by omega
      have i2 : (k : Int) < 71 := by omega
      have p1' : (w.plus J d).cell? ⟨b, o + k, none⟩ = some (.slice x m c) := (World.cell?_of_block ((Junk.below ⟨J, d, rfl⟩).block _ hb)).trans p1
      clear hg hR
      by_cases hbig : 22 < R.length ∨ 120 < allN R
      · have e1 : (decide (22 < R.length) || decide (120 < allN R)) = true := by simpa using hbig
        rw [e1] at HC
        have HE := Lib.hid (show B = true by
          rw [← HB.out, Bool.not_eq_true', decide_eq_false_iff_not]
          rintro ⟨_, h, _⟩
          have := h k hkL
          rw [HRe.out] at this
          omega)
        clear hbig e1 k3
        generalize sumN (L.take k) = q at *
        go_wp2_with (go_at_call 27; (refine (HC.out _ (HG.out.below (by ((try simp only [← Array.append_assoc]); repeat' first | with_reducible (first | apply Below.refl | assumption | apply bw_a | apply bw_d | apply bw_n | apply bw_e | apply bw_s | apply bw_p | apply bw_c | apply bw_r) | go_size)))).mono ?_); rintro e w1 ⟨rfl, J2, d2, rfl⟩)
        go_ret
        exact ⟨retB (by rw [HE.out]), junk_of_below (by (repeat' first | with_reducible (first | apply Below.refl | assumption | apply bw_a | apply bw_d | apply bw_n | apply bw_p | apply bw_c | apply bw_r) | go_size))⟩
      · have e1 : (decide (22 < R.length) || decide (120 < allN R)) = false := by simpa using hbig
        rw [e1] at HC
        have h120 : allN R ≤ 120 := by omega
        have hR22 : R.length ≤ 22 := by omega
        have HN := Lib.hid (show ∀ j, j < k + 1 → (L.getD j []).length ≤ 22 ∧ allN (L.getD j []) ≤ 120 from fun j hj => by
          by_cases hjk : j = k
          · subst hjk; rw [HRe.out]; omega
          · exact HSm.out j (by omega))
        clear hbig e1
        generalize sumN (L.take k) = q at *
        have hq : q ≤ 71 * 120 := Nat.le_trans k3 (Nat.mul_le_mul_right _ k2)
        go_wp2_with (go_at_call 27; (refine (HC.out _ (HG.out.below (by ((try simp only [← Array.append_assoc]); repeat' first | with_reducible (first | apply Below.refl | assumption | apply bw_a | apply bw_d | apply bw_n | apply bw_e | apply bw_s | apply bw_p | apply bw_c | apply bw_r) | go_size)))).mono ?_); rintro e w1 ⟨rfl, J2, d2, rfl⟩)
        go_loopw [3, 5] (fun x y wr => BgIn (w.plus (J ++ J2) d2) R m q x y wr) (fun _ y _ => m - (intOf y).toNat)
        case atStart => exact ⟨0, rfl, by simp [allN], by omega, rfl⟩
        case round =>
          obtain ⟨i, rfl, rfl, i3, rfl⟩ := hrel
          have hti := alln_take R i
          by_cases hlt2 : i < m
          · rcases HG.out.cells with h0 | ⟨gb, go, rfl, hgc⟩
            · omega
            obtain ⟨y, l, f, g1, hy⟩ := hgc i hlt2
            have hgb : gb < w.heap.size := World.block_lt_of_cell? _ _ g1
            have hst := alln_step (R := R) (k := i) (by omega)
            rw [hy.rd.1] at hst
            have hti2 := alln_take R (i + 1)
            have HSi := Lib.hid hst
            generalize allN (R.take i) = qi at *
            have j1 : (i : Int) < (m : Int) := by omega
            have w1 : IntKind.i64.wrap (((q + qi : Nat) : Int) + (l : Int)) = ((q + (qi + l) : Nat) : Int) := by simp [IntKind.wrap, IntKind.signed, IntKind.bits]; omega
            have hql : qi + l ≤ 120 := by omega
            clear hgc hy hst hti hti2 w1
            go_wp2_with fail
            go_roundw
            case rel => exact ⟨i + 1, by go_num, by rw [HSi.out]; go_num, by omega, rfl⟩
            case measure => simp [intOf]; omega
          · obtain rfl : i = m := by omega
            have hfull : allN (R.take i) = allN R := by rw [List.take_of_length_le (by omega)]
            rw [hfull]
            have HS2 := Lib.hid (show q + allN R = sumN (L.take (k + 1)) from HSt.out.symm)
            generalize allN R = r at *
            have j1 : ¬ (i : Int) < (i : Int) := by omega
            clear hti hfull
            go_wp2_with fail
            go_roundw
            case rel => exact ⟨k + 1, by go_num, by rw [HS2.out], by omega, by omega, by rw [← HS2.out]; omega, HN.out, _, _, rfl⟩
            case measure => simp [intOf]; omega
    · have hle71 := Nat.le_trans k3 (Nat.mul_le_mul_right 120 k2)
      by_cases hn : n ≤ 70
      · obtain rfl : k = n := by omega
        have i1 : ¬ (k : Int) < (k : Int) := by omega
        have i4 : ¬ (k : Int) > 70 := by omega
        have hall : sumN (L.take k) = sumN L := by rw [List.take_of_length_le (by rw [L1.out]; omega)]
        rw [hall] at *
        by_cases h400 : sumN L > 400
        · have HE := Lib.hid (show B = true by
            rw [← HB.out, Bool.not_eq_true', decide_eq_false_iff_not]
            rintro ⟨_, _, h⟩
            omega)
          generalize sumN L = q at *
          have i5 : (q : Int) > 400 := by omega
          clear hall
          go_wp2_with fail
          go_ret
          exact ⟨retB (by rw [HE.out]), junk_of_below (by (repeat' first | with_reducible (first | apply Below.refl | assumption | apply bw_a | apply bw_d | apply bw_n | apply bw_p | apply bw_c | apply bw_r) | go_size))⟩
        · have HE := Lib.hid (show B = false by
            rw [← HB.out, Bool.not_eq_false', decide_eq_true_eq]
            exact ⟨by rw [L1.out]; exact hn, fun j hj => HSm.out j (by rw [L1.out] at hj; exact hj), by omega⟩)
          generalize sumN L = q at *
          have i5 : ¬ (q : Int) > 400 := by omega
          clear hall
          go_wp2_with fail
          go_ret
          exact ⟨retB (by rw [HE.out]), junk_of_below (by (repeat' first | with_reducible (first | apply Below.refl | assumption | apply bw_a | apply bw_d | apply bw_n | apply bw_p | apply bw_c | apply bw_r) | go_size))⟩
      · have HE := Lib.hid (show B = true by
          rw [← HB.out, Bool.not_eq_true', decide_eq_false_iff_not]
          rintro ⟨h, _, _⟩
          rw [L1.out] at h
          omega)
        have i4 : (n : Int) > 70 := by omega
        generalize sumN (L.take k) = q at *
        by_cases hkn : k < n
        · have i1 : (k : Int) < (n : Int) := by omega
          have i2 : ¬ (k : Int) < 71 := by omega
          clear hlt
          go_wp2_with fail
          go_ret
          exact ⟨retB (by rw [HE.out]), junk_of_below (by (repeat' first | with_reducible (first | apply Below.refl | assumption | apply bw_a | apply bw_d | apply bw_n | apply bw_p | apply bw_c | apply bw_r) | go_size))⟩
        · have i1 : ¬ (k : Int) < (n : Int) := by omega
          clear hlt
          go_wp2_with fail
          go_ret
          exact ⟨retB (by rw [HE.out]), junk_of_below (by (repeat' first | with_reducible (first | apply Below.refl | assumption | apply bw_a | apply bw_d | apply bw_n | apply bw_p | apply bw_c | apply bw_r) | go_size))⟩
end

section
set_option linter.unusedVariables false
set_option linter.unusedSimpArgs false
open Go.RowKit
theorem lrc_cells {w : World} {b : Nat} {vs : List Value} {L : List (List (List Pt))} (hn : L.length = vs.length) (hr : w.rowAt b = some vs.toArray) (h : ∀ i, i < L.length → ∃ x m c, vs[i]? = some (.slice x m c) ∧ GRC w x m c (L.getD i [])) : LRC w (some ⟨b, 0, none⟩) L.length L.length L := by
  refine ⟨rfl, ⟨Nat.le_refl _, fun e => by cases e⟩, .inr ⟨b, 0, rfl, fun i hi => ?_⟩⟩
  obtain ⟨x, m, c, h1, h2⟩ := h i hi
  refine ⟨x, m, c, ?_, h2⟩
  rw [Nat.zero_add, ucell_of_row hr i]
  simpa using h1
theorem l_ixAtP (x y : Int) (w : World) : Calls Tryz.prog 22 #[.int .i64 x, .int .i64 y] w fun e w' => e = .returned (.agg #[.int .i64 x, .int .i64 y]) ∧ Junk w w' := by
  go_enter Tryz.func22, Tryz.ntmps22
  go_wp2
  refine bodyPost_ret (results_pt1 rfl _ _ w.heap.size #[.int .i64 x, .int .i64 y] rfl (by simp [go_sem]) rfl) rfl ⟨rfl, junk_of_below (by (repeat' first | with_reducible (first | apply Below.refl | assumption | apply bw_a | apply bw_d | apply bw_n | apply bw_p | apply bw_c | apply bw_r) | go_size))⟩
set_option maxRecDepth 100000 in
theorem l_ixBox (a b c d : Int) (w : World) : Calls Tryz.prog 23 #[.int .i64 a, .int .i64 b, .int .i64 c, .int .i64 d] w fun e w' => (∃ x, e = .returned (.agg #[.slice x 1 1]) ∧ GRC w' x 1 1 [boxR a b c d]) ∧ Junk w w' := by
  go_enter Tryz.func23, Tryz.ntmps23
  go_wp2
  refine bodyPost_ret (results_reg rfl _ _ w.heap.size #[.slice (some ⟨w.heap.size + 2, 0, none⟩) 1 1] rfl (by simp [go_sem]) rfl) rfl ⟨⟨_, rfl, grc_one (x := some ⟨w.heap.size + 1, 0, none⟩) (m := 4) (c := 4) (by simp [go_sem]) ?_⟩, junk_of_below (by (repeat' first | with_reducible (first | apply Below.refl | assumption | apply bw_a | apply bw_d | apply bw_n | apply bw_p | apply bw_c | apply bw_r) | go_size))⟩
  refine (prc_blt (w := w.alloc (.cells #[.slice (some ⟨w.heap.size + 1 + 1, 0, none⟩) 1 1] 28)) (L := boxR a b c d) (n := 4) (g := w.heap.size + 1) rfl ?_ (by decide) (by simp)).below (by (repeat' first | with_reducible (first | apply Below.refl | assumption | apply bw_a | apply bw_d | apply bw_n | apply bw_p | apply bw_c | apply bw_r) | go_size))
  simp [pcells, boxR]
def AmAt (W : World) (xs : List Int) (n : Nat) (z : Int) (x : Value) (wr : World) : Prop := ∃ k : Nat, x = .int .i64 (k : Int) ∧ k ≤ n ∧ (∀ j, j < k → xs.getD j 0 ≠ z) ∧ wr = W
set_option maxRecDepth 100000 in
theorem l_ixAmong (a : Option Addr) (n ca : Nat) (xs : List Int) (z : Int) (w : World) (hx : Reads w a n xs) (hn : n ≤ 4611686018427387903) :
    Calls Tryz.prog 26 #[.slice a n ca, .int .i64 z] w fun e w' => e = .returned (.bool (decide (z ∈ xs))) ∧ w' = w := by
  have HX := Lib.hid hx
  have hl : xs.length = n := hx.1
  obtain ⟨B, hB⟩ : ∃ B, decide (z ∈ xs) = B := ⟨_, rfl⟩
  rw [hB]
  have HB := Lib.hid hB
  clear hx hB
  go_enter Tryz.func26, Tryz.ntmps26
  go_wp2_with fail
  go_loopw [5] (fun x wr => AmAt w xs n z x wr) (fun x _ => n - (intOf x).toNat)
  case atStart => exact ⟨0, rfl, by omega, fun j hj => by omega, rfl⟩
  case round =>
    obtain ⟨k, rfl, k1, hk, rfl⟩ := hrel
    have HK := Lib.hid hk
    clear hk
    by_cases hlt : k < n
    · rcases HX.out.2.2 with h | ⟨b, o, rfl, hc⟩
      · omega
      have p1 := hc k hlt
      have h1 := HX.out.2.1 k hlt
      have i1 : (k : Int) < (n : Int) := by omega
      by_cases he : xs.getD k 0 = z
      · have HE := Lib.hid (show B = true by
          rw [← HB.out, decide_eq_true_eq, ← he, List.getD_eq_getElem?_getD, List.getElem?_eq_getElem (by omega)]
          exact List.getElem_mem _)
        have e1 : (xs.getD k 0 == z) = true := by simpa using he
        clear hc he
        generalize xs.getD k 0 = q at *
        go_wp2_with fail
        go_ret
        exact ⟨retB (by rw [HE.out]), rfl⟩
      · have HN := Lib.hid (show ∀ j, j < k + 1 → xs.getD j 0 ≠ z from fun j hj => by
          by_cases hjk : j = k
          · subst hjk; exact he
          · exact HK.out j (by omega))
        have e1 : (xs.getD k 0 == z) = false := by simpa using he
        clear hc he
        generalize xs.getD k 0 = q at *
        go_wp2_with fail
        go_roundw
        case rel => exact ⟨k + 1, by go_num, by omega, HN.out, rfl⟩
        case measure => simp [intOf]; omega
    · obtain rfl : k = n := by omega
      have HE := Lib.hid (show B = false by
        rw [← HB.out, decide_eq_false_iff_not]
        intro hm
        obtain ⟨j, hj, e⟩ := List.getElem_of_mem hm
        exact HK.out j (by omega) (by rw [List.getD_eq_getElem?_getD, List.getElem?_eq_getElem hj, e]; rfl))
      have i1 : ¬ (k : Int) < (k : Int) := by omega
      go_wp2_with fail
      go_ret
      exact ⟨retB (by rw [HE.out]), rfl⟩
end

section
set_option linter.unusedVariables false
set_option linter.unusedSimpArgs false
open Go.RowKit
theorem hasR_lt {p : Pt} {L : List (List (List Pt))} {i : Nat} (h : i ∈ hasR p L) : i < L.length := List.mem_range.1 (List.mem_filter.1 h).1
theorem nearR_lt {p : Pt} {L : List (List (List Pt))} {i : Nat} (h : i ∈ nearR p L) : i < L.length := List.mem_range.1 (List.mem_filter.1 h).1
theorem ixAt_lit (px py : Int) (L : List (List (List Pt))) (K : List Nat) (hk : hasR (px, py) L = K) (hl : L.length ≤ 1000) (W : World) (base xb : Nat) (U : Nat → Prop) (h : IxS W base xb L U) :
    Calls Tryz.prog 15 #[.pointer (some ⟨xb, 0, none⟩), pt px py] W fun e w' => (∃ a c U', e = .returned (.slice a K.length c) ∧ Reads w' a K.length (nums K) ∧ IxS w' base xb L U' ∧ UGrow W w' U U') ∧ KeptU U base W w' := by
  refine (i_at h px py).mono ?_
  rintro e w' ⟨⟨v, U', rfl, ho, hx, hu, _⟩, hk2⟩
  rw [hk] at ho
  obtain ⟨a, c, rfl, hr, _⟩ := iown_reads ho (fun i hi => by have := hasR_lt (by rw [hk]; exact hi : i ∈ hasR (px, py) L); omega)
  exact ⟨⟨a, c, U', rfl, hr, hx, hu⟩, hk2⟩
theorem ixNear_lit (px py : Int) (L : List (List (List Pt))) (K : List Nat) (hk : nearR (px, py) L = K) (hl : L.length ≤ 1000) (W : World) (base xb : Nat) (U : Nat → Prop) (h : IxS W base xb L U) :
    Calls Tryz.prog 16 #[.pointer (some ⟨xb, 0, none⟩), pt px py] W fun e w' => (∃ a c, e = .returned (.slice a K.length c) ∧ Reads w' a K.length (nums K)) ∧ Junk W w' := by
  refine (i_near h px py).mono ?_
  rintro e w' ⟨⟨v, rfl, ho⟩, hj⟩
  rw [hk] at ho
  obtain ⟨a, c, rfl, hr, _⟩ := iown_reads ho (fun i hi => by have := nearR_lt (by rw [hk]; exact hi : i ∈ nearR (px, py) L); omega)
  exact ⟨⟨a, c, rfl, hr⟩, hj⟩
theorem inX_lit {i : Int} {p : Pt} {L : List (List (List Pt))} {b : Bool} {z : Int} (h : (if 0 ≤ i ∧ i < L.length then (regQ p (L.getD i.toNat []), (0 : Int)) else (false, 6)) = (b, z)) : inX i p L = .tuple #[.bool b, .int .i64 z] := by
  unfold inX
  split at h <;> rename_i hh
  · rw [if_pos hh]; injection h with h1 h2; rw [h1, h2]
  · rw [if_neg hh]; injection h with h1 h2; rw [← h1, ← h2]
theorem ixIn_lit (i px py : Int) (L : List (List (List Pt))) (b : Bool) (z : Int) (hk : inX i (px, py) L = .tuple #[.bool b, .int .i64 z]) (W : World) (base xb : Nat) (U : Nat → Prop) (h : IxS W base xb L U) :
    Calls Tryz.prog 20 #[.pointer (some ⟨xb, 0, none⟩), .int .i64 i, pt px py] W fun e w' => (∃ U', e = .returned (.tuple #[.bool b, .int .i64 z]) ∧ IxS w' base xb L U' ∧ UGrow W w' U U') ∧ KeptU U base W w' := by
  rw [← hk]; exact i_in h i px py
def smpX : List (List (List Pt)) := [[boxR 0 0 4 4], [boxR 4 0 8 4], [boxR 0 0 8 8]]
theorem smpX_fine : (checkX smpX).1 = 0 := by decide +kernel
theorem smpX_11 : hasR (1, 1) smpX = [0, 2] := by decide +kernel
theorem smpX_41 : hasR (4, 1) smpX = [1, 2] := by decide +kernel
theorem smpX_88 : hasR (8, 8) smpX = [] := by decide +kernel
theorem smpX_55 : hasR (5, 5) smpX = [2] := by decide +kernel
theorem smpX_n88 : nearR (8, 8) smpX = [2] := by decide +kernel
set_option maxRecDepth 100000 in
set_option maxHeartbeats 2000000 in
theorem l_ixSample (w : World) : Calls Tryz.prog 21 #[] w fun e w' => (∃ xb base U, e = .returned (.pointer (some ⟨xb, 0, none⟩)) ∧ IxS w' base xb smpX U ∧ w.heap.size ≤ base) ∧ Junk w w' := by
  have H1 := Lib.hid (fun w' => l_ixBox 0 0 4 4 w')
  have H2 := Lib.hid (fun w' => l_ixBox 4 0 8 4 w')
  have H3 := Lib.hid (fun w' => l_ixBox 0 0 8 8 w')
  have HB := Lib.hid (fun (W : World) (b : Nat) (x y z : Option Addr) (hr : W.rowAt b = some #[.slice x 1 1, .slice y 1 1, .slice z 1 1]) (h1 : GRC W x 1 1 [boxR 0 0 4 4]) (h2 : GRC W y 1 1 [boxR 4 0 8 4]) (h3 : GRC W z 1 1 [boxR 0 0 8 8]) =>
    i_build W (some ⟨b, 0, none⟩) 3 3 smpX (lrc_cells (L := smpX) (vs := [.slice x 1 1, .slice y 1 1, .slice z 1 1]) rfl hr (fun i hi => match i, hi with
      | 0, _ => ⟨x, 1, 1, rfl, h1⟩
      | 1, _ => ⟨y, 1, 1, rfl, h2⟩
      | 2, _ => ⟨z, 1, 1, rfl, h3⟩)) smpX_fine)
  generalize smpX = R at *
  generalize boxR 0 0 4 4 = K1 at *
  generalize boxR 4 0 8 4 = K2 at *
  generalize boxR 0 0 8 8 = K3 at *
  go_enter Tryz.func21, Tryz.ntmps21
  go_wp2_with (first
    | (go_at_call 23; (with_reducible refine (H1.out _).mono ?_); rintro e w1 ⟨⟨a1, rfl, hr⟩, J1, d1, rfl⟩; have HR1 := Lib.hid hr; clear hr)
    | (go_at_call 23; (with_reducible refine (H2.out _).mono ?_); rintro e w1 ⟨⟨a2, rfl, hr⟩, J2, d2, rfl⟩; (try simp only [plus_plus, Array.append_assoc] at hr); have HR2 := Lib.hid hr; clear hr)
    | (go_at_call 23; (with_reducible refine (H3.out _).mono ?_); rintro e w1 ⟨⟨a3, rfl, hr⟩, J3, d3, rfl⟩; (try simp only [plus_plus, Array.append_assoc] at hr); have HR3 := Lib.hid hr; clear hr)
    | (go_at_call 11; refine (HB.out _ _ _ _ _ (by simp [go_sem]) (HR1.out.below (by ((try simp only [← Array.append_assoc]); repeat' first | with_reducible (first | apply Below.refl | assumption | apply bw_a | apply bw_d | apply bw_n | apply bw_e | apply bw_s | apply bw_p | apply bw_c | apply bw_r) | go_size))) (HR2.out.below (by ((try simp only [← Array.append_assoc]); repeat' first | with_reducible (first | apply Below.refl | assumption | apply bw_a | apply bw_d | apply bw_n | apply bw_e | apply bw_s | apply bw_p | apply bw_c | apply bw_r) | go_size))) (HR3.out.below (by ((try simp only [← Array.append_assoc]); repeat' first | with_reducible (first | apply Below.refl | assumption | apply bw_a | apply bw_d | apply bw_n | apply bw_e | apply bw_s | apply bw_p | apply bw_c | apply bw_r) | go_size)))).mono ?_; rintro e w1 ⟨⟨xb, U, rfl, ht⟩, J4, d4, rfl⟩; have HT := Lib.hid ht; clear ht))
  go_ret
  exact ⟨⟨xb, _, U, rfl, HT.out.below (by ((try simp only [← Array.append_assoc]); repeat' first | with_reducible (first | apply Below.refl | assumption | apply bw_a | apply bw_d | apply bw_n | apply bw_e | apply bw_s | apply bw_p | apply bw_c | apply bw_r) | go_size)), by simp; omega⟩, junk_of_below (by (repeat' first | with_reducible (first | apply Below.refl | assumption | apply bw_a | apply bw_d | apply bw_n | apply bw_p | apply bw_c | apply bw_r) | go_size))⟩
set_option maxRecDepth 100000 in
set_option maxHeartbeats 4000000 in
theorem l_ixAwake (w : World) : Calls Tryz.prog 9 #[] w fun e w' => e = .returned (.bool true) ∧ Junk w w' := by
  have HS := Lib.hid l_ixSample
  have HP := Lib.hid l_ixAtP
  have HA1 := Lib.hid (fun W B xb U h => ixAt_lit 1 1 smpX [0, 2] smpX_11 (by decide) W B xb U h)
  have HA2 := Lib.hid (fun W B xb U h => ixAt_lit 4 1 smpX [1, 2] smpX_41 (by decide) W B xb U h)
  have HA3 := Lib.hid (fun W B xb U h => ixAt_lit 8 8 smpX [] smpX_88 (by decide) W B xb U h)
  have HC1 := Lib.hid (fun W a g c h hc => same_lit [0, 2] [0, 2] (by decide) (by decide) (by decide) W a g c h hc)
  have HC2 := Lib.hid (fun W a g c h hc => same_lit [1, 2] [1, 2] (by decide) (by decide) (by decide) W a g c h hc)
  generalize smpX = L at *
  unfold pt at *
  simp only [List.length_cons, List.length_nil] at HA1 HA2 HA3 HC1 HC2
  go_enter Tryz.func9, Tryz.ntmps9
  go_wp2_with (first
    | (go_at_call 21; refine (HS.out _).mono ?_; rintro e w1 ⟨⟨xb, B, U, rfl, ht, hB⟩, J1, d1, rfl⟩; have HT := Lib.hid ht; have HBs := Lib.hid hB; clear ht hB)
    | (go_at_call 22; refine (HP.out _ _ _).mono ?_; rintro e w1 ⟨rfl, J2, d2, rfl⟩)
    | (go_at_call 15; (with_reducible refine (HA1.out _ B xb U ?_).mono ?_); (exact HT.out.below (by ((try simp only [← Array.append_assoc]); repeat' first | with_reducible (first | apply Below.refl | assumption | apply bw_a | apply bw_d | apply bw_n | apply bw_e | apply bw_s | apply bw_p | apply bw_c | apply bw_r) | go_size))); rintro e w2 ⟨⟨a1, c1, U1, rfl, hr, hx, _⟩, hk⟩; have hb1 : Below w.heap.size w w2 := Below.trans (show Below w.heap.size w _ by ((try simp only [← Array.append_assoc]); repeat' first | with_reducible (first | apply Below.refl | assumption | apply bw_a | apply bw_d | apply bw_n | apply bw_e | apply bw_s | apply bw_p | apply bw_c | apply bw_r) | go_size)) (hk.low.mono HBs.out); have HR1 := Lib.hid hr; have HX1 := Lib.hid hx; have hs1 := hb1.size; clear hr hx hk)
    | (go_at_call 15; (with_reducible refine (HA2.out _ B xb U1 ?_).mono ?_); (exact HX1.out.below (by ((try simp only [← Array.append_assoc]); repeat' first | with_reducible (first | apply Below.refl | assumption | apply bw_a | apply bw_d | apply bw_n | apply bw_e | apply bw_s | apply bw_p | apply bw_c | apply bw_r) | go_size))); rintro e w3 ⟨⟨a2, c2, U2, rfl, hr, hx, _⟩, hk⟩; have hb2 : Below w.heap.size w w3 := Below.trans (show Below w.heap.size w _ by ((try simp only [← Array.append_assoc]); repeat' first | with_reducible (first | apply Below.refl | assumption | apply bw_a | apply bw_d | apply bw_n | apply bw_e | apply bw_s | apply bw_p | apply bw_c | apply bw_r) | go_size)) (hk.low.mono HBs.out); have HR2 := Lib.hid hr; have HX2 := Lib.hid hx; have hs2 := hb2.size; clear hr hx hk)
    | (go_at_call 15; (with_reducible refine (HA3.out _ B xb U2 ?_).mono ?_); (exact HX2.out.below (by ((try simp only [← Array.append_assoc]); repeat' first | with_reducible (first | apply Below.refl | assumption | apply bw_a | apply bw_d | apply bw_n | apply bw_e | apply bw_s | apply bw_p | apply bw_c | apply bw_r) | go_size))); rintro e w4 ⟨⟨a3, c3, U3, rfl, _, _, _⟩, hk⟩; have hb3 : Below w.heap.size w w4 := Below.trans (show Below w.heap.size w _ by ((try simp only [← Array.append_assoc]); repeat' first | with_reducible (first | apply Below.refl | assumption | apply bw_a | apply bw_d | apply bw_n | apply bw_e | apply bw_s | apply bw_p | apply bw_c | apply bw_r) | go_size)) (hk.low.mono HBs.out); have hs3 := hb3.size; clear hk)
    | (go_at_call 18; refine (HC1.out _ _ _ _ (HR1.out.below (by ((try simp only [← Array.append_assoc]); repeat' first | with_reducible (first | apply Below.refl | assumption | apply bw_a | apply bw_d | apply bw_n | apply bw_e | apply bw_s | apply bw_p | apply bw_c | apply bw_r) | go_size))) (fun i hi => ?_)).mono ?_; (have h2 : i = 0 ∨ i = 1 := (by omega)); (rcases h2 with rfl | rfl <;> simp [go_sem]); rintro e w1 ⟨rfl, J5, d5, rfl⟩; clear HR1)
    | (go_at_call 18; refine (HC2.out _ _ _ _ (HR2.out.below (by ((try simp only [← Array.append_assoc]); repeat' first | with_reducible (first | apply Below.refl | assumption | apply bw_a | apply bw_d | apply bw_n | apply bw_e | apply bw_s | apply bw_p | apply bw_c | apply bw_r) | go_size))) (fun i hi => ?_)).mono ?_; (have h2 : i = 0 ∨ i = 1 := (by omega)); (rcases h2 with rfl | rfl <;> simp [go_sem]); rintro e w1 ⟨rfl, J6, d6, rfl⟩; clear HR2))
  go_ret
  exact ⟨rfl, junk_of_below (by (repeat' first | with_reducible (first | apply Below.refl | assumption | apply bw_a | apply bw_d | apply bw_n | apply bw_p | apply bw_c | apply bw_r) | go_size))⟩
theorem made_regs : ∃ Z : Array Value, (∀ w : World, (Instr.makeSlice 22 (.int .i64 65) (.int .i64 65)).run Tryz.prog w = .ok (.slice (some ⟨w.heap.size, 0, none⟩) 65 65) (w.alloc (.cells Z 28))) ∧ ∀ k, k < 65 → Z[k]? = some (.slice none 0 0) := by
  obtain ⟨i, hi, hz, hs, hb⟩ := info_reg
  refine ⟨madeCells (Value.agg #[.slice none 0 0]).cells 65, fun w => ?_, ?_⟩
  · have h := run_make (P := Tryz.prog) w 22 28 i (.agg #[.slice none 0 0]) Tryz.underlying22 hi hz .i64 .i64 65 65 (by omega) (by omega) (by rw [hb]; omega) (by omega)
    rw [hs, Nat.mul_one] at h
    exact h
  · intro k hk
    simp [madeCells, hk, Value.cells, Nat.mod_one]
theorem lrc_made {W : World} {g : Nat} (h : ∀ k, k < 65 → W.cell? ⟨g, k, none⟩ = some (.slice none 0 0)) : LRC W (some ⟨g, 0, none⟩) 65 65 (List.replicate 65 []) := by
  refine ⟨List.length_replicate, ⟨Nat.le_refl _, fun e => by cases e⟩, .inr ⟨g, 0, rfl, fun i hi => ⟨none, 0, 0, by rw [Nat.zero_add]; exact h i hi, ?_⟩⟩⟩
  have : (List.replicate 65 ([] : List (List Pt))).getD i [] = [] := by rw [List.getD_eq_getElem?_getD, List.getElem?_replicate, if_pos hi]; rfl
  rw [this]
  exact grc_none W
theorem prc_two {W : World} {g : Nat} {a b c d : Int} (h : W.rowAt g = some #[.int .i64 a, .int .i64 b, .int .i64 c, .int .i64 d]) : PRC W (some ⟨g, 0, none⟩) 2 2 [(a, b), (c, d)] := by
  refine ⟨⟨rfl, .inr ⟨g, 0, rfl, fun i hi => ?_⟩⟩, ⟨Nat.le_refl _, fun e => by cases e⟩⟩
  have hi2 : i = 0 ∨ i = 1 := by omega
  rcases hi2 with rfl | rfl
  · exact ⟨(ucell_of_row h 0).trans rfl, (ucell_of_row h 1).trans rfl⟩
  · exact ⟨(ucell_of_row h 2).trans rfl, (ucell_of_row h 3).trans rfl⟩
def twoX : List (List (List Pt)) := [[boxR 0 0 4 4], [[(0, 0), (1, 1)]]]
theorem twoX_check : checkX twoX = (190, 1) := by decide +kernel
theorem many_check : checkX (List.replicate 65 []) = (3, 0) := checkX_many (by rw [List.length_replicate]; decide)
set_option maxRecDepth 100000 in
set_option maxHeartbeats 4000000 in
theorem l_indexKnown (w : World) : Calls Tryz.prog 5 #[] w fun e w' => e = .returned (.bool true) ∧ Junk w w' := by
  have HS := Lib.hid l_ixSample
  have HP := Lib.hid l_ixAtP
  have HAw := Lib.hid l_ixAwake
  have HI1 := Lib.hid (fun W B xb U h => ixIn_lit 1 4 1 smpX true 0 (inX_lit (by decide +kernel)) W B xb U h)
  have HI2 := Lib.hid (fun W B xb U h => ixIn_lit 0 4 1 smpX false 0 (inX_lit (by decide +kernel)) W B xb U h)
  have HI3 := Lib.hid (fun W B xb U h => ixIn_lit 3 1 1 smpX false 6 (inX_lit (by decide +kernel)) W B xb U h)
  have HA := Lib.hid (fun W B xb U h => ixAt_lit 5 5 smpX [2] smpX_55 (by decide) W B xb U h)
  have HN := Lib.hid (fun W B xb U h => ixNear_lit 8 8 smpX [2] smpX_n88 (by decide) W B xb U h)
  have HC := Lib.hid (fun W a g c h hc => same_lit [2] [2] (by decide) (by decide) (by decide) W a g c h hc)
  have HBx := Lib.hid (fun w' => l_ixBox 0 0 4 4 w')
  have HP0 := Lib.hid (fun w' => l_ixAtP 0 0 w')
  have HP1 := Lib.hid (fun w' => l_ixAtP 1 1 w')
  obtain ⟨Z, hmk, hZ⟩ := made_regs
  have HZ := Lib.hid hZ
  have HB1 := Lib.hid (fun (W : World) (g : Nat) (h : LRC W (some ⟨g, 0, none⟩) 65 65 (List.replicate 65 [])) => i_bad W (some ⟨g, 0, none⟩) 65 65 (List.replicate 65 []) h (by decide) (fun R hR => by rw [List.eq_of_mem_replicate hR]; exact ⟨by decide, fun K hK => by cases hK⟩) (by rw [many_check]; decide))
  rw [many_check] at HB1
  have HB2 := Lib.hid (fun (W : World) (b r q : Nat) (x : Option Addr) (hr : W.rowAt b = some #[.slice x 1 1, .slice (some ⟨r, 0, none⟩) 1 1]) (h1 : GRC W x 1 1 [boxR 0 0 4 4]) (h2 : W.rowAt r = some #[.slice (some ⟨q, 0, none⟩) 2 2]) (h3 : W.rowAt q = some #[.int .i64 0, .int .i64 0, .int .i64 1, .int .i64 1]) =>
    i_bad W (some ⟨b, 0, none⟩) 2 2 twoX (lrc_cells (L := twoX) (vs := [.slice x 1 1, .slice (some ⟨r, 0, none⟩) 1 1]) rfl hr (fun i hi => match i, hi with
      | 0, _ => ⟨x, 1, 1, rfl, h1⟩
      | 1, _ => ⟨_, 1, 1, rfl, grc_one h2 (prc_two h3)⟩)) (by decide) (by decide) (by rw [twoX_check]; decide))
  rw [twoX_check] at HB2
  unfold fltV at HB1 HB2
  clear hZ
  generalize smpX = L at *
  generalize boxR 0 0 4 4 = K1 at *
  unfold pt at *
  simp only [List.length_cons, List.length_nil] at HA HN HC
  go_enter Tryz.func5, Tryz.ntmps5
  go_upto_region 8 with (first
    | (go_at_call 21; refine (HS.out _).mono ?_; rintro e w1 ⟨⟨xb, B, U, rfl, ht, hB⟩, J1, d1, rfl⟩; have HT := Lib.hid ht; have HBs := Lib.hid hB; clear ht hB)
    | (go_at_call 22; refine (HP.out _ _ _).mono ?_; rintro e w1 ⟨rfl, J2, d2, rfl⟩)
    | (go_at_call 20; (with_reducible refine (HI1.out _ B xb U ?_).mono ?_); (exact HT.out.below (by ((try simp only [← Array.append_assoc]); repeat' first | with_reducible (first | apply Below.refl | assumption | apply bw_a | apply bw_d | apply bw_n | apply bw_e | apply bw_s | apply bw_p | apply bw_c | apply bw_r) | go_size))); rintro e w2 ⟨⟨U1, rfl, hx, _⟩, hk⟩; have hb1 : Below w.heap.size w w2 := Below.trans (show Below w.heap.size w _ by ((try simp only [← Array.append_assoc]); repeat' first | with_reducible (first | apply Below.refl | assumption | apply bw_a | apply bw_d | apply bw_n | apply bw_e | apply bw_s | apply bw_p | apply bw_c | apply bw_r) | go_size)) (hk.low.mono HBs.out); have HX1 := Lib.hid hx; have hs1 := hb1.size; clear hx hk)
    | (go_at_call 20; (with_reducible refine (HI2.out _ B xb U1 ?_).mono ?_); (exact HX1.out.below (by ((try simp only [← Array.append_assoc]); repeat' first | with_reducible (first | apply Below.refl | assumption | apply bw_a | apply bw_d | apply bw_n | apply bw_e | apply bw_s | apply bw_p | apply bw_c | apply bw_r) | go_size))); rintro e w3 ⟨⟨U2, rfl, hx, _⟩, hk⟩; have hb2 : Below w.heap.size w w3 := Below.trans (show Below w.heap.size w _ by ((try simp only [← Array.append_assoc]); repeat' first | with_reducible (first | apply Below.refl | assumption | apply bw_a | apply bw_d | apply bw_n | apply bw_e | apply bw_s | apply bw_p | apply bw_c | apply bw_r) | go_size)) (hk.low.mono HBs.out); have HX2 := Lib.hid hx; have hs2 := hb2.size; clear hx hk)
    | (go_at_call 20; (with_reducible refine (HI3.out _ B xb U2 ?_).mono ?_); (exact HX2.out.below (by ((try simp only [← Array.append_assoc]); repeat' first | with_reducible (first | apply Below.refl | assumption | apply bw_a | apply bw_d | apply bw_n | apply bw_e | apply bw_s | apply bw_p | apply bw_c | apply bw_r) | go_size))); rintro e w4 ⟨⟨U3, rfl, hx, _⟩, hk⟩; have hb3 : Below w.heap.size w w4 := Below.trans (show Below w.heap.size w _ by ((try simp only [← Array.append_assoc]); repeat' first | with_reducible (first | apply Below.refl | assumption | apply bw_a | apply bw_d | apply bw_n | apply bw_e | apply bw_s | apply bw_p | apply bw_c | apply bw_r) | go_size)) (hk.low.mono HBs.out); have HX3 := Lib.hid hx; have hs3 := hb3.size; clear hx hk)
    | (go_at_call 11; refine (HB1.out _ _ (lrc_made (fun k hk => by rw [World.cell?_alloc_at _ _ _ _ (by first | rfl | (simp; done))]; exact HZ.out k hk))).mono ?_; rintro e w1 ⟨rfl, J3, d3, rfl⟩))
  obtain ⟨hb, hhb⟩ : ∃ h, w4.heap.size + 1 + J3.size = h := ⟨_, rfl⟩
  generalize hW5 : ((w4.alloc (.cells Z 28)).plus J3 d3).alloc (.cells #[.int .i64 3, .int .i64 0] 33) = w5
  have hb5 : Below w.heap.size w w5 := by rw [← hW5]; ((try simp only [← Array.append_assoc]); repeat' first | with_reducible (first | apply Below.refl | assumption | apply bw_a | apply bw_d | apply bw_n | apply bw_e | apply bw_s | apply bw_p | apply bw_c | apply bw_r) | go_size)
  have hs5 := hb5.size
  have HX5 := Lib.hid (show IxS w5 B xb L U3 by rw [← hW5]; exact HX3.out.below (by ((try simp only [← Array.append_assoc]); repeat' first | with_reducible (first | apply Below.refl | assumption | apply bw_a | apply bw_d | apply bw_n | apply bw_e | apply bw_s | apply bw_p | apply bw_c | apply bw_r) | go_size)))
  have r5 : w5.rowAt hb = some #[.int .i64 3, .int .i64 0] := by rw [← hW5, ← hhb]; simp [go_sem]
  have hz5 : w5.heap.size = hb + 1 := by rw [← hW5, ← hhb]; simp
  have HU := Lib.hid (show ¬ U3 hb from fun h => by have := (HX3.out.at hb h).2; omega)
  simp only [hhb]
  clear hW5 hhb
  go_upto_region 9 with (first
    | (go_at_call 23; (with_reducible refine (HBx.out _).mono ?_); rintro e w1 ⟨⟨a1, rfl, hr⟩, J1, d1, rfl⟩; have HR1 := Lib.hid hr; clear hr)
    | (go_at_call 22; (with_reducible refine (HP0.out _).mono ?_); rintro e w1 ⟨rfl, J5, d5, rfl⟩)
    | (go_at_call 22; (with_reducible refine (HP1.out _).mono ?_); rintro e w1 ⟨rfl, J6, d6, rfl⟩)
    | (go_at_call 11; refine (HB2.out _ _ (hb + 1 + (J1.size + (J5.size + J6.size)) + 1) (hb + 1 + (J1.size + (J5.size + J6.size))) a1 (by simp [go_sem, hz5]) (HR1.out.below (by ((try simp only [← Array.append_assoc]); repeat' first | with_reducible (first | apply Below.refl | assumption | apply bw_a | apply bw_d | apply bw_n | apply bw_e | apply bw_s | apply bw_p | apply bw_c | apply bw_r) | go_size))) (by simp [go_sem, hz5]) (by simp [go_sem, hz5])).mono ?_; rintro e w1 ⟨rfl, J4, d4, rfl⟩))
  obtain ⟨ib, hib⟩ : ∃ h, hb + 1 + (J1.size + (J5.size + J6.size)) + 1 + 1 + 1 + J4.size = h := ⟨_, rfl⟩
  generalize hW6 : ((((((w5.plus (J1 ++ (J5 ++ J6)) d6).alloc (.cells #[.int .i64 0, .int .i64 0, .int .i64 1, .int .i64 1] 42)).alloc (.cells #[.slice (some ⟨hb + 1 + (J1.size + (J5.size + J6.size)), 0, none⟩) 2 2] 23)).alloc (.cells #[.slice a1 1 1, .slice (some ⟨hb + 1 + (J1.size + (J5.size + J6.size)) + 1, 0, none⟩) 1 1] 28)).plus J4 d4).alloc (.cells #[.int .i64 190, .int .i64 1] 33)) = w6
  have h56 : Below w5.heap.size w5 w6 := by rw [← hW6]; ((try simp only [← Array.append_assoc]); repeat' first | with_reducible (first | apply Below.refl | assumption | apply bw_a | apply bw_d | apply bw_n | apply bw_e | apply bw_s | apply bw_p | apply bw_c | apply bw_r) | go_size)
  have hb6 : Below w.heap.size w w6 := hb5.trans (h56.mono hs5)
  have hs6 := hb6.size
  have HX6 := Lib.hid (HX5.out.below h56)
  have r6 : w6.rowAt hb = some #[.int .i64 3, .int .i64 0] := (rowAt_of_block (h56.block hb (by omega))).trans r5
  have t6 : w6.rowAt ib = some #[.int .i64 190, .int .i64 1] := by rw [← hW6, ← hib]; simp [go_sem, hz5]
  have hz6 : w6.heap.size = ib + 1 := by rw [← hW6, ← hib]; simp [hz5]
  have hlt : hb < ib := by omega
  have HU6 := Lib.hid (show ¬ U3 ib from fun h => by have := (HX5.out.at ib h).2; omega)
  simp only [hib]
  clear hW6 hib r5 hz5 h56 hb5 hs5
  go_upto_region 10 with (first
    | (go_at_call 22; refine (HP.out _ _ _).mono ?_; rintro e w1 ⟨rfl, J7, d7, rfl⟩)
    | (go_at_call 15; (with_reducible refine (HA.out _ B xb U3 ?_).mono ?_); (exact HX6.out.below (by ((try simp only [← Array.append_assoc]); repeat' first | with_reducible (first | apply Below.refl | assumption | apply bw_a | apply bw_d | apply bw_n | apply bw_e | apply bw_s | apply bw_p | apply bw_c | apply bw_r) | go_size))); rintro e w7 ⟨⟨a2, c2, U4, rfl, hr, hx, _⟩, hk⟩; have hb7 : Below w.heap.size w w7 := Below.trans (show Below w.heap.size w _ by ((try simp only [← Array.append_assoc]); repeat' first | with_reducible (first | apply Below.refl | assumption | apply bw_a | apply bw_d | apply bw_n | apply bw_e | apply bw_s | apply bw_p | apply bw_c | apply bw_r) | go_size)) (hk.low.mono HBs.out); have HR2 := Lib.hid hr; have HX7 := Lib.hid hx; have hs7 := hb7.size; have hz7 : ib < w7.heap.size := (have := hk.low.size; by simp at this; omega); have r7 : w7.rowAt hb = some #[.int .i64 3, .int .i64 0] := (rowAt_of_block (hk.keep hb (by simp; omega) HU.out)).trans ((rowAt_of_block ((show Below w6.heap.size w6 _ by ((try simp only [← Array.append_assoc]); repeat' first | with_reducible (first | apply Below.refl | assumption | apply bw_a | apply bw_d | apply bw_n | apply bw_e | apply bw_s | apply bw_p | apply bw_c | apply bw_r) | go_size)).block hb (by omega))).trans r6); have t7 : w7.rowAt ib = some #[.int .i64 190, .int .i64 1] := (rowAt_of_block (hk.keep ib (by simp; omega) HU6.out)).trans ((rowAt_of_block ((show Below w6.heap.size w6 _ by ((try simp only [← Array.append_assoc]); repeat' first | with_reducible (first | apply Below.refl | assumption | apply bw_a | apply bw_d | apply bw_n | apply bw_e | apply bw_s | apply bw_p | apply bw_c | apply bw_r) | go_size)).block ib (by omega))).trans t6); clear hr hx hk)
    | (go_at_call 16; (with_reducible refine (HN.out _ B xb U4 ?_).mono ?_); (exact HX7.out.below (by ((try simp only [← Array.append_assoc]); repeat' first | with_reducible (first | apply Below.refl | assumption | apply bw_a | apply bw_d | apply bw_n | apply bw_e | apply bw_s | apply bw_p | apply bw_c | apply bw_r) | go_size))); rintro e w1 ⟨⟨a3, c3, rfl, hr⟩, J8, d8, rfl⟩; (try simp only [plus_plus, Array.append_assoc] at hr); have HR3 := Lib.hid hr; clear hr)
    | (go_at_call 18; refine (HC.out _ _ _ _ (HR2.out.below (by ((try simp only [← Array.append_assoc]); repeat' first | with_reducible (first | apply Below.refl | assumption | apply bw_a | apply bw_d | apply bw_n | apply bw_e | apply bw_s | apply bw_p | apply bw_c | apply bw_r) | go_size))) (fun i hi => ?_)).mono ?_; (have h2 : i = 0 := (by omega)); (subst h2; simp [go_sem]); rintro e w1 ⟨rfl, J9, d9, rfl⟩; clear HR2)
    | (go_at_call 18; refine (HC.out _ _ _ _ (HR3.out.below (by ((try simp only [← Array.append_assoc]); repeat' first | with_reducible (first | apply Below.refl | assumption | apply bw_a | apply bw_d | apply bw_n | apply bw_e | apply bw_s | apply bw_p | apply bw_c | apply bw_r) | go_size))) (fun i hi => ?_)).mono ?_; (have h2 : i = 0 := (by omega)); (subst h2; simp [go_sem]); rintro e w1 ⟨rfl, J10, d10, rfl⟩; clear HR3))
  have y0 := (ucell_of_row r7 0).trans (show _ = some (Value.int .i64 3) from rfl)
  have y1 := (ucell_of_row r7 1).trans (show _ = some (Value.int .i64 0) from rfl)
  have z0 := (ucell_of_row t7 0).trans (show _ = some (Value.int .i64 190) from rfl)
  have z1 := (ucell_of_row t7 1).trans (show _ = some (Value.int .i64 1) from rfl)
  have hh7 : hb < w7.heap.size := by omega
  go_wp2_with (go_at_call 9; refine (HAw.out _).mono ?_; rintro e w1 ⟨rfl, J11, d11, rfl⟩)
  go_ret
  exact ⟨rfl, junk_of_below (by (repeat' first | with_reducible (first | apply Below.refl | assumption | apply bw_a | apply bw_d | apply bw_n | apply bw_p | apply bw_c | apply bw_r) | go_size))⟩
end

section
set_option linter.unusedVariables false
set_option linter.unusedSimpArgs false
open Go.RowKit Go.Joins
set_option maxRecDepth 100000 in
theorem l_ixBoxO (a b c d : Int) (w : World) : Calls Tryz.prog 23 #[.int .i64 a, .int .i64 b, .int .i64 c, .int .i64 d] w fun e w' => (∃ x ps, e = .returned (.agg #[.slice x 1 1]) ∧ GOwn w' w.heap.size (.slice x 1 1) ps ∧ ps.map (·.2) = [boxR a b c d]) ∧ Junk w w' := by
  go_enter Tryz.func23, Tryz.ntmps23
  go_wp2
  refine bodyPost_ret (results_reg rfl _ _ w.heap.size #[.slice (some ⟨w.heap.size + 2, 0, none⟩) 1 1] rfl (by simp [go_sem]) rfl) rfl ⟨⟨_, [(.slice (some ⟨w.heap.size + 1, 0, none⟩) 4 4, boxR a b c d)], rfl, ?_, rfl⟩, junk_of_below (by (repeat' first | with_reducible (first | apply Below.refl | assumption | apply bw_a | apply bw_d | apply bw_n | apply bw_p | apply bw_c | apply bw_r) | go_size))⟩
  refine gown_box (n := 4) (heap_new_at (by simp)) ?_ (by simp)
  refine powns_below (powns_blt (W := w) (w := w.alloc (.cells #[.slice (some ⟨w.heap.size + 1 + 1, 0, none⟩) 1 1] 28)) (L := boxR a b c d) (n := 4) (g := w.heap.size + 1) rfl ?_ (by simp) (by decide) (by simp)) (by (repeat' first | with_reducible (first | apply Below.refl | assumption | apply bw_a | apply bw_d | apply bw_n | apply bw_p | apply bw_c | apply bw_r) | go_size))
  simp [pcells, boxR]
end
end Go.Proofs.YthphdiigjimchaaGreat

/- Contract of period's Text. Condition: strconv's table is as laid. -/
import Derived.Test.YtlbbampmonkleaaDoorPerS
import Derived.Deep.Quiet
namespace Go.Proofs.YtlbbampmonkleaaDoor
set_option linter.unusedVariables false
set_option linter.unusedSimpArgs false
open Go.RowKit

set_option maxHeartbeats 4000000 in
theorem n_String (k p : Int) (h : InCal k p) (y m : Nat) (hy : (y : Int) = p * mon k / 12 + 1) (hm : (m : Int) = p * mon k % 12 + 1) (w : World) (ht : Tab w) :
    Calls Tryd.prog 34 #[.agg #[.int .i64 k, .int .i64 (mon k), .int .i64 p]] w fun e w' => e = .returned (.string ⟨(tx k y m).toArray⟩) ∧ Junk w w' := by
  obtain ⟨p0, s0, s1, s2, p1⟩ := inCal_bd h
  obtain ⟨_, _, _, _, _, _, q1, q2⟩ := mon_facts h.1
  have HT := Lib.hid ht
  have y1 : 1 ≤ y ∧ y ≤ 9999 := by omega
  have m1 : 1 ≤ m ∧ m ≤ 12 := by omega
  have HN := n_month k (mon k) p 0 (p * mon k) (by omega) p0 (by omega) s0 (by omega)
  rw [← hy, ← hm] at HN
  have HN := Lib.hid HN
  have HP : ∀ w, Tab w → Calls Tryd.prog 47 #[.int .i64 (y : Int), .int .i64 4] w fun e w' => e = .returned (.string ⟨(dgs 4 y).toArray⟩) ∧ Junk w w' := n_padded y 4 (by omega) (by omega) (by omega)
  have HP := Lib.hid HP
  have hl4 := dgs_len 4 y
  have HD := Lib.hid (n_digitsOf k)
  rcases mon_cases h.1 with ⟨rfl, e⟩ | ⟨rfl, e⟩ | ⟨rfl, e⟩ | ⟨rfl, e⟩
  · rw [e] at HN ⊢
    have H2 : ∀ w, Tab w → Calls Tryd.prog 47 #[.int .i64 (((m : Nat)) : Int), .int .i64 2] w fun e w' => e = .returned (.string ⟨(dgs 2 m).toArray⟩) ∧ Junk w w' := n_padded m 2 (by omega) (by omega) (by omega)
    obtain ⟨a, ha⟩ : ∃ a : Int, ((m : Int) - 1) / 1 = a := ⟨_, rfl⟩
    have e1 : ((m : Int) - 1).tdiv 1 = a := by rw [← ha]; exact Int.tdiv_eq_ediv_of_nonneg (by omega)
    have a0 : 0 ≤ a := by omega
    have a1 : a ≤ 12 := by omega
    rw [show (((m : Nat)) : Int) = a + 1 by omega] at H2
    have H2 := Lib.hid H2
    have hl2 := dgs_len 2 m
    have HX := Lib.hid (show dgs 4 y ++ ([45, 77] ++ dgs 2 m) = tx 1 y m from rfl)
    generalize tx 1 y m = T at *
    generalize dgs 4 y = D at *
    generalize dgs 2 m = E at *
    clear h hy hm s0 s1 s2 e ha p0 p1 ht
    go_enter Tryd.func34, Tryd.ntmps34
    go_wp2_with fail
    refine (HN.out _).mono ?_; rintro e w' ⟨rfl, J, dr, rfl⟩
    go_wp2_with fail
    refine (HP.out _ (HT.out.below (by (repeat' (first | (with_reducible exact Below.refl _ _) | (with_reducible assumption) | (with_reducible refine Below.alloc ?_ ?_ _) | (with_reducible refine Below.drew ?_) | (with_reducible refine below_drewN ?_ _) | (with_reducible refine below_plus ?_ ?_ _ _) | (with_reducible refine Below.setCell ?_ ?_ _) | (with_reducible refine Below.setRow ?_ ?_ _) | go_size))))).mono ?_; rintro e w' ⟨rfl, J2, dr2, rfl⟩
    go_wp2_with fail
    rw [show Utf8.encode ((byteAt [77, 81, 72] 0 : Nat) : Int) = (⟨#[77]⟩ : ByteArray) by kernel_rfl]
    have HTW := Lib.hid (show ∀ J d, Tab ((w.alloc (.cells #[.int .i64 1, .int .i64 1, .int .i64 p] 43)).plus J d) from fun J d => HT.out.below (by (repeat' (first | (with_reducible exact Below.refl _ _) | (with_reducible assumption) | (with_reducible refine Below.alloc ?_ ?_ _) | (with_reducible refine Below.drew ?_) | (with_reducible refine below_drewN ?_ _) | (with_reducible refine below_plus ?_ ?_ _ _) | (with_reducible refine Below.setCell ?_ ?_ _) | (with_reducible refine Below.setRow ?_ ?_ _) | go_size))))
    have w1 : IntKind.i64.wrap ((m : Int) - 1) = (m : Int) - 1 := by simp [IntKind.wrap, IntKind.signed, IntKind.bits]; omega
    have w2 : IntKind.i64.wrap (a + 1) = a + 1 := by simp [IntKind.wrap, IntKind.signed, IntKind.bits]; omega
    have w3 : IntKind.i64.wrap a = a := by simp [IntKind.wrap, IntKind.signed, IntKind.bits]; omega
    refine wp_rq4 (C := fun w' => ∃ J d, w' = (w.alloc (.cells #[.int .i64 1, .int .i64 1, .int .i64 p] 43)).plus J d) (by kernel_rfl) (by kernel_rfl) ⟨J ++ J2, dr2 + 1, rfl⟩ ?_
    repeat (refine wpQuiet_step (fun K hK => ?_); go_simp; first | (refine hK _ ?_; clear hK K) | (apply Exists.intro; refine ⟨?_, hK _ ?_⟩; (intro w3_ J3_ d3_ hw3_; subst hw3_; first | (with_reducible exact rfl) | (go_simp; with_reducible exact rfl) | (go_simp; first | ((with_reducible refine (HD.out _).mono ?_); rintro e_ w_ ⟨rfl, rfl⟩; exact ⟨rfl, _, _, rfl⟩) | ((with_reducible refine (H2.out _ (HTW.out _ _)).mono ?_); rintro e_ w_ ⟨rfl, J4_, d4_, rfl⟩; exact ⟨rfl, _, _, by rw [plus_plus]⟩))); clear hK K))
    refine wpQuiet_nil ?_
    intro w3 hw3
    obtain ⟨J3, d3, rfl⟩ := hw3
    go_wp2
    go_ret
    exact ⟨ret_str (by rw [← HX.out]; simp [ba_app]), junk_of_below (by (repeat' (first | (with_reducible exact Below.refl _ _) | (with_reducible assumption) | (with_reducible refine Below.alloc ?_ ?_ _) | (with_reducible refine Below.drew ?_) | (with_reducible refine below_drewN ?_ _) | (with_reducible refine below_plus ?_ ?_ _ _) | (with_reducible refine Below.setCell ?_ ?_ _) | (with_reducible refine Below.setRow ?_ ?_ _) | go_size)))⟩
  · rw [e] at HN ⊢
    have H2 : ∀ w, Tab w → Calls Tryd.prog 47 #[.int .i64 (((((m - 1) / 3 + 1) : Nat)) : Int), .int .i64 1] w fun e w' => e = .returned (.string ⟨(dgs 1 ((m - 1) / 3 + 1)).toArray⟩) ∧ Junk w w' := n_padded ((m - 1) / 3 + 1) 1 (by omega) (by omega) (by omega)
    obtain ⟨a, ha⟩ : ∃ a : Int, ((m : Int) - 1) / 3 = a := ⟨_, rfl⟩
    have e1 : ((m : Int) - 1).tdiv 3 = a := by rw [← ha]; exact Int.tdiv_eq_ediv_of_nonneg (by omega)
    have a0 : 0 ≤ a := by omega
    have a1 : a ≤ 12 := by omega
    rw [show (((((m - 1) / 3 + 1) : Nat)) : Int) = a + 1 by omega] at H2
    have H2 := Lib.hid H2
    have hl2 := dgs_len 1 ((m - 1) / 3 + 1)
    have HX := Lib.hid (show dgs 4 y ++ ([45, 81] ++ dgs 1 ((m - 1) / 3 + 1)) = tx 2 y m from rfl)
    generalize tx 2 y m = T at *
    generalize dgs 4 y = D at *
    generalize dgs 1 ((m - 1) / 3 + 1) = E at *
    clear h hy hm s0 s1 s2 e ha p0 p1 ht
    go_enter Tryd.func34, Tryd.ntmps34
    go_wp2_with fail
    refine (HN.out _).mono ?_; rintro e w' ⟨rfl, J, dr, rfl⟩
    go_wp2_with fail
    refine (HP.out _ (HT.out.below (by (repeat' (first | (with_reducible exact Below.refl _ _) | (with_reducible assumption) | (with_reducible refine Below.alloc ?_ ?_ _) | (with_reducible refine Below.drew ?_) | (with_reducible refine below_drewN ?_ _) | (with_reducible refine below_plus ?_ ?_ _ _) | (with_reducible refine Below.setCell ?_ ?_ _) | (with_reducible refine Below.setRow ?_ ?_ _) | go_size))))).mono ?_; rintro e w' ⟨rfl, J2, dr2, rfl⟩
    go_wp2_with fail
    rw [show Utf8.encode ((byteAt [77, 81, 72] 1 : Nat) : Int) = (⟨#[81]⟩ : ByteArray) by kernel_rfl]
    have HTW := Lib.hid (show ∀ J d, Tab ((w.alloc (.cells #[.int .i64 2, .int .i64 3, .int .i64 p] 43)).plus J d) from fun J d => HT.out.below (by (repeat' (first | (with_reducible exact Below.refl _ _) | (with_reducible assumption) | (with_reducible refine Below.alloc ?_ ?_ _) | (with_reducible refine Below.drew ?_) | (with_reducible refine below_drewN ?_ _) | (with_reducible refine below_plus ?_ ?_ _ _) | (with_reducible refine Below.setCell ?_ ?_ _) | (with_reducible refine Below.setRow ?_ ?_ _) | go_size))))
    have w1 : IntKind.i64.wrap ((m : Int) - 1) = (m : Int) - 1 := by simp [IntKind.wrap, IntKind.signed, IntKind.bits]; omega
    have w2 : IntKind.i64.wrap (a + 1) = a + 1 := by simp [IntKind.wrap, IntKind.signed, IntKind.bits]; omega
    have w3 : IntKind.i64.wrap a = a := by simp [IntKind.wrap, IntKind.signed, IntKind.bits]; omega
    refine wp_rq4 (C := fun w' => ∃ J d, w' = (w.alloc (.cells #[.int .i64 2, .int .i64 3, .int .i64 p] 43)).plus J d) (by kernel_rfl) (by kernel_rfl) ⟨J ++ J2, dr2 + 1, rfl⟩ ?_
    repeat (refine wpQuiet_step (fun K hK => ?_); go_simp; first | (refine hK _ ?_; clear hK K) | (apply Exists.intro; refine ⟨?_, hK _ ?_⟩; (intro w3_ J3_ d3_ hw3_; subst hw3_; first | (with_reducible exact rfl) | (go_simp; with_reducible exact rfl) | (go_simp; first | ((with_reducible refine (HD.out _).mono ?_); rintro e_ w_ ⟨rfl, rfl⟩; exact ⟨rfl, _, _, rfl⟩) | ((with_reducible refine (H2.out _ (HTW.out _ _)).mono ?_); rintro e_ w_ ⟨rfl, J4_, d4_, rfl⟩; exact ⟨rfl, _, _, by rw [plus_plus]⟩))); clear hK K))
    refine wpQuiet_nil ?_
    intro w3 hw3
    obtain ⟨J3, d3, rfl⟩ := hw3
    go_wp2
    go_ret
    exact ⟨ret_str (by rw [← HX.out]; simp [ba_app]), junk_of_below (by (repeat' (first | (with_reducible exact Below.refl _ _) | (with_reducible assumption) | (with_reducible refine Below.alloc ?_ ?_ _) | (with_reducible refine Below.drew ?_) | (with_reducible refine below_drewN ?_ _) | (with_reducible refine below_plus ?_ ?_ _ _) | (with_reducible refine Below.setCell ?_ ?_ _) | (with_reducible refine Below.setRow ?_ ?_ _) | go_size)))⟩
  · rw [e] at HN ⊢
    have H2 : ∀ w, Tab w → Calls Tryd.prog 47 #[.int .i64 (((((m - 1) / 6 + 1) : Nat)) : Int), .int .i64 1] w fun e w' => e = .returned (.string ⟨(dgs 1 ((m - 1) / 6 + 1)).toArray⟩) ∧ Junk w w' := n_padded ((m - 1) / 6 + 1) 1 (by omega) (by omega) (by omega)
    obtain ⟨a, ha⟩ : ∃ a : Int, ((m : Int) - 1) / 6 = a := ⟨_, rfl⟩
    have e1 : ((m : Int) - 1).tdiv 6 = a := by rw [← ha]; exact Int.tdiv_eq_ediv_of_nonneg (by omega)
    have a0 : 0 ≤ a := by omega
    have a1 : a ≤ 12 := by omega
    rw [show (((((m - 1) / 6 + 1) : Nat)) : Int) = a + 1 by omega] at H2
    have H2 := Lib.hid H2
    have hl2 := dgs_len 1 ((m - 1) / 6 + 1)
    have HX := Lib.hid (show dgs 4 y ++ ([45, 72] ++ dgs 1 ((m - 1) / 6 + 1)) = tx 3 y m from rfl)
    generalize tx 3 y m = T at *
    generalize dgs 4 y = D at *
    generalize dgs 1 ((m - 1) / 6 + 1) = E at *
    clear h hy hm s0 s1 s2 e ha p0 p1 ht
    go_enter Tryd.func34, Tryd.ntmps34
    go_wp2_with fail
    refine (HN.out _).mono ?_; rintro e w' ⟨rfl, J, dr, rfl⟩
    go_wp2_with fail
    refine (HP.out _ (HT.out.below (by (repeat' (first | (with_reducible exact Below.refl _ _) | (with_reducible assumption) | (with_reducible refine Below.alloc ?_ ?_ _) | (with_reducible refine Below.drew ?_) | (with_reducible refine below_drewN ?_ _) | (with_reducible refine below_plus ?_ ?_ _ _) | (with_reducible refine Below.setCell ?_ ?_ _) | (with_reducible refine Below.setRow ?_ ?_ _) | go_size))))).mono ?_; rintro e w' ⟨rfl, J2, dr2, rfl⟩
    go_wp2_with fail
    rw [show Utf8.encode ((byteAt [77, 81, 72] 2 : Nat) : Int) = (⟨#[72]⟩ : ByteArray) by kernel_rfl]
    have HTW := Lib.hid (show ∀ J d, Tab ((w.alloc (.cells #[.int .i64 3, .int .i64 6, .int .i64 p] 43)).plus J d) from fun J d => HT.out.below (by (repeat' (first | (with_reducible exact Below.refl _ _) | (with_reducible assumption) | (with_reducible refine Below.alloc ?_ ?_ _) | (with_reducible refine Below.drew ?_) | (with_reducible refine below_drewN ?_ _) | (with_reducible refine below_plus ?_ ?_ _ _) | (with_reducible refine Below.setCell ?_ ?_ _) | (with_reducible refine Below.setRow ?_ ?_ _) | go_size))))
    have w1 : IntKind.i64.wrap ((m : Int) - 1) = (m : Int) - 1 := by simp [IntKind.wrap, IntKind.signed, IntKind.bits]; omega
    have w2 : IntKind.i64.wrap (a + 1) = a + 1 := by simp [IntKind.wrap, IntKind.signed, IntKind.bits]; omega
    have w3 : IntKind.i64.wrap a = a := by simp [IntKind.wrap, IntKind.signed, IntKind.bits]; omega
    refine wp_rq4 (C := fun w' => ∃ J d, w' = (w.alloc (.cells #[.int .i64 3, .int .i64 6, .int .i64 p] 43)).plus J d) (by kernel_rfl) (by kernel_rfl) ⟨J ++ J2, dr2 + 1, rfl⟩ ?_
    repeat (refine wpQuiet_step (fun K hK => ?_); go_simp; first | (refine hK _ ?_; clear hK K) | (apply Exists.intro; refine ⟨?_, hK _ ?_⟩; (intro w3_ J3_ d3_ hw3_; subst hw3_; first | (with_reducible exact rfl) | (go_simp; with_reducible exact rfl) | (go_simp; first | ((with_reducible refine (HD.out _).mono ?_); rintro e_ w_ ⟨rfl, rfl⟩; exact ⟨rfl, _, _, rfl⟩) | ((with_reducible refine (H2.out _ (HTW.out _ _)).mono ?_); rintro e_ w_ ⟨rfl, J4_, d4_, rfl⟩; exact ⟨rfl, _, _, by rw [plus_plus]⟩))); clear hK K))
    refine wpQuiet_nil ?_
    intro w3 hw3
    obtain ⟨J3, d3, rfl⟩ := hw3
    go_wp2
    go_ret
    exact ⟨ret_str (by rw [← HX.out]; simp [ba_app]), junk_of_below (by (repeat' (first | (with_reducible exact Below.refl _ _) | (with_reducible assumption) | (with_reducible refine Below.alloc ?_ ?_ _) | (with_reducible refine Below.drew ?_) | (with_reducible refine below_drewN ?_ _) | (with_reducible refine below_plus ?_ ?_ _ _) | (with_reducible refine Below.setCell ?_ ?_ _) | (with_reducible refine Below.setRow ?_ ?_ _) | go_size)))⟩
  · rw [e] at HN ⊢
    have HX := Lib.hid (show dgs 4 y ++ [] = tx 4 y m from rfl)
    generalize tx 4 y m = T at *
    generalize dgs 4 y = D at *
    clear h hy hm s0 s1 s2 e p0 p1 ht
    go_enter Tryd.func34, Tryd.ntmps34
    go_wp2_with fail
    refine (HN.out _).mono ?_; rintro e w' ⟨rfl, J, dr, rfl⟩
    go_wp2_with fail
    refine (HP.out _ (HT.out.below (by (repeat' (first | (with_reducible exact Below.refl _ _) | (with_reducible assumption) | (with_reducible refine Below.alloc ?_ ?_ _) | (with_reducible refine Below.drew ?_) | (with_reducible refine below_drewN ?_ _) | (with_reducible refine below_plus ?_ ?_ _ _) | (with_reducible refine Below.setCell ?_ ?_ _) | (with_reducible refine Below.setRow ?_ ?_ _) | go_size))))).mono ?_; rintro e w' ⟨rfl, J2, dr2, rfl⟩
    go_wp2
    go_ret
    exact ⟨ret_str (by rw [← HX.out]; simp), junk_of_below (by (repeat' (first | (with_reducible exact Below.refl _ _) | (with_reducible assumption) | (with_reducible refine Below.alloc ?_ ?_ _) | (with_reducible refine Below.drew ?_) | (with_reducible refine below_drewN ?_ _) | (with_reducible refine below_plus ?_ ?_ _ _) | (with_reducible refine Below.setCell ?_ ?_ _) | (with_reducible refine Below.setRow ?_ ?_ _) | go_size)))⟩

theorem n_Text (k p : Int) (h : InCal k p) (y m : Nat) (hy : (y : Int) = p * mon k / 12 + 1) (hm : (m : Int) = p * mon k % 12 + 1) (w : World) (ht : Tab w) :
    Calls Tryd.prog 16 #[.int .i64 k, .int .i64 p] w fun e w' => e = .returned (.tuple #[.string ⟨(tx k y m).toArray⟩, .int .i64 0]) ∧ Junk w w' := by
  have HS := n_spanOf k p
  rw [span_ok h] at HS
  have HS := Lib.hid HS
  have HT := Lib.hid ht
  have HR := Lib.hid (n_String k p h y m hy hm)
  generalize tx k y m = T at *
  generalize mon k = q at *
  clear h hy hm ht
  go_enter Tryd.func16, Tryd.ntmps16
  go_wp2_with fail
  refine (HS.out _).mono ?_; rintro e w' ⟨rfl, J, dr, rfl⟩
  go_wp2_with fail
  refine (HR.out _ (HT.out.below (by (repeat' (first | (with_reducible exact Below.refl _ _) | (with_reducible assumption) | (with_reducible refine Below.alloc ?_ ?_ _) | (with_reducible refine Below.drew ?_) | (with_reducible refine below_drewN ?_ _) | (with_reducible refine below_plus ?_ ?_ _ _) | (with_reducible refine Below.setCell ?_ ?_ _) | (with_reducible refine Below.setRow ?_ ?_ _) | go_size))))).mono ?_; rintro e w' ⟨rfl, J2, dr2, rfl⟩
  go_wp2
  go_ret2
  exact ⟨rfl, junk_of_below (by (repeat' (first | (with_reducible exact Below.refl _ _) | (with_reducible assumption) | (with_reducible refine Below.alloc ?_ ?_ _) | (with_reducible refine Below.drew ?_) | (with_reducible refine below_drewN ?_ _) | (with_reducible refine below_plus ?_ ?_ _ _) | (with_reducible refine Below.setCell ?_ ?_ _) | (with_reducible refine Below.setRow ?_ ?_ _) | go_size)))⟩

theorem n_Text_bad (k p : Int) (h : ¬ InCal k p) (w : World) : Calls Tryd.prog 16 #[.int .i64 k, .int .i64 p] w fun e w' => e = .returned (.tuple #[.string ⟨#[]⟩, .int .i64 (spanRes k p).2]) ∧ Junk w w' := by
  have HS := Lib.hid (n_spanOf k p)
  have hb := span_bad h
  have e1 : ((spanRes k p).2 != 0) = true := bne_iff_ne.2 hb
  clear h hb
  generalize spanRes k p = s at *
  obtain ⟨⟨a, b, c⟩, e⟩ := s
  go_enter Tryd.func16, Tryd.ntmps16
  go_wp2_with fail
  refine (HS.out _).mono ?_; rintro e w' ⟨rfl, J, dr, rfl⟩
  go_wp2
  go_ret2
  exact ⟨rfl, junk_of_below (by (repeat' (first | (with_reducible exact Below.refl _ _) | (with_reducible assumption) | (with_reducible refine Below.alloc ?_ ?_ _) | (with_reducible refine Below.drew ?_) | (with_reducible refine below_drewN ?_ _) | (with_reducible refine below_plus ?_ ?_ _ _) | (with_reducible refine Below.setCell ?_ ?_ _) | (with_reducible refine Below.setRow ?_ ?_ _) | go_size)))⟩
end Go.Proofs.YtlbbampmonkleaaDoor

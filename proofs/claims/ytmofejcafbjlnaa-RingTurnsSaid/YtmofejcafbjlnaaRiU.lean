/- The law RingTurns: the walk. -/
import Derived.Test.YtmofejcafbjlnaaRiT
namespace Go.Proofs.Ytmofejcafbjlnaa
set_option linter.unusedVariables false
set_option linter.unusedSimpArgs false
open Go.RowKit

/-- Check's error of points that are no ring. -/
theorem ck_err {K : List Pt} (h : ¬ fineQ K) : ∃ (e : Int) (t : Nat), checkF K = (e, t) ∧ (e == 0) = false ∧ (e != 0) = true := by
  refine ⟨(checkF K).1, (checkF K).2, rfl, ?_, ?_⟩
  · rw [beq_eq_false_iff_ne]; exact fun k => h (check_fine.1 k)
  · rw [bne, beq_eq_false_iff_ne.2 (fun k => h (check_fine.1 k))]; rfl
theorem norm_less {K : List Pt} (h : fineQ K) (hl : LeastC K 0) {k : Nat} (h1 : 0 < k) (hk : k < K.length) : cmpC (K.getD 0 (0, 0)) (K.getD k (0, 0)) = -1 := by
  have a := hl (k : Int)
  have e0 : cyc K 0 = K.getD 0 (0, 0) := cyc_nat (k := 0) (by omega)
  rw [cyc_nat hk, e0] at a
  have b : cmpC (K.getD 0 (0, 0)) (K.getD k (0, 0)) ≠ 0 := fun e => (twice_iff hk).1 (h.once k hk) 0 h1 (cmpC_zero.1 e)
  rcases cmpC_cases (K.getD 0 (0, 0)) (K.getD k (0, 0)) with c | c | c <;> omega
theorem nm_none (L : List Pt) (hf : ¬ fineQ L) (n : Nat) (hn : n ≤ 400) (w : World) (a : Option Addr) (ca : Nat) (h : PRC w a n ca L) : Calls Try.prog 15 #[.slice a n ca] w fun e w' => (∃ a' c', e = .returned (.tuple #[.slice a' 0 c', .bool false])) ∧ Junk w w' := by
  refine (c_rgNormal w a n ca L h hn).mono ?_
  rintro e w' ⟨⟨v, b, rfl, hv, hb⟩, hj⟩
  rw [norm_not hf] at hv
  obtain ⟨a', c', rfl, h'⟩ := own_prc (n := 0) rfl hv
  have : b = false := by cases b with | false => rfl | true => exact absurd (hb.1 rfl) hf
  rw [this]
  exact ⟨⟨a', c', rfl⟩, hj⟩
set_option maxRecDepth 100000 in
theorem turns_big (w : World) (a : Option Addr) (n ca : Nat) (s : Int) (h : 210 < n) :
    Calls Try.prog 6 #[.slice a n ca, .int .i64 s] w fun e w' => e = .returned (.bool true) ∧ Junk w w' := by
  have HAw := Lib.hid l_rgAwake
  have HB1 := Lib.hid (fun w' => l_rgBig a n ca w')
  rw [decide_eq_true h] at HB1
  clear h
  go_enter Try.func6, Try.ntmps6
  go_wp2_with (first
    | (go_at_call 24; refine (HAw.out _).mono ?_; rintro e w1 ⟨rfl, J60, d60, rfl⟩)
    | (go_at_call 11; (with_reducible refine (HB1.out _).mono ?_); rintro e w1 ⟨rfl, rfl⟩))
  go_ret
  exact ⟨rfl, junk_of_below (by (repeat' (first | (with_reducible exact Below.refl _ _) | (with_reducible assumption) | (with_reducible refine Below.alloc ?_ ?_ _) | (with_reducible refine Below.drew ?_) | (with_reducible refine below_drewN ?_ _) | (with_reducible refine below_plus ?_ ?_ _ _) | (with_reducible refine Below.setCell ?_ ?_ _) | (with_reducible refine Below.setRow ?_ ?_ _) | go_size)))⟩
set_option maxRecDepth 100000 in
set_option maxHeartbeats 8000000 in
theorem turns_not (w : World) (a : Option Addr) (n ca : Nat) (K : List Pt) (s : Int) (hK : PRC w a n ca K) (h1 : ¬ 210 < n) (hf : ¬ fineQ K) :
    Calls Try.prog 6 #[.slice a n ca, .int .i64 s] w fun e w' => e = .returned (.bool true) ∧ Junk w w' := by
  have HAw := Lib.hid l_rgAwake
  have HB1 := Lib.hid (fun w' => l_rgBig a n ca w')
  rw [decide_eq_false h1] at HB1
  obtain ⟨ek, tk, hk, k1, k2⟩ := ck_err hf
  obtain ⟨ea, ta, ha, k3, k4⟩ := ck_err (K := rotF K s) (fun h => hf ((fine_rot K s).1 h))
  obtain ⟨eb, tb, hb, k5, k6⟩ := ck_err (K := K.reverse) (fun h => hf ((fine_rev K).1 h))
  have HC1 := Lib.hid (ck_is K _ hk n (by omega))
  have HC2 := Lib.hid (ck_is (rotF K s) _ ha n (by omega))
  have HC3 := Lib.hid (ck_is K.reverse _ hb n (by omega))
  have HF1 := Lib.hid (fr_is K (rotF K s) s rfl n (by rw [rot_len]; exact hK.rd.1) (by omega))
  have HT1 := Lib.hid (tn_is K K.reverse rfl n (by rw [List.length_reverse]; exact hK.rd.1) (by omega))
  have HT2 := Lib.hid (tn_is K.reverse K (by rw [List.reverse_reverse]) n hK.rd.1 (by omega))
  have HP0 := Lib.hid (sp_pt K n (by omega))
  have HN1 := Lib.hid (nm_none K hf n (by omega))
  have HS1 := Lib.hid (sg_is K 0 (sign_not hf) n (by omega))
  have HM1 := Lib.hid (sm_is K K false (same_false.2 (fun h => hf h.1)) n n (by omega) (by omega))
  simp only at HC1 HC2 HC3
  generalize rotF K s = A at *
  generalize K.reverse = R at *
  have HK := Lib.hid hK
  have hfl := fld_err
  clear hK h1 hf hk ha hb
  go_enter Try.func6, Try.ntmps6
  go_wp2_with (first
    | (go_at_call 24; refine (HAw.out _).mono ?_; rintro e w1 ⟨rfl, J60, d60, rfl⟩)
    | (go_at_call 11; (with_reducible refine (HB1.out _).mono ?_); rintro e w1 ⟨rfl, rfl⟩)
    | (go_at_call 14; refine (HC1.out _ _ _ (HK.out.below (by ((try simp only [← Array.append_assoc]); repeat' (first | (with_reducible exact Below.refl _ _) | (with_reducible assumption) | (with_reducible refine Below.alloc ?_ ?_ _) | (with_reducible refine Below.drew ?_) | (with_reducible refine below_drewN ?_ _) | (with_reducible exact below_d _ _ _ _ _) | (with_reducible refine below_snoc _ _ ?_ ?_) | (with_reducible refine below_plus ?_ ?_ _ _) | (with_reducible refine Below.setCell ?_ ?_ _) | (with_reducible refine Below.setRow ?_ ?_ _) | go_size))))).mono ?_; clear HC1; rintro e w1 ⟨rfl, J11, d11, rfl⟩)
    | (go_at_call 13; refine (HF1.out _ _ _ (HK.out.below (by ((try simp only [← Array.append_assoc]); repeat' (first | (with_reducible exact Below.refl _ _) | (with_reducible assumption) | (with_reducible refine Below.alloc ?_ ?_ _) | (with_reducible refine Below.drew ?_) | (with_reducible refine below_drewN ?_ _) | (with_reducible exact below_d _ _ _ _ _) | (with_reducible refine below_snoc _ _ ?_ ?_) | (with_reducible refine below_plus ?_ ?_ _ _) | (with_reducible refine Below.setCell ?_ ?_ _) | (with_reducible refine Below.setRow ?_ ?_ _) | go_size))))).mono ?_; clear HF1; rintro e w1 ⟨⟨a7, c7, rfl, hr⟩, J27, d27, rfl⟩; (try simp only [plus_plus, Array.append_assoc] at hr); have HR7 := Lib.hid hr; clear hr)
    | (go_at_call 12; refine (HT1.out _ _ _ (HK.out.below (by ((try simp only [← Array.append_assoc]); repeat' (first | (with_reducible exact Below.refl _ _) | (with_reducible assumption) | (with_reducible refine Below.alloc ?_ ?_ _) | (with_reducible refine Below.drew ?_) | (with_reducible refine below_drewN ?_ _) | (with_reducible exact below_d _ _ _ _ _) | (with_reducible refine below_snoc _ _ ?_ ?_) | (with_reducible refine below_plus ?_ ?_ _ _) | (with_reducible refine Below.setCell ?_ ?_ _) | (with_reducible refine Below.setRow ?_ ?_ _) | go_size))))).mono ?_; clear HT1; rintro e w1 ⟨⟨a8, c8, rfl, hr⟩, J28, d28, rfl⟩; (try simp only [plus_plus, Array.append_assoc] at hr); have HR8 := Lib.hid hr; clear hr)
    | (go_at_call 14; refine (HC2.out _ _ _ (HR7.out.below (by ((try simp only [← Array.append_assoc]); repeat' (first | (with_reducible exact Below.refl _ _) | (with_reducible assumption) | (with_reducible refine Below.alloc ?_ ?_ _) | (with_reducible refine Below.drew ?_) | (with_reducible refine below_drewN ?_ _) | (with_reducible exact below_d _ _ _ _ _) | (with_reducible refine below_snoc _ _ ?_ ?_) | (with_reducible refine below_plus ?_ ?_ _ _) | (with_reducible refine Below.setCell ?_ ?_ _) | (with_reducible refine Below.setRow ?_ ?_ _) | go_size))))).mono ?_; clear HC2; rintro e w1 ⟨rfl, J12, d12, rfl⟩)
    | (go_at_call 14; refine (HC3.out _ _ _ (HR8.out.below (by ((try simp only [← Array.append_assoc]); repeat' (first | (with_reducible exact Below.refl _ _) | (with_reducible assumption) | (with_reducible refine Below.alloc ?_ ?_ _) | (with_reducible refine Below.drew ?_) | (with_reducible refine below_drewN ?_ _) | (with_reducible exact below_d _ _ _ _ _) | (with_reducible refine below_snoc _ _ ?_ ?_) | (with_reducible refine below_plus ?_ ?_ _ _) | (with_reducible refine Below.setCell ?_ ?_ _) | (with_reducible refine Below.setRow ?_ ?_ _) | go_size))))).mono ?_; clear HC3; rintro e w1 ⟨rfl, J13, d13, rfl⟩)
    | (go_at_call 12; refine (HT2.out _ _ _ (HR8.out.below (by ((try simp only [← Array.append_assoc]); repeat' (first | (with_reducible exact Below.refl _ _) | (with_reducible assumption) | (with_reducible refine Below.alloc ?_ ?_ _) | (with_reducible refine Below.drew ?_) | (with_reducible refine below_drewN ?_ _) | (with_reducible exact below_d _ _ _ _ _) | (with_reducible refine below_snoc _ _ ?_ ?_) | (with_reducible refine below_plus ?_ ?_ _ _) | (with_reducible refine Below.setCell ?_ ?_ _) | (with_reducible refine Below.setRow ?_ ?_ _) | go_size))))).mono ?_; clear HT2; rintro e w1 ⟨⟨a9, c9, rfl, hr⟩, J29, d29, rfl⟩; (try simp only [plus_plus, Array.append_assoc] at hr); have HR9 := Lib.hid hr; clear hr)
    | (go_at_call 20; refine (HP0.out _ _ _ _ _ (HR9.out.below (by ((try simp only [← Array.append_assoc]); repeat' (first | (with_reducible exact Below.refl _ _) | (with_reducible assumption) | (with_reducible refine Below.alloc ?_ ?_ _) | (with_reducible refine Below.drew ?_) | (with_reducible refine below_drewN ?_ _) | (with_reducible exact below_d _ _ _ _ _) | (with_reducible refine below_snoc _ _ ?_ ?_) | (with_reducible refine below_plus ?_ ?_ _ _) | (with_reducible refine Below.setCell ?_ ?_ _) | (with_reducible refine Below.setRow ?_ ?_ _) | go_size)))) (HK.out.below (by ((try simp only [← Array.append_assoc]); repeat' (first | (with_reducible exact Below.refl _ _) | (with_reducible assumption) | (with_reducible refine Below.alloc ?_ ?_ _) | (with_reducible refine Below.drew ?_) | (with_reducible refine below_drewN ?_ _) | (with_reducible exact below_d _ _ _ _ _) | (with_reducible refine below_snoc _ _ ?_ ?_) | (with_reducible refine below_plus ?_ ?_ _ _) | (with_reducible refine Below.setCell ?_ ?_ _) | (with_reducible refine Below.setRow ?_ ?_ _) | go_size))))).mono ?_; clear HP0; rintro e w1 ⟨rfl, J40, d40, rfl⟩)
    | (go_at_call 15; refine (HN1.out _ _ _ (HK.out.below (by ((try simp only [← Array.append_assoc]); repeat' (first | (with_reducible exact Below.refl _ _) | (with_reducible assumption) | (with_reducible refine Below.alloc ?_ ?_ _) | (with_reducible refine Below.drew ?_) | (with_reducible refine below_drewN ?_ _) | (with_reducible exact below_d _ _ _ _ _) | (with_reducible refine below_snoc _ _ ?_ ?_) | (with_reducible refine below_plus ?_ ?_ _ _) | (with_reducible refine Below.setCell ?_ ?_ _) | (with_reducible refine Below.setRow ?_ ?_ _) | go_size))))).mono ?_; clear HN1; rintro e w1 ⟨⟨a4, c4, rfl⟩, J71, d71, rfl⟩)
    | (go_at_call 18; refine (HS1.out _ _ _ (HK.out.below (by ((try simp only [← Array.append_assoc]); repeat' (first | (with_reducible exact Below.refl _ _) | (with_reducible assumption) | (with_reducible refine Below.alloc ?_ ?_ _) | (with_reducible refine Below.drew ?_) | (with_reducible refine below_drewN ?_ _) | (with_reducible exact below_d _ _ _ _ _) | (with_reducible refine below_snoc _ _ ?_ ?_) | (with_reducible refine below_plus ?_ ?_ _ _) | (with_reducible refine Below.setCell ?_ ?_ _) | (with_reducible refine Below.setRow ?_ ?_ _) | go_size))))).mono ?_; clear HS1; rintro e w1 ⟨rfl, J31, d31, rfl⟩)
    | (go_at_call 25; refine (HM1.out _ _ _ _ _ (HK.out.below (by ((try simp only [← Array.append_assoc]); repeat' (first | (with_reducible exact Below.refl _ _) | (with_reducible assumption) | (with_reducible refine Below.alloc ?_ ?_ _) | (with_reducible refine Below.drew ?_) | (with_reducible refine below_drewN ?_ _) | (with_reducible exact below_d _ _ _ _ _) | (with_reducible refine below_snoc _ _ ?_ ?_) | (with_reducible refine below_plus ?_ ?_ _ _) | (with_reducible refine Below.setCell ?_ ?_ _) | (with_reducible refine Below.setRow ?_ ?_ _) | go_size)))) (HK.out.below (by ((try simp only [← Array.append_assoc]); repeat' (first | (with_reducible exact Below.refl _ _) | (with_reducible assumption) | (with_reducible refine Below.alloc ?_ ?_ _) | (with_reducible refine Below.drew ?_) | (with_reducible refine below_drewN ?_ _) | (with_reducible exact below_d _ _ _ _ _) | (with_reducible refine below_snoc _ _ ?_ ?_) | (with_reducible refine below_plus ?_ ?_ _ _) | (with_reducible refine Below.setCell ?_ ?_ _) | (with_reducible refine Below.setRow ?_ ?_ _) | go_size))))).mono ?_; clear HM1; rintro e w1 ⟨rfl, J51, d51, rfl⟩))
  go_ret
  exact ⟨rfl, junk_of_below (by (repeat' (first | (with_reducible exact Below.refl _ _) | (with_reducible assumption) | (with_reducible refine Below.alloc ?_ ?_ _) | (with_reducible refine Below.drew ?_) | (with_reducible refine below_drewN ?_ _) | (with_reducible refine below_plus ?_ ?_ _ _) | (with_reducible refine Below.setCell ?_ ?_ _) | (with_reducible refine Below.setRow ?_ ?_ _) | go_size)))⟩
def TuAt (W : World) (n : Nat) (x : Value) (wr : World) : Prop := ∃ k : Nat, x = .int .i64 (k : Int) ∧ 0 < k ∧ k ≤ n ∧ Cls W wr
set_option maxRecDepth 100000 in
set_option maxHeartbeats 8000000 in
theorem turns_in (w : World) (a : Option Addr) (n ca : Nat) (K : List Pt) (s : Int) (hK : PRC w a n ca K) (h1 : ¬ 210 < n) (hf : fineQ K) :
    Calls Try.prog 6 #[.slice a n ca, .int .i64 s] w fun e w' => e = .returned (.bool true) ∧ Junk w w' := by
  have HAw := Lib.hid l_rgAwake
  have HB1 := Lib.hid (fun w' => l_rgBig a n ca w')
  rw [decide_eq_false h1] at HB1
  have hl := hK.rd.1
  have hn := norm_is hf
  have hnf := norm_fine hf hn
  have hfa := (fine_rot K s).2 hf
  have hfb := (fine_rev K).2 hf
  have hnl : (normF K).length = n := by rw [norm_len hn]; exact hl
  have HC1 := Lib.hid (ck_is K _ (check_at (check_fine.2 hf)) n (by omega))
  have HC2 := Lib.hid (ck_is (rotF K s) _ (check_at (check_fine.2 hfa)) n (by omega))
  have HC3 := Lib.hid (ck_is K.reverse _ (check_at (check_fine.2 hfb)) n (by omega))
  have HF1 := Lib.hid (fr_is K (rotF K s) s rfl n (by rw [rot_len]; exact hl) (by omega))
  have HT1 := Lib.hid (tn_is K K.reverse rfl n (by rw [List.length_reverse]; exact hl) (by omega))
  have HT2 := Lib.hid (tn_is K.reverse K (by rw [List.reverse_reverse]) n hl (by omega))
  have HP0 := Lib.hid (sp_pt K n (by omega))
  have HN1 := Lib.hid (nm_is K (normF K) hf rfl n hnl (by omega))
  have HN2 := Lib.hid (nm_is (rotF K s) (normF K) hfa (norm_rot K s) n hnl (by omega))
  have HN3 := Lib.hid (nm_is K.reverse (normF K) hfb (norm_rev K) n hnl (by omega))
  have HN4 := Lib.hid (nm_is (normF K) (normF K) hnf (norm_norm K) n hnl (by omega))
  have HP1 := Lib.hid (sp_pt (normF K) n (by omega))
  have HP2 := Lib.hid (sp_pt (normF K) n (by omega))
  have HP3 := Lib.hid (sp_pt (normF K) n (by omega))
  have HS1 := Lib.hid (sg_is (normF K) 1 hn.left n (by omega))
  have HS2 := Lib.hid (sg_is K _ rfl n (by omega))
  have HS3 := Lib.hid (sg_is (rotF K s) _ (sign_rot K s) n (by omega))
  have HS4 := Lib.hid (sg_is K.reverse _ (sign_rev K) n (by omega))
  have HM1 := Lib.hid (sm_is K (rotF K s) true (same_true.2 (same_norm.2 ⟨hf, hfa, (norm_rot K s).symm⟩)) n n (by omega) (by omega))
  have HM2 := Lib.hid (sm_is (rotF K s) K.reverse true (same_true.2 (same_norm.2 ⟨hfa, hfb, by rw [norm_rot, norm_rev]⟩)) n n (by omega) (by omega))
  have HM3 := Lib.hid (sm_is (normF K) K true (same_true.2 (same_norm.2 ⟨hnf, hf, norm_norm K⟩)) n n (by omega) (by omega))
  have HLs := Lib.hid (fun (k : Nat) (h1 : 0 < k) (hk : k < n) => norm_less hnf hn.first h1 (by rw [hnl]; exact hk))
  have HSg := Lib.hid (sign_one hf)
  have n3 : 3 ≤ n := by have := hf.few; omega
  simp only at HC1 HC2 HC3
  generalize rotF K s = A at *
  generalize K.reverse = R at *
  generalize normF K = M at *
  generalize signF K = sg at *
  have HK := Lib.hid hK
  have hfl := fld_err
  clear hK hf hn hnf hfa hfb hnl hl
  go_enter Try.func6, Try.ntmps6
  go_upto_region 16 with (first
    | (go_at_call 24; refine (HAw.out _).mono ?_; rintro e w1 ⟨rfl, J60, d60, rfl⟩)
    | (go_at_call 11; (with_reducible refine (HB1.out _).mono ?_); rintro e w1 ⟨rfl, rfl⟩)
    | (go_at_call 14; refine (HC1.out _ _ _ (HK.out.below (by ((try simp only [← Array.append_assoc]); repeat' (first | (with_reducible exact Below.refl _ _) | (with_reducible assumption) | (with_reducible refine Below.alloc ?_ ?_ _) | (with_reducible refine Below.drew ?_) | (with_reducible refine below_drewN ?_ _) | (with_reducible exact below_d _ _ _ _ _) | (with_reducible refine below_snoc _ _ ?_ ?_) | (with_reducible refine below_plus ?_ ?_ _ _) | (with_reducible refine Below.setCell ?_ ?_ _) | (with_reducible refine Below.setRow ?_ ?_ _) | go_size))))).mono ?_; clear HC1; rintro e w1 ⟨rfl, J11, d11, rfl⟩)
    | (go_at_call 13; refine (HF1.out _ _ _ (HK.out.below (by ((try simp only [← Array.append_assoc]); repeat' (first | (with_reducible exact Below.refl _ _) | (with_reducible assumption) | (with_reducible refine Below.alloc ?_ ?_ _) | (with_reducible refine Below.drew ?_) | (with_reducible refine below_drewN ?_ _) | (with_reducible exact below_d _ _ _ _ _) | (with_reducible refine below_snoc _ _ ?_ ?_) | (with_reducible refine below_plus ?_ ?_ _ _) | (with_reducible refine Below.setCell ?_ ?_ _) | (with_reducible refine Below.setRow ?_ ?_ _) | go_size))))).mono ?_; clear HF1; rintro e w1 ⟨⟨a7, c7, rfl, hr⟩, J27, d27, rfl⟩; (try simp only [plus_plus, Array.append_assoc] at hr); have HR7 := Lib.hid hr; clear hr)
    | (go_at_call 12; refine (HT1.out _ _ _ (HK.out.below (by ((try simp only [← Array.append_assoc]); repeat' (first | (with_reducible exact Below.refl _ _) | (with_reducible assumption) | (with_reducible refine Below.alloc ?_ ?_ _) | (with_reducible refine Below.drew ?_) | (with_reducible refine below_drewN ?_ _) | (with_reducible exact below_d _ _ _ _ _) | (with_reducible refine below_snoc _ _ ?_ ?_) | (with_reducible refine below_plus ?_ ?_ _ _) | (with_reducible refine Below.setCell ?_ ?_ _) | (with_reducible refine Below.setRow ?_ ?_ _) | go_size))))).mono ?_; clear HT1; rintro e w1 ⟨⟨a8, c8, rfl, hr⟩, J28, d28, rfl⟩; (try simp only [plus_plus, Array.append_assoc] at hr); have HR8 := Lib.hid hr; clear hr)
    | (go_at_call 14; refine (HC2.out _ _ _ (HR7.out.below (by ((try simp only [← Array.append_assoc]); repeat' (first | (with_reducible exact Below.refl _ _) | (with_reducible assumption) | (with_reducible refine Below.alloc ?_ ?_ _) | (with_reducible refine Below.drew ?_) | (with_reducible refine below_drewN ?_ _) | (with_reducible exact below_d _ _ _ _ _) | (with_reducible refine below_snoc _ _ ?_ ?_) | (with_reducible refine below_plus ?_ ?_ _ _) | (with_reducible refine Below.setCell ?_ ?_ _) | (with_reducible refine Below.setRow ?_ ?_ _) | go_size))))).mono ?_; clear HC2; rintro e w1 ⟨rfl, J12, d12, rfl⟩)
    | (go_at_call 14; refine (HC3.out _ _ _ (HR8.out.below (by ((try simp only [← Array.append_assoc]); repeat' (first | (with_reducible exact Below.refl _ _) | (with_reducible assumption) | (with_reducible refine Below.alloc ?_ ?_ _) | (with_reducible refine Below.drew ?_) | (with_reducible refine below_drewN ?_ _) | (with_reducible exact below_d _ _ _ _ _) | (with_reducible refine below_snoc _ _ ?_ ?_) | (with_reducible refine below_plus ?_ ?_ _ _) | (with_reducible refine Below.setCell ?_ ?_ _) | (with_reducible refine Below.setRow ?_ ?_ _) | go_size))))).mono ?_; clear HC3; rintro e w1 ⟨rfl, J13, d13, rfl⟩)
    | (go_at_call 12; refine (HT2.out _ _ _ (HR8.out.below (by ((try simp only [← Array.append_assoc]); repeat' (first | (with_reducible exact Below.refl _ _) | (with_reducible assumption) | (with_reducible refine Below.alloc ?_ ?_ _) | (with_reducible refine Below.drew ?_) | (with_reducible refine below_drewN ?_ _) | (with_reducible exact below_d _ _ _ _ _) | (with_reducible refine below_snoc _ _ ?_ ?_) | (with_reducible refine below_plus ?_ ?_ _ _) | (with_reducible refine Below.setCell ?_ ?_ _) | (with_reducible refine Below.setRow ?_ ?_ _) | go_size))))).mono ?_; clear HT2; rintro e w1 ⟨⟨a9, c9, rfl, hr⟩, J29, d29, rfl⟩; (try simp only [plus_plus, Array.append_assoc] at hr); have HR9 := Lib.hid hr; clear hr)
    | (go_at_call 20; refine (HP0.out _ _ _ _ _ (HR9.out.below (by ((try simp only [← Array.append_assoc]); repeat' (first | (with_reducible exact Below.refl _ _) | (with_reducible assumption) | (with_reducible refine Below.alloc ?_ ?_ _) | (with_reducible refine Below.drew ?_) | (with_reducible refine below_drewN ?_ _) | (with_reducible exact below_d _ _ _ _ _) | (with_reducible refine below_snoc _ _ ?_ ?_) | (with_reducible refine below_plus ?_ ?_ _ _) | (with_reducible refine Below.setCell ?_ ?_ _) | (with_reducible refine Below.setRow ?_ ?_ _) | go_size)))) (HK.out.below (by ((try simp only [← Array.append_assoc]); repeat' (first | (with_reducible exact Below.refl _ _) | (with_reducible assumption) | (with_reducible refine Below.alloc ?_ ?_ _) | (with_reducible refine Below.drew ?_) | (with_reducible refine below_drewN ?_ _) | (with_reducible exact below_d _ _ _ _ _) | (with_reducible refine below_snoc _ _ ?_ ?_) | (with_reducible refine below_plus ?_ ?_ _ _) | (with_reducible refine Below.setCell ?_ ?_ _) | (with_reducible refine Below.setRow ?_ ?_ _) | go_size))))).mono ?_; clear HP0; rintro e w1 ⟨rfl, J40, d40, rfl⟩)
    | (go_at_call 15; refine (HN1.out _ _ _ (HK.out.below (by ((try simp only [← Array.append_assoc]); repeat' (first | (with_reducible exact Below.refl _ _) | (with_reducible assumption) | (with_reducible refine Below.alloc ?_ ?_ _) | (with_reducible refine Below.drew ?_) | (with_reducible refine below_drewN ?_ _) | (with_reducible exact below_d _ _ _ _ _) | (with_reducible refine below_snoc _ _ ?_ ?_) | (with_reducible refine below_plus ?_ ?_ _ _) | (with_reducible refine Below.setCell ?_ ?_ _) | (with_reducible refine Below.setRow ?_ ?_ _) | go_size))))).mono ?_; clear HN1; rintro e w1 ⟨⟨a10, c10, rfl, hr⟩, J210, d210, rfl⟩; (try simp only [plus_plus, Array.append_assoc] at hr); have HR10 := Lib.hid hr; clear hr)
    | (go_at_call 15; refine (HN2.out _ _ _ (HR7.out.below (by ((try simp only [← Array.append_assoc]); repeat' (first | (with_reducible exact Below.refl _ _) | (with_reducible assumption) | (with_reducible refine Below.alloc ?_ ?_ _) | (with_reducible refine Below.drew ?_) | (with_reducible refine below_drewN ?_ _) | (with_reducible exact below_d _ _ _ _ _) | (with_reducible refine below_snoc _ _ ?_ ?_) | (with_reducible refine below_plus ?_ ?_ _ _) | (with_reducible refine Below.setCell ?_ ?_ _) | (with_reducible refine Below.setRow ?_ ?_ _) | go_size))))).mono ?_; clear HN2; rintro e w1 ⟨⟨a11, c11, rfl, hr⟩, J211, d211, rfl⟩; (try simp only [plus_plus, Array.append_assoc] at hr); have HR11 := Lib.hid hr; clear hr)
    | (go_at_call 15; refine (HN3.out _ _ _ (HR8.out.below (by ((try simp only [← Array.append_assoc]); repeat' (first | (with_reducible exact Below.refl _ _) | (with_reducible assumption) | (with_reducible refine Below.alloc ?_ ?_ _) | (with_reducible refine Below.drew ?_) | (with_reducible refine below_drewN ?_ _) | (with_reducible exact below_d _ _ _ _ _) | (with_reducible refine below_snoc _ _ ?_ ?_) | (with_reducible refine below_plus ?_ ?_ _ _) | (with_reducible refine Below.setCell ?_ ?_ _) | (with_reducible refine Below.setRow ?_ ?_ _) | go_size))))).mono ?_; clear HN3; rintro e w1 ⟨⟨a12, c12, rfl, hr⟩, J212, d212, rfl⟩; (try simp only [plus_plus, Array.append_assoc] at hr); have HR12 := Lib.hid hr; clear hr)
    | (go_at_call 15; refine (HN4.out _ _ _ (HR10.out.below (by ((try simp only [← Array.append_assoc]); repeat' (first | (with_reducible exact Below.refl _ _) | (with_reducible assumption) | (with_reducible refine Below.alloc ?_ ?_ _) | (with_reducible refine Below.drew ?_) | (with_reducible refine below_drewN ?_ _) | (with_reducible exact below_d _ _ _ _ _) | (with_reducible refine below_snoc _ _ ?_ ?_) | (with_reducible refine below_plus ?_ ?_ _ _) | (with_reducible refine Below.setCell ?_ ?_ _) | (with_reducible refine Below.setRow ?_ ?_ _) | go_size))))).mono ?_; clear HN4; rintro e w1 ⟨⟨a13, c13, rfl, hr⟩, J213, d213, rfl⟩; (try simp only [plus_plus, Array.append_assoc] at hr); have HR13 := Lib.hid hr; clear hr)
    | (go_at_call 20; refine (HP1.out _ _ _ _ _ (HR11.out.below (by ((try simp only [← Array.append_assoc]); repeat' (first | (with_reducible exact Below.refl _ _) | (with_reducible assumption) | (with_reducible refine Below.alloc ?_ ?_ _) | (with_reducible refine Below.drew ?_) | (with_reducible refine below_drewN ?_ _) | (with_reducible exact below_d _ _ _ _ _) | (with_reducible refine below_snoc _ _ ?_ ?_) | (with_reducible refine below_plus ?_ ?_ _ _) | (with_reducible refine Below.setCell ?_ ?_ _) | (with_reducible refine Below.setRow ?_ ?_ _) | go_size)))) (HR10.out.below (by ((try simp only [← Array.append_assoc]); repeat' (first | (with_reducible exact Below.refl _ _) | (with_reducible assumption) | (with_reducible refine Below.alloc ?_ ?_ _) | (with_reducible refine Below.drew ?_) | (with_reducible refine below_drewN ?_ _) | (with_reducible exact below_d _ _ _ _ _) | (with_reducible refine below_snoc _ _ ?_ ?_) | (with_reducible refine below_plus ?_ ?_ _ _) | (with_reducible refine Below.setCell ?_ ?_ _) | (with_reducible refine Below.setRow ?_ ?_ _) | go_size))))).mono ?_; clear HP1; rintro e w1 ⟨rfl, J41, d41, rfl⟩)
    | (go_at_call 20; refine (HP2.out _ _ _ _ _ (HR12.out.below (by ((try simp only [← Array.append_assoc]); repeat' (first | (with_reducible exact Below.refl _ _) | (with_reducible assumption) | (with_reducible refine Below.alloc ?_ ?_ _) | (with_reducible refine Below.drew ?_) | (with_reducible refine below_drewN ?_ _) | (with_reducible exact below_d _ _ _ _ _) | (with_reducible refine below_snoc _ _ ?_ ?_) | (with_reducible refine below_plus ?_ ?_ _ _) | (with_reducible refine Below.setCell ?_ ?_ _) | (with_reducible refine Below.setRow ?_ ?_ _) | go_size)))) (HR10.out.below (by ((try simp only [← Array.append_assoc]); repeat' (first | (with_reducible exact Below.refl _ _) | (with_reducible assumption) | (with_reducible refine Below.alloc ?_ ?_ _) | (with_reducible refine Below.drew ?_) | (with_reducible refine below_drewN ?_ _) | (with_reducible exact below_d _ _ _ _ _) | (with_reducible refine below_snoc _ _ ?_ ?_) | (with_reducible refine below_plus ?_ ?_ _ _) | (with_reducible refine Below.setCell ?_ ?_ _) | (with_reducible refine Below.setRow ?_ ?_ _) | go_size))))).mono ?_; clear HP2; rintro e w1 ⟨rfl, J42, d42, rfl⟩)
    | (go_at_call 20; refine (HP3.out _ _ _ _ _ (HR13.out.below (by ((try simp only [← Array.append_assoc]); repeat' (first | (with_reducible exact Below.refl _ _) | (with_reducible assumption) | (with_reducible refine Below.alloc ?_ ?_ _) | (with_reducible refine Below.drew ?_) | (with_reducible refine below_drewN ?_ _) | (with_reducible exact below_d _ _ _ _ _) | (with_reducible refine below_snoc _ _ ?_ ?_) | (with_reducible refine below_plus ?_ ?_ _ _) | (with_reducible refine Below.setCell ?_ ?_ _) | (with_reducible refine Below.setRow ?_ ?_ _) | go_size)))) (HR10.out.below (by ((try simp only [← Array.append_assoc]); repeat' (first | (with_reducible exact Below.refl _ _) | (with_reducible assumption) | (with_reducible refine Below.alloc ?_ ?_ _) | (with_reducible refine Below.drew ?_) | (with_reducible refine below_drewN ?_ _) | (with_reducible exact below_d _ _ _ _ _) | (with_reducible refine below_snoc _ _ ?_ ?_) | (with_reducible refine below_plus ?_ ?_ _ _) | (with_reducible refine Below.setCell ?_ ?_ _) | (with_reducible refine Below.setRow ?_ ?_ _) | go_size))))).mono ?_; clear HP3; rintro e w1 ⟨rfl, J43, d43, rfl⟩)
    | (go_at_call 18; refine (HS1.out _ _ _ (HR10.out.below (by ((try simp only [← Array.append_assoc]); repeat' (first | (with_reducible exact Below.refl _ _) | (with_reducible assumption) | (with_reducible refine Below.alloc ?_ ?_ _) | (with_reducible refine Below.drew ?_) | (with_reducible refine below_drewN ?_ _) | (with_reducible exact below_d _ _ _ _ _) | (with_reducible refine below_snoc _ _ ?_ ?_) | (with_reducible refine below_plus ?_ ?_ _ _) | (with_reducible refine Below.setCell ?_ ?_ _) | (with_reducible refine Below.setRow ?_ ?_ _) | go_size))))).mono ?_; clear HS1; rintro e w1 ⟨rfl, J31, d31, rfl⟩))
  generalize hW1 : World.plus w _ _ = W1
  have R10 := HR10.out.below (show Below _ _ W1 by rw [← hW1]; ((try simp only [← Array.append_assoc]); repeat' (first | (with_reducible exact Below.refl _ _) | (with_reducible assumption) | (with_reducible refine Below.alloc ?_ ?_ _) | (with_reducible refine Below.drew ?_) | (with_reducible refine below_drewN ?_ _) | (with_reducible exact below_d _ _ _ _ _) | (with_reducible refine below_snoc _ _ ?_ ?_) | (with_reducible refine below_plus ?_ ?_ _ _) | (with_reducible refine Below.setCell ?_ ?_ _) | (with_reducible refine Below.setRow ?_ ?_ _) | go_size)))
  have R7 := Lib.hid (HR7.out.below (show Below _ _ W1 by rw [← hW1]; ((try simp only [← Array.append_assoc]); repeat' (first | (with_reducible exact Below.refl _ _) | (with_reducible assumption) | (with_reducible refine Below.alloc ?_ ?_ _) | (with_reducible refine Below.drew ?_) | (with_reducible refine below_drewN ?_ _) | (with_reducible exact below_d _ _ _ _ _) | (with_reducible refine below_snoc _ _ ?_ ?_) | (with_reducible refine below_plus ?_ ?_ _ _) | (with_reducible refine Below.setCell ?_ ?_ _) | (with_reducible refine Below.setRow ?_ ?_ _) | go_size))))
  have R8 := Lib.hid (HR8.out.below (show Below _ _ W1 by rw [← hW1]; ((try simp only [← Array.append_assoc]); repeat' (first | (with_reducible exact Below.refl _ _) | (with_reducible assumption) | (with_reducible refine Below.alloc ?_ ?_ _) | (with_reducible refine Below.drew ?_) | (with_reducible refine below_drewN ?_ _) | (with_reducible exact below_d _ _ _ _ _) | (with_reducible refine below_snoc _ _ ?_ ?_) | (with_reducible refine below_plus ?_ ?_ _ _) | (with_reducible refine Below.setCell ?_ ?_ _) | (with_reducible refine Below.setRow ?_ ?_ _) | go_size))))
  have RK := Lib.hid (HK.out.below (show Below _ _ W1 by rw [← hW1]; ((try simp only [← Array.append_assoc]); repeat' (first | (with_reducible exact Below.refl _ _) | (with_reducible assumption) | (with_reducible refine Below.alloc ?_ ?_ _) | (with_reducible refine Below.drew ?_) | (with_reducible refine below_drewN ?_ _) | (with_reducible exact below_d _ _ _ _ _) | (with_reducible refine below_snoc _ _ ?_ ?_) | (with_reducible refine below_plus ?_ ?_ _ _) | (with_reducible refine Below.setCell ?_ ?_ _) | (with_reducible refine Below.setRow ?_ ?_ _) | go_size))))
  have HJ := Lib.hid (show Below w.heap.size w W1 by rw [← hW1]; ((try simp only [← Array.append_assoc]); repeat' (first | (with_reducible exact Below.refl _ _) | (with_reducible assumption) | (with_reducible refine Below.alloc ?_ ?_ _) | (with_reducible refine Below.drew ?_) | (with_reducible refine below_drewN ?_ _) | (with_reducible exact below_d _ _ _ _ _) | (with_reducible refine below_snoc _ _ ?_ ?_) | (with_reducible refine below_plus ?_ ?_ _ _) | (with_reducible refine Below.setCell ?_ ?_ _) | (with_reducible refine Below.setRow ?_ ?_ _) | go_size)))
  have R10H := Lib.hid R10
  clear hW1 HR7 HR8 HR9 HR10 HR11 HR12 HR13 HK
  rcases R10.rd.2 with h | ⟨b, o, hab, hc⟩
  · omega
  have HAB := Lib.hid hab
  subst hab
  have HC := Lib.hid hc
  obtain ⟨p1, p2⟩ := hc 0 (by omega)
  obtain ⟨⟨x, y⟩, hx⟩ : ∃ q, M.getD 0 (0, 0) = q := ⟨_, rfl⟩
  rw [hx] at p1 p2
  simp only [Nat.zero_mul, Nat.add_zero] at p1 p2
  have HX := Lib.hid hx
  have hb : b < W1.heap.size := World.block_lt_of_cell? _ _ p1
  have i0 : (0 : Int) < (n : Int) := by omega
  have i00 : 0 < n := by omega
  clear R10 hc hx
  go_wp2_with fail
  go_loopw [17] (fun x wr => TuAt W1 n x wr) (fun x _ => n - (intOf x).toNat)
  case atStart => exact ⟨1, rfl, by decide, by omega, #[], _, (plus_nil _).symm⟩
  case round =>
    obtain ⟨k, rfl, k0, k1, J, d, rfl⟩ := hrel
    by_cases hlt : k < n
    · have i1 : (k : Int) < (n : Int) := by omega
      obtain ⟨q1, q2⟩ := HC.out k hlt
      have hle := HLs.out k k0 hlt
      obtain ⟨⟨u, v⟩, hy⟩ : ∃ q, M.getD k (0, 0) = q := ⟨_, rfl⟩
      rw [HX.out, hy] at hle
      rw [hy] at q1 q2
      simp only at q1 q2
      have HCM := Lib.hid (fun w' => n_ptCompare x y u v w')
      rw [show cmpF x y u v = -1 from hle] at HCM
      unfold pt at HCM
      clear hle hy
      go_upto_region 19 with fail
      refine region_quiet_all (C := Cls W1) (by kernel_rfl) (by kernel_rfl) ⟨_, _, rfl⟩ ?_
      repeat (first | (refine qw_skip (by rfl) ?_; simp only [Act.put, List.setIfInBounds_toArray, List.set_cons_succ, List.set_cons_zero]) | (refine qw_want (by rfl) (fun K hK => ?_); go_simp; first | (refine hK _ ?_; clear hK K) | (apply Exists.intro; refine ⟨?_, hK _ ?_⟩; (rintro w3_ ⟨J3_, d3_, rfl⟩; first | (with_reducible exact rfl) | (go_simp; with_reducible exact rfl) | (go_simp; (first | (with_reducible refine (HCM.out _).mono ?_)); rintro e_ w_ ⟨rfl, J4_, d4_, rfl⟩; exact ⟨rfl, J3_ ++ J4_, d4_, by simp only [plus_plus, Array.append_assoc]⟩)); clear hK K)))
      refine qw_nil ?_
      rintro w3 ⟨J3, d3, rfl⟩
      go_wp2_with fail
      go_roundw
      case rel => exact ⟨k + 1, by go_num, by omega, by omega, _, _, rfl⟩
      case measure => simp [intOf]; omega
    · obtain rfl : n = k := by omega
      have i1 : ¬ (n : Int) < (n : Int) := by omega
      rcases HSg.out with rfl | rfl
      all_goals
        try simp only [Int.neg_neg] at HS4
        go_wp2_with (first
          | (go_at_call 18; refine (HS2.out _ _ _ (RK.out.below (by (repeat' (first | (with_reducible exact Below.refl _ _) | (with_reducible assumption) | (with_reducible refine Below.alloc ?_ ?_ _) | (with_reducible refine Below.drew ?_) | (with_reducible refine below_drewN ?_ _) | (with_reducible refine below_plus ?_ ?_ _ _) | (with_reducible refine Below.setCell ?_ ?_ _) | (with_reducible refine Below.setRow ?_ ?_ _) | go_size))))).mono ?_; clear HS2; rintro e w1 ⟨rfl, J32, d32, rfl⟩)
          | (go_at_call 18; refine (HS3.out _ _ _ (R7.out.below (by (repeat' (first | (with_reducible exact Below.refl _ _) | (with_reducible assumption) | (with_reducible refine Below.alloc ?_ ?_ _) | (with_reducible refine Below.drew ?_) | (with_reducible refine below_drewN ?_ _) | (with_reducible refine below_plus ?_ ?_ _ _) | (with_reducible refine Below.setCell ?_ ?_ _) | (with_reducible refine Below.setRow ?_ ?_ _) | go_size))))).mono ?_; clear HS3; rintro e w1 ⟨rfl, J33, d33, rfl⟩)
          | (go_at_call 18; refine (HS4.out _ _ _ (R8.out.below (by (repeat' (first | (with_reducible exact Below.refl _ _) | (with_reducible assumption) | (with_reducible refine Below.alloc ?_ ?_ _) | (with_reducible refine Below.drew ?_) | (with_reducible refine below_drewN ?_ _) | (with_reducible refine below_plus ?_ ?_ _ _) | (with_reducible refine Below.setCell ?_ ?_ _) | (with_reducible refine Below.setRow ?_ ?_ _) | go_size))))).mono ?_; clear HS4; rintro e w1 ⟨rfl, J34, d34, rfl⟩)
          | (go_at_call 25; refine (HM1.out _ _ _ _ _ (RK.out.below (by (repeat' (first | (with_reducible exact Below.refl _ _) | (with_reducible assumption) | (with_reducible refine Below.alloc ?_ ?_ _) | (with_reducible refine Below.drew ?_) | (with_reducible refine below_drewN ?_ _) | (with_reducible refine below_plus ?_ ?_ _ _) | (with_reducible refine Below.setCell ?_ ?_ _) | (with_reducible refine Below.setRow ?_ ?_ _) | go_size)))) (R7.out.below (by (repeat' (first | (with_reducible exact Below.refl _ _) | (with_reducible assumption) | (with_reducible refine Below.alloc ?_ ?_ _) | (with_reducible refine Below.drew ?_) | (with_reducible refine below_drewN ?_ _) | (with_reducible refine below_plus ?_ ?_ _ _) | (with_reducible refine Below.setCell ?_ ?_ _) | (with_reducible refine Below.setRow ?_ ?_ _) | go_size))))).mono ?_; clear HM1; rintro e w1 ⟨rfl, J51, d51, rfl⟩)
          | (go_at_call 25; refine (HM2.out _ _ _ _ _ (R7.out.below (by (repeat' (first | (with_reducible exact Below.refl _ _) | (with_reducible assumption) | (with_reducible refine Below.alloc ?_ ?_ _) | (with_reducible refine Below.drew ?_) | (with_reducible refine below_drewN ?_ _) | (with_reducible refine below_plus ?_ ?_ _ _) | (with_reducible refine Below.setCell ?_ ?_ _) | (with_reducible refine Below.setRow ?_ ?_ _) | go_size)))) (R8.out.below (by (repeat' (first | (with_reducible exact Below.refl _ _) | (with_reducible assumption) | (with_reducible refine Below.alloc ?_ ?_ _) | (with_reducible refine Below.drew ?_) | (with_reducible refine below_drewN ?_ _) | (with_reducible refine below_plus ?_ ?_ _ _) | (with_reducible refine Below.setCell ?_ ?_ _) | (with_reducible refine Below.setRow ?_ ?_ _) | go_size))))).mono ?_; clear HM2; rintro e w1 ⟨rfl, J52, d52, rfl⟩)
          | (go_at_call 25; refine (HM3.out _ _ _ _ _ (R10H.out.below (by (repeat' (first | (with_reducible exact Below.refl _ _) | (with_reducible assumption) | (with_reducible refine Below.alloc ?_ ?_ _) | (with_reducible refine Below.drew ?_) | (with_reducible refine below_drewN ?_ _) | (with_reducible refine below_plus ?_ ?_ _ _) | (with_reducible refine Below.setCell ?_ ?_ _) | (with_reducible refine Below.setRow ?_ ?_ _) | go_size)))) (RK.out.below (by (repeat' (first | (with_reducible exact Below.refl _ _) | (with_reducible assumption) | (with_reducible refine Below.alloc ?_ ?_ _) | (with_reducible refine Below.drew ?_) | (with_reducible refine below_drewN ?_ _) | (with_reducible refine below_plus ?_ ?_ _ _) | (with_reducible refine Below.setCell ?_ ?_ _) | (with_reducible refine Below.setRow ?_ ?_ _) | go_size))))).mono ?_; clear HM3; rintro e w1 ⟨rfl, J53, d53, rfl⟩))
        go_ret
        exact ⟨rfl, junk_of_below (HJ.out.trans (by have := HJ.out.size; (repeat' (first | (with_reducible exact Below.refl _ _) | (with_reducible assumption) | (with_reducible refine Below.alloc ?_ ?_ _) | (with_reducible refine Below.drew ?_) | (with_reducible refine below_drewN ?_ _) | (with_reducible refine below_plus ?_ ?_ _ _) | (with_reducible refine Below.setCell ?_ ?_ _) | (with_reducible refine Below.setRow ?_ ?_ _) | go_size))))⟩
theorem l_ringTurns (w : World) (a : Option Addr) (n ca : Nat) (K : List Pt) (hK : PRC w a n ca K) (_ : n ≤ 9223372036854775807) (_ : a = none → n = 0 ∧ ca = 0) (s : Int) (_ : -9223372036854775808 ≤ s ∧ s ≤ 9223372036854775807) :
    Calls Try.prog 6 #[.slice a n ca, .int .i64 s] w fun e w' => e = .returned (.bool true) ∧ Junk w w' := by
  by_cases h1 : 210 < n
  · exact turns_big w a n ca s h1
  · by_cases hf : fineQ K
    · exact turns_in w a n ca K s hK h1 hf
    · exact turns_not w a n ca K s hK h1 hf
end Go.Proofs.Ytmofejcafbjlnaa

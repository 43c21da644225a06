/- The law RingKnown: the walk. -/
import Derived.Test.YtmofejcafbjlnaaRgLaw
namespace Go.Proofs.Ytmofejcafbjlnaa
set_option linter.unusedVariables false
set_option linter.unusedSimpArgs false
open Go.RowKit

theorem below_d (B : Nat) (w : World) (J : Array Obj) (d d' : Nat) : Below B (w.plus J d) (w.plus J d') := ⟨rfl, rfl, rfl, Nat.le_refl _, fun _ _ => rfl⟩
theorem below_snoc {B : Nat} {W w : World} {J : Array Obj} (J' : Array Obj) (d' : Nat) (h : Below B W (w.plus J 0)) (hB : B ≤ (w.plus J 0).heap.size) : Below B W (w.plus (J ++ J') d') := by
  rw [← plus_plus w J 0 J' d']
  exact h.trans ((Junk.below ⟨_, _, rfl⟩ : Below (w.plus J 0).heap.size (w.plus J 0) _).mono hB)
theorem own_readc {W w' : World} {v : Value} {L : List Pt} {n : Nat} (hn : L.length = n) (h : POwn W w' v L) : ∃ a cap, v = .slice a n cap ∧ PRC w' a n cap L ∧ n ≤ cap ∧ cap ≤ maxLen := by
  obtain ⟨a, cap, e, hr⟩ := own_prc (w' := w') hn h
  refine ⟨a, cap, e, hr, hr.ok.le, ?_⟩
  obtain ⟨_, ⟨h1, h2⟩ | ⟨g, cap', cur, h1, _, _, h4, h5, _⟩⟩ := h
  · rw [e] at h1
    injection h1 with e1 e2 e3
    rw [e3]; exact Nat.zero_le _
  · rw [e] at h1
    injection h1 with e1 e2 e3
    omega
theorem sq_cap (w : World) : Calls Try.prog 32 #[] w fun e w' => (∃ a' c', e = .returned (.slice a' 4 c') ∧ PRC w' a' 4 c' sqL ∧ 4 ≤ c' ∧ c' ≤ 9223372036854775807) ∧ Junk w w' := by
  refine (l_rgSquare w).mono ?_
  rintro e w' ⟨⟨v, rfl, hv⟩, hj⟩
  obtain ⟨a', c', rfl, h1, h2, h3⟩ := own_readc (n := 4) rfl hv
  exact ⟨⟨a', c', rfl, h1, h2, by unfold maxLen at h3; omega⟩, hj⟩
theorem fr_is (L M : List Pt) (s : Int) (hr : rotF L s = M) (n : Nat) (hm : M.length = n) (hn : n ≤ 400) (w : World) (a : Option Addr) (ca : Nat) (h : PRC w a n ca L) : Calls Try.prog 13 #[.slice a n ca, .int .i64 s] w fun e w' => (∃ a' c', e = .returned (.slice a' n c') ∧ PRC w' a' n c' M) ∧ Junk w w' := by
  refine (c_rgFrom w a n ca L h hn s).mono ?_
  rintro e w' ⟨⟨v, rfl, hv⟩, hj⟩
  rw [hr] at hv
  obtain ⟨a', c', rfl, h'⟩ := own_prc hm hv
  exact ⟨⟨a', c', rfl, h'⟩, hj⟩
theorem nm_is (L M : List Pt) (hf : fineQ L) (hr : normF L = M) (n : Nat) (hm : M.length = n) (hn : n ≤ 400) (w : World) (a : Option Addr) (ca : Nat) (h : PRC w a n ca L) : Calls Try.prog 15 #[.slice a n ca] w fun e w' => (∃ a' c', e = .returned (.tuple #[.slice a' n c', .bool true]) ∧ PRC w' a' n c' M) ∧ Junk w w' := by
  refine (c_rgNormal w a n ca L h hn).mono ?_
  rintro e w' ⟨⟨v, b, rfl, hv, hb⟩, hj⟩
  rw [hr] at hv
  obtain ⟨a', c', rfl, h'⟩ := own_prc hm hv
  rw [hb.2 hf]
  exact ⟨⟨a', c', rfl, h'⟩, hj⟩
theorem sm_is (L M : List Pt) (r : Bool) (hr : sameB L M = r) (n m : Nat) (hn : n ≤ 400) (hm : m ≤ 400) (w : World) (a b : Option Addr) (ca cb : Nat) (h1 : PRC w a n ca L) (h2 : PRC w b m cb M) : Calls Try.prog 25 #[.slice a n ca, .slice b m cb] w fun e w' => e = .returned (.bool r) ∧ Junk w w' := by
  rw [← hr]; exact c_rgSame w a b n m ca cb L M h1 h2 hn hm
theorem sp_pt (L : List Pt) (n : Nat) (hn : n ≤ 400) (w : World) (a b : Option Addr) (ca cb : Nat) (h1 : PRC w a n ca L) (h2 : PRC w b n cb L) : Calls Try.prog 20 #[.slice a n ca, .slice b n cb] w fun e w' => e = .returned (.bool true) ∧ Junk w w' := by
  have h := s_SamePoints w a b n n ca cb _ _ h1 h2 (by omega)
  rw [decide_eq_true rfl] at h
  exact h
theorem sq_norm : normF sqL.reverse = sqL := by
  rw [norm_rev]
  refine norm_eq sq_fine ⟨⟨0, .inl (rot_zero _).symm⟩, sq_sign, ?_⟩
  have := least_c (K := sqL) (by decide)
  rwa [show leastF sqL = 0 by decide +kernel] at this
theorem sq_same : sameB sqL (rotF sqL.reverse 2) = true := by
  rw [same_true, same_norm]
  exact ⟨sq_fine, (fine_rot _ _).2 ((fine_rev _).2 sq_fine), by rw [norm_rot, norm_rev]⟩
theorem sq_three : sameB sqL (sqL.take 3) = false := same_false.2 fun h => absurd (same_len h) (by decide)
set_option maxRecDepth 100000 in
set_option maxHeartbeats 8000000 in
theorem l_ringKnown (w : World) : Calls Try.prog 10 #[] w fun e w' => e = .returned (.bool true) ∧ Junk w w' := by
  have HAt := Lib.hid l_rgAt
  have HAw := Lib.hid l_rgAwake
  have HQ1 := Lib.hid sq_is
  have HQ2 := Lib.hid sq_cap
  have HQ3 := Lib.hid sq_is
  have HQ4 := Lib.hid sq_is
  have HQ5 := Lib.hid sq_is
  have HQ6 := Lib.hid sq_is
  have HQ7 := Lib.hid sq_is
  have HQ8 := Lib.hid sq_cap
  have HF1 := Lib.hid (fr_is sqL [(0, 4), (0, 0), (4, 0), (4, 4)] (-1) (by decide +kernel) 4 rfl (by decide))
  have HP1 := Lib.hid (sp_pt [(0, 4), (0, 0), (4, 0), (4, 4)] 4 (by decide))
  have HC1 := Lib.hid (ck_is [(0, 0), (4, 0), (2, 0), (0, 4)] (192, 1) (by decide +kernel) 4 (by decide))
  have HC2 := Lib.hid (ck_is [(0, 0), (4, 0), (0, 0), (0, 4)] (191, 2) (by decide +kernel) 4 (by decide))
  have HC3 := Lib.hid (ck_is (sqL.take 2) (190, 0) (by decide +kernel) 2 (by decide))
  have HC4 := Lib.hid (ck_is [(0, 0), (2, 0), (4, 0), (4, 4)] (0, 0) (by decide +kernel) 4 (by decide))
  have HC5 := Lib.hid (ck_is [(0, 0), (4, 0), (9, 0)] (192, 0) (by decide +kernel) 3 (by decide))
  have HT1 := Lib.hid (tn_is sqL sqL.reverse rfl 4 rfl (by decide))
  have HT2 := Lib.hid (tn_is sqL sqL.reverse rfl 4 rfl (by decide))
  have HN1 := Lib.hid (nm_is sqL.reverse sqL ((fine_rev _).2 sq_fine) sq_norm 4 rfl (by decide))
  have HP2 := Lib.hid (sp_pt sqL 4 (by decide))
  have HF2 := Lib.hid (fr_is sqL.reverse (rotF sqL.reverse 2) 2 rfl 4 (by rw [rot_len]; rfl) (by decide))
  have HS1 := Lib.hid (sm_is sqL (rotF sqL.reverse 2) true sq_same 4 4 (by decide) (by decide))
  have HS2 := Lib.hid (sm_is sqL (sqL.take 3) false sq_three 4 3 (by decide) (by decide))
  simp only at HC1 HC2 HC3 HC4 HC5
  have HK2 := Lib.hid (fun (w : World) (a : Option Addr) (ca : Nat) (h : PRC w a 4 ca sqL) => prc_take h (m := 2) (by decide))
  have HK3 := Lib.hid (fun (w : World) (a : Option Addr) (ca : Nat) (h : PRC w a 4 ca sqL) => prc_take h (m := 3) (by decide))
  generalize rotF sqL.reverse 2 = M2 at *
  generalize sqL.reverse = M at *
  generalize sqL.take 2 = L2 at *
  generalize sqL.take 3 = L3 at *
  generalize sqL = L at *
  have hfl := fld_err
  unfold pt at HAt
  go_enter Try.func10, Try.ntmps10
  go_upto_region 1 with fail
  go_cut [1] from 1 to 13 (fun x wx => x = .bool true ∧ Cls w wx)
  case first =>
    go_wp2_with (first
      | (go_at_call 31; (with_reducible refine (HAt.out _ _ _).mono ?_); rintro e w1 ⟨rfl, J6, d6, rfl⟩)
      | (go_at_call 32; (with_reducible refine (HQ1.out _).mono ?_); clear HQ1; rintro e w1 ⟨⟨a1, c1, rfl, hr⟩, J1, d1, rfl⟩; (try simp only [plus_plus, Array.append_assoc] at hr); have HR1 := Lib.hid hr; clear hr)
      | (go_at_call 13; refine (HF1.out _ _ _ (prc_eqh HR1.out (by simp only [plus_plus, Array.append_assoc]))).mono ?_; clear HF1; rintro e w1 ⟨⟨a21, c21, rfl, hr⟩, J1, d1, rfl⟩; (try simp only [plus_plus, Array.append_assoc] at hr); have HR21 := Lib.hid hr; clear hr)
      | (go_at_call 20; refine (HP1.out _ _ _ _ _ (HR21.out.below (by ((try simp only [← Array.append_assoc]); repeat' (first | (with_reducible exact Below.refl _ _) | (with_reducible assumption) | (with_reducible refine Below.alloc ?_ ?_ _) | (with_reducible refine Below.drew ?_) | (with_reducible refine below_drewN ?_ _) | (with_reducible exact below_d _ _ _ _ _) | (with_reducible refine below_snoc _ _ ?_ ?_) | (with_reducible refine below_plus ?_ ?_ _ _) | (with_reducible refine Below.setCell ?_ ?_ _) | (with_reducible refine Below.setRow ?_ ?_ _) | go_size)))) (prc_blt rfl (by simp [pcells]) (by decide) (by simp [Nat.add_assoc]))).mono ?_; clear HP1; rintro e w1 ⟨rfl, J2, d2, rfl⟩))
    go_meet
    case rel => exact ⟨rfl, cls_of (junk_of_below (by (repeat' (first | (with_reducible exact Below.refl _ _) | (with_reducible assumption) | (with_reducible refine Below.alloc ?_ ?_ _) | (with_reducible refine Below.drew ?_) | (with_reducible refine below_drewN ?_ _) | (with_reducible refine below_plus ?_ ?_ _ _) | (with_reducible refine Below.setCell ?_ ?_ _) | (with_reducible refine Below.setRow ?_ ?_ _) | go_size))))⟩
  case rest =>
  obtain ⟨rfl, J1, d1, rfl⟩ := hcut
  go_upto_region 2 with fail
  go_cut [2] from 2 to 38 (fun x wx => x = .bool true ∧ Cls w wx)
  case first =>
    go_wp2_with (first
      | (go_at_call 31; (with_reducible refine (HAt.out _ _ _).mono ?_); rintro e w1 ⟨rfl, J6, d6, rfl⟩)
      | (go_at_call 14; refine (HC1.out _ _ _ (prc_blt rfl (by simp [pcells]) (by decide) (by simp [Nat.add_assoc]))).mono ?_; clear HC1; rintro e w1 ⟨rfl, J2, d2, rfl⟩)
      | (go_at_call 14; refine (HC2.out _ _ _ (prc_blt rfl (by simp [pcells]) (by decide) (by simp [Nat.add_assoc]))).mono ?_; clear HC2; rintro e w1 ⟨rfl, J2, d2, rfl⟩)
      | (go_at_call 32; (with_reducible refine (HQ2.out _).mono ?_); clear HQ2; rintro e w1 ⟨⟨a2, c2, rfl, hr, k1, k2⟩, J1, d1, rfl⟩; (try simp only [plus_plus, Array.append_assoc] at hr); have HR2 := Lib.hid hr; clear hr)
      | (go_at_call 14; refine (HC3.out _ _ _ (HK2.out _ _ _ (prc_eqh HR2.out (by simp only [plus_plus, Array.append_assoc])))).mono ?_; clear HC3; rintro e w1 ⟨rfl, J2, d2, rfl⟩))
    go_meet
    case rel => exact ⟨rfl, cls_of (junk_of_below (by (repeat' (first | (with_reducible exact Below.refl _ _) | (with_reducible assumption) | (with_reducible refine Below.alloc ?_ ?_ _) | (with_reducible refine Below.drew ?_) | (with_reducible refine below_drewN ?_ _) | (with_reducible refine below_plus ?_ ?_ _ _) | (with_reducible refine Below.setCell ?_ ?_ _) | (with_reducible refine Below.setRow ?_ ?_ _) | go_size))))⟩
  case rest =>
  obtain ⟨rfl, J2, d2, rfl⟩ := hcut
  go_upto_region 3 with fail
  go_cut [3] from 3 to 55 (fun x wx => x = .bool true ∧ Cls w wx)
  case first =>
    go_wp2_with (first
      | (go_at_call 31; (with_reducible refine (HAt.out _ _ _).mono ?_); rintro e w1 ⟨rfl, J6, d6, rfl⟩)
      | (go_at_call 14; refine (HC4.out _ _ _ (prc_blt rfl (by simp [pcells]) (by decide) (by simp [Nat.add_assoc]))).mono ?_; clear HC4; rintro e w1 ⟨rfl, J2, d2, rfl⟩)
      | (go_at_call 14; refine (HC5.out _ _ _ (prc_blt rfl (by simp [pcells]) (by decide) (by simp [Nat.add_assoc]))).mono ?_; clear HC5; rintro e w1 ⟨rfl, J2, d2, rfl⟩))
    go_meet
    case rel => exact ⟨rfl, cls_of (junk_of_below (by (repeat' (first | (with_reducible exact Below.refl _ _) | (with_reducible assumption) | (with_reducible refine Below.alloc ?_ ?_ _) | (with_reducible refine Below.drew ?_) | (with_reducible refine below_drewN ?_ _) | (with_reducible refine below_plus ?_ ?_ _ _) | (with_reducible refine Below.setCell ?_ ?_ _) | (with_reducible refine Below.setRow ?_ ?_ _) | go_size))))⟩
  case rest =>
  obtain ⟨rfl, J3, d3, rfl⟩ := hcut
  go_upto_region 4 with fail
  go_cut [4, 5] from 4 to 61 (fun x y wx => (∃ a c, x = .slice a 4 c ∧ PRC wx a 4 c L) ∧ y = .bool true ∧ Cls w wx)
  case first =>
    go_wp2_with (first
      | (go_at_call 32; (with_reducible refine (HQ3.out _).mono ?_); clear HQ3; rintro e w1 ⟨⟨a3, c3, rfl, hr⟩, J1, d1, rfl⟩; (try simp only [plus_plus, Array.append_assoc] at hr); have HR3 := Lib.hid hr; clear hr)
      | (go_at_call 12; refine (HT1.out _ _ _ (prc_eqh HR3.out (by simp only [plus_plus, Array.append_assoc]))).mono ?_; clear HT1; rintro e w1 ⟨⟨a22, c22, rfl, hr⟩, J1, d1, rfl⟩; (try simp only [plus_plus, Array.append_assoc] at hr); have HR22 := Lib.hid hr; clear hr)
      | (go_at_call 15; refine (HN1.out _ _ _ (prc_eqh HR22.out (by simp only [plus_plus, Array.append_assoc]))).mono ?_; clear HN1; rintro e w1 ⟨⟨a23, c23, rfl, hr⟩, J1, d1, rfl⟩; (try simp only [plus_plus, Array.append_assoc] at hr); have HR23 := Lib.hid hr; clear hr))
    go_meet
    case rel => exact ⟨⟨_, _, rfl, HR23.out⟩, rfl, cls_of (junk_of_below (by (repeat' (first | (with_reducible exact Below.refl _ _) | (with_reducible assumption) | (with_reducible refine Below.alloc ?_ ?_ _) | (with_reducible refine Below.drew ?_) | (with_reducible refine below_drewN ?_ _) | (with_reducible refine below_plus ?_ ?_ _ _) | (with_reducible refine Below.setCell ?_ ?_ _) | (with_reducible refine Below.setRow ?_ ?_ _) | go_size))))⟩
  case rest =>
  obtain ⟨⟨a23, c23, rfl, hr⟩, rfl, J4, d4, rfl⟩ := hcut
  have HR23 := Lib.hid hr
  clear hr
  go_wp2_with (first
      | (go_at_call 24; refine (HAw.out _).mono ?_; rintro e w1 ⟨rfl, J3, d3, rfl⟩)
      | (go_at_call 32; (with_reducible refine (HQ4.out _).mono ?_); clear HQ4; rintro e w1 ⟨⟨a4, c4, rfl, hr⟩, J1, d1, rfl⟩; (try simp only [plus_plus, Array.append_assoc] at hr); have HR4 := Lib.hid hr; clear hr)
      | (go_at_call 20; refine (HP2.out _ _ _ _ _ (HR23.out.below (by ((try simp only [← Array.append_assoc]); repeat' (first | (with_reducible exact Below.refl _ _) | (with_reducible assumption) | (with_reducible refine Below.alloc ?_ ?_ _) | (with_reducible refine Below.drew ?_) | (with_reducible refine below_drewN ?_ _) | (with_reducible exact below_d _ _ _ _ _) | (with_reducible refine below_snoc _ _ ?_ ?_) | (with_reducible refine below_plus ?_ ?_ _ _) | (with_reducible refine Below.setCell ?_ ?_ _) | (with_reducible refine Below.setRow ?_ ?_ _) | go_size)))) (prc_eqh HR4.out (by simp only [plus_plus, Array.append_assoc]))).mono ?_; clear HP2; rintro e w1 ⟨rfl, J2, d2, rfl⟩)
      | (go_at_call 32; (with_reducible refine (HQ5.out _).mono ?_); clear HQ5; rintro e w1 ⟨⟨a5, c5, rfl, hr⟩, J1, d1, rfl⟩; (try simp only [plus_plus, Array.append_assoc] at hr); have HR5 := Lib.hid hr; clear hr)
      | (go_at_call 32; (with_reducible refine (HQ6.out _).mono ?_); clear HQ6; rintro e w1 ⟨⟨a6, c6, rfl, hr⟩, J1, d1, rfl⟩; (try simp only [plus_plus, Array.append_assoc] at hr); have HR6 := Lib.hid hr; clear hr)
      | (go_at_call 12; refine (HT2.out _ _ _ (prc_eqh HR6.out (by simp only [plus_plus, Array.append_assoc]))).mono ?_; clear HT2; rintro e w1 ⟨⟨a24, c24, rfl, hr⟩, J1, d1, rfl⟩; (try simp only [plus_plus, Array.append_assoc] at hr); have HR24 := Lib.hid hr; clear hr)
      | (go_at_call 13; refine (HF2.out _ _ _ (prc_eqh HR24.out (by simp only [plus_plus, Array.append_assoc]))).mono ?_; clear HF2; rintro e w1 ⟨⟨a25, c25, rfl, hr⟩, J1, d1, rfl⟩; (try simp only [plus_plus, Array.append_assoc] at hr); have HR25 := Lib.hid hr; clear hr)
      | (go_at_call 25; refine (HS1.out _ _ _ _ _ (HR5.out.below (by ((try simp only [← Array.append_assoc]); repeat' (first | (with_reducible exact Below.refl _ _) | (with_reducible assumption) | (with_reducible refine Below.alloc ?_ ?_ _) | (with_reducible refine Below.drew ?_) | (with_reducible refine below_drewN ?_ _) | (with_reducible exact below_d _ _ _ _ _) | (with_reducible refine below_snoc _ _ ?_ ?_) | (with_reducible refine below_plus ?_ ?_ _ _) | (with_reducible refine Below.setCell ?_ ?_ _) | (with_reducible refine Below.setRow ?_ ?_ _) | go_size)))) (prc_eqh HR25.out (by simp only [plus_plus, Array.append_assoc]))).mono ?_; clear HS1; rintro e w1 ⟨rfl, J2, d2, rfl⟩)
      | (go_at_call 32; (with_reducible refine (HQ7.out _).mono ?_); clear HQ7; rintro e w1 ⟨⟨a7, c7, rfl, hr⟩, J1, d1, rfl⟩; (try simp only [plus_plus, Array.append_assoc] at hr); have HR7 := Lib.hid hr; clear hr)
      | (go_at_call 32; (with_reducible refine (HQ8.out _).mono ?_); clear HQ8; rintro e w1 ⟨⟨a8, c8, rfl, hr, k1, k2⟩, J1, d1, rfl⟩; (try simp only [plus_plus, Array.append_assoc] at hr); have HR8 := Lib.hid hr; clear hr)
      | (go_at_call 25; refine (HS2.out _ _ _ _ _ (HR7.out.below (by ((try simp only [← Array.append_assoc]); repeat' (first | (with_reducible exact Below.refl _ _) | (with_reducible assumption) | (with_reducible refine Below.alloc ?_ ?_ _) | (with_reducible refine Below.drew ?_) | (with_reducible refine below_drewN ?_ _) | (with_reducible exact below_d _ _ _ _ _) | (with_reducible refine below_snoc _ _ ?_ ?_) | (with_reducible refine below_plus ?_ ?_ _ _) | (with_reducible refine Below.setCell ?_ ?_ _) | (with_reducible refine Below.setRow ?_ ?_ _) | go_size)))) (HK3.out _ _ _ (prc_eqh HR8.out (by simp only [plus_plus, Array.append_assoc])))).mono ?_; clear HS2; rintro e w1 ⟨rfl, J2, d2, rfl⟩))
  go_ret
  exact ⟨rfl, junk_of_below (by (repeat' (first | (with_reducible exact Below.refl _ _) | (with_reducible assumption) | (with_reducible refine Below.alloc ?_ ?_ _) | (with_reducible refine Below.drew ?_) | (with_reducible refine below_drewN ?_ _) | (with_reducible refine below_plus ?_ ?_ _ _) | (with_reducible refine Below.setCell ?_ ?_ _) | (with_reducible refine Below.setRow ?_ ?_ _) | go_size)))⟩
end Go.Proofs.Ytmofejcafbjlnaa

/- The law RingNormals: the walk. -/
import Derived.Test.YtmofejcafbjlnaaRiO
namespace Go.Proofs.Ytmofejcafbjlnaa
set_option linter.unusedVariables false
set_option linter.unusedSimpArgs false
open Go.RowKit

theorem same_eq {K M : List Pt} {b1 b2 : Bool} (h1 : b1 = true ↔ fineQ K) (h2 : b2 = true ↔ fineQ M) : sameB K M = (b1 && b2 && decide (normF K = normF M)) := by
  rw [Bool.eq_iff_iff, same_true, same_norm, Bool.and_eq_true, Bool.and_eq_true, h1, h2, decide_eq_true_eq]
  constructor
  · rintro ⟨a, b, c⟩; exact ⟨⟨a, b⟩, c⟩
  · rintro ⟨⟨a, b⟩, c⟩; exact ⟨a, b, c⟩
theorem sameB_comm (K M : List Pt) : sameB K M = sameB M K := by rw [Bool.eq_iff_iff, same_true, same_true, same_comm]
theorem sp_dec (K M : List Pt) (n m : Nat) (hn : n ≤ 400) (w : World) (a b : Option Addr) (ca cb : Nat) (h1 : PRC w a n ca K) (h2 : PRC w b m cb M) : Calls Try.prog 20 #[.slice a n ca, .slice b m cb] w fun e w' => e = .returned (.bool (decide (K = M))) ∧ Junk w w' :=
  s_SamePoints w a b n m ca cb _ _ h1 h2 (by omega)
/-- Normal, its list to be read. -/
theorem nm_any (K : List Pt) (n : Nat) (hn : n ≤ 400) (w : World) (a : Option Addr) (ca : Nat) (h : PRC w a n ca K) : Calls Try.prog 15 #[.slice a n ca] w fun e w' => (∃ a' m c' b, e = .returned (.tuple #[.slice a' m c', .bool b]) ∧ PRC w' a' m c' (normF K) ∧ m ≤ 400 ∧ (b = true ↔ fineQ K)) ∧ Junk w w' := by
  refine (c_rgNormal w a n ca K h hn).mono ?_
  rintro e w' ⟨⟨v, b, rfl, hv, hb⟩, hj⟩
  obtain ⟨a', c', rfl, h'⟩ := own_prcs hv
  refine ⟨⟨a', _, c', b, rfl, h', ?_, hb⟩, hj⟩
  by_cases hf : fineQ K
  · rw [norm_len (norm_is hf)]; have := hf.long; omega
  · rw [norm_not hf]; exact Nat.zero_le _
set_option maxRecDepth 100000 in
set_option maxHeartbeats 4000000 in
theorem normals_big (w : World) (a b : Option Addr) (n m ca cb : Nat) (h : 210 < n ∨ 210 < m) :
    Calls Try.prog 8 #[.slice a n ca, .slice b m cb] w fun e w' => e = .returned (.bool true) ∧ Junk w w' := by
  have HAw := Lib.hid l_rgAwake
  have HB1 := Lib.hid (fun w' => l_rgBig a n ca w')
  have HB2 := Lib.hid (fun w' => l_rgBig b m cb w')
  rcases (show 210 < n ∨ (¬ 210 < n ∧ 210 < m) by omega) with h1 | ⟨h1, h2⟩
  · rw [decide_eq_true h1] at HB1
    clear h h1
    go_enter Try.func8, Try.ntmps8
    go_wp2_with (first | (go_at_call 24; refine (HAw.out _).mono ?_; rintro e w1 ⟨rfl, J3, d3, rfl⟩) | (go_at_call 11; (first | (with_reducible refine (HB1.out _).mono ?_) | (with_reducible refine (HB2.out _).mono ?_)); rintro e w1 ⟨rfl, rfl⟩))
    go_ret
    exact ⟨rfl, junk_of_below (by (repeat' (first | (with_reducible exact Below.refl _ _) | (with_reducible assumption) | (with_reducible refine Below.alloc ?_ ?_ _) | (with_reducible refine Below.drew ?_) | (with_reducible refine below_drewN ?_ _) | (with_reducible refine below_plus ?_ ?_ _ _) | (with_reducible refine Below.setCell ?_ ?_ _) | (with_reducible refine Below.setRow ?_ ?_ _) | go_size)))⟩
  · rw [decide_eq_false h1] at HB1
    rw [decide_eq_true h2] at HB2
    clear h h1 h2
    go_enter Try.func8, Try.ntmps8
    go_wp2_with (first | (go_at_call 24; refine (HAw.out _).mono ?_; rintro e w1 ⟨rfl, J3, d3, rfl⟩) | (go_at_call 11; (first | (with_reducible refine (HB1.out _).mono ?_; clear HB1) | (with_reducible refine (HB2.out _).mono ?_)); rintro e w1 ⟨rfl, rfl⟩))
    go_ret
    exact ⟨rfl, junk_of_below (by (repeat' (first | (with_reducible exact Below.refl _ _) | (with_reducible assumption) | (with_reducible refine Below.alloc ?_ ?_ _) | (with_reducible refine Below.drew ?_) | (with_reducible refine below_drewN ?_ _) | (with_reducible refine below_plus ?_ ?_ _ _) | (with_reducible refine Below.setCell ?_ ?_ _) | (with_reducible refine Below.setRow ?_ ?_ _) | go_size)))⟩
set_option maxRecDepth 100000 in
set_option maxHeartbeats 8000000 in
theorem normals_in (w : World) (a b : Option Addr) (n m ca cb : Nat) (K M : List Pt) (hK : PRC w a n ca K) (hM : PRC w b m cb M) (h1 : ¬ 210 < n) (h2 : ¬ 210 < m) :
    Calls Try.prog 8 #[.slice a n ca, .slice b m cb] w fun e w' => e = .returned (.bool true) ∧ Junk w w' := by
  have HAw := Lib.hid l_rgAwake
  have HB1 := Lib.hid (fun w' => l_rgBig a n ca w')
  have HB2 := Lib.hid (fun w' => l_rgBig b m cb w')
  rw [decide_eq_false h1] at HB1
  rw [decide_eq_false h2] at HB2
  have HN1 := Lib.hid (fun w' h => nm_any K n (by omega) w' a ca h)
  have HN2 := Lib.hid (fun w' h => nm_any M m (by omega) w' b cb h)
  have HSP := Lib.hid (fun n m hn w' a' b' ca' cb' h1 h2 => sp_dec (normF K) (normF M) n m hn w' a' b' ca' cb' h1 h2)
  have HS1 := Lib.hid (fun w' h1' h2' => c_rgSame w' a b n m ca cb K M h1' h2' (by omega) (by omega))
  have HS2 := Lib.hid (fun w' h1' h2' => c_rgSame w' b a m n cb ca M K h1' h2' (by omega) (by omega))
  rw [← sameB_comm K M] at HS2
  have HE := Lib.hid (fun b1 b2 (q1 : b1 = true ↔ fineQ K) (q2 : b2 = true ↔ fineQ M) => same_eq (K := K) (M := M) q1 q2)
  have HK := Lib.hid hK
  have HM := Lib.hid hM
  generalize decide (normF K = normF M) = r at *
  generalize normF K = N1 at *
  generalize normF M = N2 at *
  generalize sameB K M = s at *
  clear hK hM
  go_enter Try.func8, Try.ntmps8
  go_upto_region 6 with (first
    | (go_at_call 24; refine (HAw.out _).mono ?_; rintro e w1 ⟨rfl, J3, d3, rfl⟩) | (go_at_call 11; (first | (with_reducible refine (HB1.out _).mono ?_; clear HB1) | (with_reducible refine (HB2.out _).mono ?_)); rintro e w1 ⟨rfl, rfl⟩)
    | (go_at_call 15; refine (HN1.out _ (HK.out.below (by (repeat' (first | (with_reducible exact Below.refl _ _) | (with_reducible assumption) | (with_reducible refine Below.alloc ?_ ?_ _) | (with_reducible refine Below.drew ?_) | (with_reducible refine below_drewN ?_ _) | (with_reducible refine below_plus ?_ ?_ _ _) | (with_reducible refine Below.setCell ?_ ?_ _) | (with_reducible refine Below.setRow ?_ ?_ _) | go_size))))).mono ?_; clear HN1; rintro e w1 ⟨⟨a1, m1, c1, b1, rfl, hr1, hm1, hb1⟩, J1, d1, rfl⟩; (try simp only [plus_plus, Array.append_assoc] at hr1); have HR1 := Lib.hid hr1; have HM1 := Lib.hid hm1; clear hr1 hm1)
    | (go_at_call 15; refine (HN2.out _ (HM.out.below (by (repeat' (first | (with_reducible exact Below.refl _ _) | (with_reducible assumption) | (with_reducible refine Below.alloc ?_ ?_ _) | (with_reducible refine Below.drew ?_) | (with_reducible refine below_drewN ?_ _) | (with_reducible refine below_plus ?_ ?_ _ _) | (with_reducible refine Below.setCell ?_ ?_ _) | (with_reducible refine Below.setRow ?_ ?_ _) | go_size))))).mono ?_; rintro e w1 ⟨⟨a2, m2, c2, b2, rfl, hr2, hm2, hb2⟩, J2, d2, rfl⟩; (try simp only [plus_plus, Array.append_assoc] at hr2); have HR2 := Lib.hid hr2; clear hr2 hm2))
  have hs := HE.out b1 b2 hb1 hb2
  clear hb1 hb2
  subst hs
  have HSP1 := Lib.hid (HSP.out m1 m2 HM1.out)
  clear HSP HM1 h1 h2
  have hcs : (b1 = true ∧ b2 = true) ∨ (b1 = true ∧ b2 = false) ∨ b1 = false := by cases b1 <;> cases b2 <;> simp
  rcases hcs with ⟨rfl, rfl⟩ | ⟨rfl, rfl⟩ | rfl
  all_goals
    simp only [Bool.and_true, Bool.true_and, Bool.false_and, Bool.and_false] at HS1 HS2
    have HS3 := HS1
    go_wp2_with (first
      | (go_at_call 25; refine (HS1.out _ (HK.out.below (by (repeat' (first | (with_reducible exact Below.refl _ _) | (with_reducible assumption) | (with_reducible refine Below.alloc ?_ ?_ _) | (with_reducible refine Below.drew ?_) | (with_reducible refine below_drewN ?_ _) | (with_reducible refine below_plus ?_ ?_ _ _) | (with_reducible refine Below.setCell ?_ ?_ _) | (with_reducible refine Below.setRow ?_ ?_ _) | go_size)))) (HM.out.below (by (repeat' (first | (with_reducible exact Below.refl _ _) | (with_reducible assumption) | (with_reducible refine Below.alloc ?_ ?_ _) | (with_reducible refine Below.drew ?_) | (with_reducible refine below_drewN ?_ _) | (with_reducible refine below_plus ?_ ?_ _ _) | (with_reducible refine Below.setCell ?_ ?_ _) | (with_reducible refine Below.setRow ?_ ?_ _) | go_size))))).mono ?_; clear HS1; rintro e w1 ⟨rfl, J4, d4, rfl⟩)
      | (go_at_call 25; refine (HS3.out _ (HK.out.below (by (repeat' (first | (with_reducible exact Below.refl _ _) | (with_reducible assumption) | (with_reducible refine Below.alloc ?_ ?_ _) | (with_reducible refine Below.drew ?_) | (with_reducible refine below_drewN ?_ _) | (with_reducible refine below_plus ?_ ?_ _ _) | (with_reducible refine Below.setCell ?_ ?_ _) | (with_reducible refine Below.setRow ?_ ?_ _) | go_size)))) (HM.out.below (by (repeat' (first | (with_reducible exact Below.refl _ _) | (with_reducible assumption) | (with_reducible refine Below.alloc ?_ ?_ _) | (with_reducible refine Below.drew ?_) | (with_reducible refine below_drewN ?_ _) | (with_reducible refine below_plus ?_ ?_ _ _) | (with_reducible refine Below.setCell ?_ ?_ _) | (with_reducible refine Below.setRow ?_ ?_ _) | go_size))))).mono ?_; clear HS3; rintro e w1 ⟨rfl, J4, d4, rfl⟩)
      | (go_at_call 25; refine (HS2.out _ (HM.out.below (by (repeat' (first | (with_reducible exact Below.refl _ _) | (with_reducible assumption) | (with_reducible refine Below.alloc ?_ ?_ _) | (with_reducible refine Below.drew ?_) | (with_reducible refine below_drewN ?_ _) | (with_reducible refine below_plus ?_ ?_ _ _) | (with_reducible refine Below.setCell ?_ ?_ _) | (with_reducible refine Below.setRow ?_ ?_ _) | go_size)))) (HK.out.below (by (repeat' (first | (with_reducible exact Below.refl _ _) | (with_reducible assumption) | (with_reducible refine Below.alloc ?_ ?_ _) | (with_reducible refine Below.drew ?_) | (with_reducible refine below_drewN ?_ _) | (with_reducible refine below_plus ?_ ?_ _ _) | (with_reducible refine Below.setCell ?_ ?_ _) | (with_reducible refine Below.setRow ?_ ?_ _) | go_size))))).mono ?_; rintro e w1 ⟨rfl, J4, d4, rfl⟩)
      | (go_at_call 20; refine (HSP1.out _ _ _ _ _ (HR1.out.below (by ((try simp only [← Array.append_assoc]); repeat' (first | (with_reducible exact Below.refl _ _) | (with_reducible assumption) | (with_reducible refine Below.alloc ?_ ?_ _) | (with_reducible refine Below.drew ?_) | (with_reducible refine below_drewN ?_ _) | (with_reducible exact below_d _ _ _ _ _) | (with_reducible refine below_snoc _ _ ?_ ?_) | (with_reducible refine below_plus ?_ ?_ _ _) | (with_reducible refine Below.setCell ?_ ?_ _) | (with_reducible refine Below.setRow ?_ ?_ _) | go_size)))) (HR2.out.below (by ((try simp only [← Array.append_assoc]); repeat' (first | (with_reducible exact Below.refl _ _) | (with_reducible assumption) | (with_reducible refine Below.alloc ?_ ?_ _) | (with_reducible refine Below.drew ?_) | (with_reducible refine below_drewN ?_ _) | (with_reducible exact below_d _ _ _ _ _) | (with_reducible refine below_snoc _ _ ?_ ?_) | (with_reducible refine below_plus ?_ ?_ _ _) | (with_reducible refine Below.setCell ?_ ?_ _) | (with_reducible refine Below.setRow ?_ ?_ _) | go_size))))).mono ?_; rintro e w1 ⟨rfl, J5, d5, rfl⟩))
    go_ret
    exact ⟨by simp, junk_of_below (by (repeat' (first | (with_reducible exact Below.refl _ _) | (with_reducible assumption) | (with_reducible refine Below.alloc ?_ ?_ _) | (with_reducible refine Below.drew ?_) | (with_reducible refine below_drewN ?_ _) | (with_reducible refine below_plus ?_ ?_ _ _) | (with_reducible refine Below.setCell ?_ ?_ _) | (with_reducible refine Below.setRow ?_ ?_ _) | go_size)))⟩
theorem l_ringNormals (w : World) (a : Option Addr) (n ca : Nat) (K : List Pt) (hK : PRC w a n ca K) (_ : n ≤ 9223372036854775807) (_ : a = none → n = 0 ∧ ca = 0) (b : Option Addr) (m cb : Nat) (M : List Pt) (hM : PRC w b m cb M) (_ : m ≤ 9223372036854775807) (_ : b = none → m = 0 ∧ cb = 0) :
    Calls Try.prog 8 #[.slice a n ca, .slice b m cb] w fun e w' => e = .returned (.bool true) ∧ Junk w w' := by
  by_cases h1 : 210 < n
  · exact normals_big w a b n m ca cb (.inl h1)
  · by_cases h2 : 210 < m
    · exact normals_big w a b n m ca cb (.inr h2)
    · exact normals_in w a b n m ca cb K M hK hM h1 h2
end Go.Proofs.Ytmofejcafbjlnaa

/- The law RegionBoxes: the walk. -/
import Derived.Test.YtfkhefiilmdhmaaReTwo
import Derived.Test.YtfkhefiilmdhmaaPtThree
namespace Go.Proofs.Ytfkhefiilmdhmaa
set_option linter.unusedVariables false
set_option linter.unusedSimpArgs false
open Go.RowKit

theorem alln_flat (R : List (List Pt)) : R.flatten.length = allN R := by unfold allN; rw [List.length_flatten]
theorem le_alln {R : List (List Pt)} {K : List Pt} (hK : K ∈ R) : K.length ≤ allN R := by
  unfold allN
  induction R with
  | nil => cases hK
  | cons M R ih =>
    rw [List.map_cons, List.sum_cons]
    rcases List.mem_cons.1 hK with rfl | h
    · omega
    · have := ih h; omega
theorem fine_bnd {R : List (List Pt)} (h : (checkR R).1 = 0) : bndOk R.flatten = true := by
  have hf := checkR_fine.1 h
  unfold bndOk
  rw [Bool.and_eq_true]
  constructor
  · rw [decide_eq_true_eq, alln_flat]
    have h0 := hf.few
    have := le_alln (List.getElem_mem h0)
    have := (hf.each _ (List.getElem_mem h0)).few
    omega
  · unfold allOk
    rw [List.all_eq_true]
    intro p hp
    obtain ⟨K, hK, hp⟩ := List.mem_flatten.1 hp
    obtain ⟨i, hi, e⟩ := List.mem_iff_getElem.1 hp
    have := (hf.each K hK).ok i hi
    rw [List.getD_eq_getElem?_getD, List.getElem?_eq_getElem hi, Option.getD_some, e] at this
    exact this
theorem flat_ok {K : List Pt} (h : bndOk K = true) : ∀ a ∈ K, okC a = true := by
  have hb2 : 0 < K.length ∧ allOk K = true := by simpa [bndOk] using h
  intro a ha
  have := hb2.2
  unfold allOk at this
  exact List.all_eq_true.1 this a ha

set_option maxRecDepth 100000 in
theorem rboxes_big (px py : Int) (w : World) (a : Option Addr) (n ca : Nat) (R : List (List Pt)) (hR : GRC w a n ca R) (hs : n ≤ 4611686018427387903) (hl : ∀ K ∈ R, K.length ≤ 8796093022208) (h : 20 < n ∨ 300 < allN R) :
    Calls Try.prog 6 #[.agg #[.slice a n ca], pt px py] w fun e w' => e = .returned (.bool true) ∧ Junk w w' := by
  have HAw := Lib.hid l_reAwake
  have HR := Lib.hid hR
  have HL := Lib.hid (fun w' h => k_LargeRegion 20 300 (by decide) w' a n ca R h hs hl)
  have hb : (decide (20 < n) || decide (300 < allN R)) = true := by simpa using h
  rw [hb] at HL
  unfold pt
  clear hR hb h
  go_enter Try.func6, Try.ntmps6
  go_wp2_with (first | (go_at_call 11; refine (HAw.out _).mono ?_; rintro e w1 ⟨rfl, J1, d1, rfl⟩) | (go_at_call 12; refine (HL.out _ (HR.out.below (by (repeat' (first | (with_reducible exact Below.refl _ _) | (with_reducible assumption) | (with_reducible refine Below.alloc ?_ ?_ _) | (with_reducible refine Below.drew ?_) | (with_reducible refine below_drewN ?_ _) | (with_reducible refine below_plus ?_ ?_ _ _) | (with_reducible refine Below.setCell ?_ ?_ _) | (with_reducible refine Below.setRow ?_ ?_ _) | go_size))))).mono ?_; rintro e w1 ⟨rfl, J2, d2, rfl⟩))
  go_ret
  exact ⟨rfl, junk_of_below (by (repeat' (first | (with_reducible exact Below.refl _ _) | (with_reducible assumption) | (with_reducible refine Below.alloc ?_ ?_ _) | (with_reducible refine Below.drew ?_) | (with_reducible refine below_drewN ?_ _) | (with_reducible refine below_plus ?_ ?_ _ _) | (with_reducible refine Below.setCell ?_ ?_ _) | (with_reducible refine Below.setRow ?_ ?_ _) | go_size)))⟩
set_option maxRecDepth 100000 in
set_option maxHeartbeats 4000000 in
theorem rboxes_in (px py : Int) (w : World) (a : Option Addr) (n ca : Nat) (R : List (List Pt)) (hR : GRC w a n ca R) (h1 : n ≤ 20) (h2 : allN R ≤ 300) :
    Calls Try.prog 6 #[.agg #[.slice a n ca], pt px py] w fun e w' => e = .returned (.bool true) ∧ Junk w w' := by
  have hl := fun K hK => Nat.le_trans (le_alln (R := R) (K := K) hK) h2
  have HAw := Lib.hid l_reAwake
  have HR := Lib.hid hR
  have HL := Lib.hid (fun w' h => k_LargeRegion 20 300 (by decide) w' a n ca R h (by omega) (fun K hK => by have := hl K hK; omega))
  have hb : (decide (20 < n) || decide (300 < allN R)) = false := by rw [decide_eq_false (by omega), decide_eq_false (by omega)]; rfl
  rw [hb] at HL
  have HB := Lib.hid (fun w' h => c_reBox w' a n ca R h (by omega) (by rw [alln_flat]; omega))
  have HC := Lib.hid (fun w' h => c_reCheck w' a n ca R h (by omega) (fun K hK => by have := hl K hK; omega))
  have HI := Lib.hid (fun w' h => c_reIn px py w' a n ca R h (by omega) (fun K hK => by have := hl K hK; omega))
  have hf := fun h => fine_bnd (R := R) h
  have hbd := fun (h : bndOk R.flatten = true) => reg_bnd (p := (px, py)) (R := R) (flat_ok h)
  have hbx := fun (h : bndOk R.flatten = true) => boxV_some (K := R.flatten) h
  obtain ⟨⟨e, at_⟩, he⟩ : ∃ r, checkR R = r := ⟨_, rfl⟩
  rw [he] at HC hf
  obtain ⟨B0, hB0⟩ : ∃ b, bndOk R.flatten = b := ⟨_, rfl⟩
  rw [hB0] at HB hf hbd hbx
  obtain ⟨q, hq⟩ : ∃ q, regQ (px, py) R = q := ⟨_, rfl⟩
  rw [hq] at HI hbd
  have HP := Lib.hid (fun w' => n_ptIn px py (lxF R.flatten R.flatten.length) (lyF R.flatten R.flatten.length) (hxF R.flatten R.flatten.length + 1) (hyF R.flatten R.flatten.length + 1) w')
  simp only at hf hbd
  unfold fltV at HC
  simp only at HC
  clear hR hl hb he hB0 hq
  cases B0 with
  | false =>
    have he0 : (e == 0) = false := by rw [beq_eq_false_iff_ne]; intro h; cases hf h
    unfold boxV bxV at HB
    generalize boxF R.flatten = BX at *
    unfold pt at *
    clear hf hbd hbx HP
    go_enter Try.func6, Try.ntmps6
    go_wp2_with (first | (go_at_call 11; refine (HAw.out _).mono ?_; rintro e w1 ⟨rfl, J1, d1, rfl⟩) | (go_at_call 12; refine (HL.out _ (HR.out.below (by (repeat' (first | (with_reducible exact Below.refl _ _) | (with_reducible assumption) | (with_reducible refine Below.alloc ?_ ?_ _) | (with_reducible refine Below.drew ?_) | (with_reducible refine below_drewN ?_ _) | (with_reducible refine below_plus ?_ ?_ _ _) | (with_reducible refine Below.setCell ?_ ?_ _) | (with_reducible refine Below.setRow ?_ ?_ _) | go_size))))).mono ?_; rintro e w1 ⟨rfl, J2, d2, rfl⟩) | (go_at_call 21; refine (HB.out _ (HR.out.below (by (repeat' (first | (with_reducible exact Below.refl _ _) | (with_reducible assumption) | (with_reducible refine Below.alloc ?_ ?_ _) | (with_reducible refine Below.drew ?_) | (with_reducible refine below_drewN ?_ _) | (with_reducible refine below_plus ?_ ?_ _ _) | (with_reducible refine Below.setCell ?_ ?_ _) | (with_reducible refine Below.setRow ?_ ?_ _) | go_size))))).mono ?_; rintro e w1 ⟨rfl, J3, d3, rfl⟩) | (go_at_call 9; refine (HC.out _ (HR.out.below (by (repeat' (first | (with_reducible exact Below.refl _ _) | (with_reducible assumption) | (with_reducible refine Below.alloc ?_ ?_ _) | (with_reducible refine Below.drew ?_) | (with_reducible refine below_drewN ?_ _) | (with_reducible refine below_plus ?_ ?_ _ _) | (with_reducible refine Below.setCell ?_ ?_ _) | (with_reducible refine Below.setRow ?_ ?_ _) | go_size))))).mono ?_; rintro e w1 ⟨rfl, J4, d4, rfl⟩))
    go_ret
    exact ⟨rfl, junk_of_below (by (repeat' (first | (with_reducible exact Below.refl _ _) | (with_reducible assumption) | (with_reducible refine Below.alloc ?_ ?_ _) | (with_reducible refine Below.drew ?_) | (with_reducible refine below_drewN ?_ _) | (with_reducible refine below_plus ?_ ?_ _ _) | (with_reducible refine Below.setCell ?_ ?_ _) | (with_reducible refine Below.setRow ?_ ?_ _) | go_size)))⟩
  | true =>
    rw [hbx rfl] at HB
    have hbd := hbd rfl
    generalize inF px py (lxF R.flatten R.flatten.length) (lyF R.flatten R.flatten.length) (hxF R.flatten R.flatten.length + 1) (hyF R.flatten R.flatten.length + 1) = io at *
    generalize lxF R.flatten R.flatten.length = A1 at *
    generalize lyF R.flatten R.flatten.length = A2 at *
    generalize hxF R.flatten R.flatten.length + 1 = A3 at *
    generalize hyF R.flatten R.flatten.length + 1 = A4 at *
    unfold pt bxV at *
    clear hf hbx
    have hee : (e == 0) = true ∨ (e == 0) = false := by cases e == 0 <;> simp
    have hqq : q = false ∨ (q = true ∧ io = true) := by cases q; exact .inl rfl; exact .inr ⟨rfl, hbd rfl⟩
    clear hbd
    rcases hee with he0 | he0
    all_goals rcases hqq with rfl | ⟨rfl, rfl⟩
    all_goals
      go_enter Try.func6, Try.ntmps6
      go_wp2_with (first | (go_at_call 11; refine (HAw.out _).mono ?_; rintro e w1 ⟨rfl, J1, d1, rfl⟩) | (go_at_call 12; refine (HL.out _ (HR.out.below (by (repeat' (first | (with_reducible exact Below.refl _ _) | (with_reducible assumption) | (with_reducible refine Below.alloc ?_ ?_ _) | (with_reducible refine Below.drew ?_) | (with_reducible refine below_drewN ?_ _) | (with_reducible refine below_plus ?_ ?_ _ _) | (with_reducible refine Below.setCell ?_ ?_ _) | (with_reducible refine Below.setRow ?_ ?_ _) | go_size))))).mono ?_; rintro e w1 ⟨rfl, J2, d2, rfl⟩) | (go_at_call 21; refine (HB.out _ (HR.out.below (by (repeat' (first | (with_reducible exact Below.refl _ _) | (with_reducible assumption) | (with_reducible refine Below.alloc ?_ ?_ _) | (with_reducible refine Below.drew ?_) | (with_reducible refine below_drewN ?_ _) | (with_reducible refine below_plus ?_ ?_ _ _) | (with_reducible refine Below.setCell ?_ ?_ _) | (with_reducible refine Below.setRow ?_ ?_ _) | go_size))))).mono ?_; rintro e w1 ⟨rfl, J3, d3, rfl⟩) | (go_at_call 9; refine (HC.out _ (HR.out.below (by (repeat' (first | (with_reducible exact Below.refl _ _) | (with_reducible assumption) | (with_reducible refine Below.alloc ?_ ?_ _) | (with_reducible refine Below.drew ?_) | (with_reducible refine below_drewN ?_ _) | (with_reducible refine below_plus ?_ ?_ _ _) | (with_reducible refine Below.setCell ?_ ?_ _) | (with_reducible refine Below.setRow ?_ ?_ _) | go_size))))).mono ?_; rintro e w1 ⟨rfl, J4, d4, rfl⟩) | (go_at_call 14; refine (HI.out _ (HR.out.below (by (repeat' (first | (with_reducible exact Below.refl _ _) | (with_reducible assumption) | (with_reducible refine Below.alloc ?_ ?_ _) | (with_reducible refine Below.drew ?_) | (with_reducible refine below_drewN ?_ _) | (with_reducible refine below_plus ?_ ?_ _ _) | (with_reducible refine Below.setCell ?_ ?_ _) | (with_reducible refine Below.setRow ?_ ?_ _) | go_size))))).mono ?_; rintro e w1 ⟨rfl, J5, d5, rfl⟩) | (go_at_call 20; refine (HP.out _).mono ?_; rintro e w1 ⟨rfl, J6, d6, rfl⟩))
      go_ret
      exact ⟨rfl, junk_of_below (by (repeat' (first | (with_reducible exact Below.refl _ _) | (with_reducible assumption) | (with_reducible refine Below.alloc ?_ ?_ _) | (with_reducible refine Below.drew ?_) | (with_reducible refine below_drewN ?_ _) | (with_reducible refine below_plus ?_ ?_ _ _) | (with_reducible refine Below.setCell ?_ ?_ _) | (with_reducible refine Below.setRow ?_ ?_ _) | go_size)))⟩
theorem l_regionBoxes (w : World) (a : Option Addr) (n ca : Nat) (R : List (List Pt)) (hR : GRC w a n ca R) (hs : n ≤ 4611686018427387903) (hl : ∀ K ∈ R, K.length ≤ 8796093022208) (px py : Int) :
    Calls Try.prog 6 #[.agg #[.slice a n ca], pt px py] w fun e w' => e = .returned (.bool true) ∧ Junk w w' := by
  by_cases h : 20 < n ∨ 300 < allN R
  · exact rboxes_big px py w a n ca R hR hs hl h
  · exact rboxes_in px py w a n ca R hR (by omega) (by omega)
end Go.Proofs.Ytfkhefiilmdhmaa

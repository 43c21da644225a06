/- Contract of period's Parse. -/
import Derived.Test.YtlbbampmonkleaaDoorPerP3
namespace Go.Proofs.YtlbbampmonkleaaDoor
set_option linter.unusedVariables false
set_option linter.unusedSimpArgs false
open Go.RowKit

theorem byteAt_sub4 (L : List UInt8) (a n i : Nat) (h : i < n) : byteAt ((L.drop a).take n) i = byteAt L (a + i) := by
  unfold byteAt
  simp [List.getD_eq_getElem?_getD, List.getElem?_take_of_lt h, List.getElem?_drop]
theorem foldP_sub (L : List UInt8) (a n : Nat) : ∀ k, k ≤ n → foldP ((L.drop a).take n) 0 k = foldP L a k
  | 0, _ => rfl
  | k + 1, h => by
    rw [foldP, foldP, foldP_sub L a n k (by omega), Nat.zero_add, byteAt_sub4 L a n k (by omega)]

theorem atoi_fold (M : List UInt8) (h1 : 1 ≤ M.length) (hd : ∀ i, i < M.length → Dig (byteAt M i)) : Lib.atoi M = some (foldP M 0 M.length) := by
  have hk : ∀ k, k ≤ M.length → ∃ n : Nat, Lib.decFrom 0 (M.take k) = some n ∧ (n : Int) = foldP M 0 k := by
    intro k
    induction k with
    | zero => intro _; exact ⟨0, by simp [Lib.decFrom], rfl⟩
    | succ k ih =>
      intro h
      obtain ⟨n, e1, e2⟩ := ih (by omega)
      have hb := hd k (by omega)
      have hg : M[k]? = some (M[k]'(by omega)) := List.getElem?_eq_getElem (by omega)
      have hv : byteAt M k = (M[k]'(by omega)).toNat := by unfold byteAt; simp [List.getD_eq_getElem?_getD, hg]
      unfold Dig at hb
      have hdv : Lib.digitVal (M[k]'(by omega)) = some (byteAt M k - 48) := by
        unfold Lib.digitVal
        rw [← hv, if_pos hb]
      refine ⟨_, Lib.decFrom_take M k 0 n _ _ e1 hg hdv, ?_⟩
      rw [foldP, Nat.zero_add, ← e2]
      omega
  obtain ⟨n, e1, e2⟩ := hk M.length (Nat.le_refl _)
  rw [List.take_length] at e1
  cases M with
  | nil => simp at h1
  | cons b r =>
    have hb := hd 0 (by simp)
    unfold Dig byteAt at hb
    simp at hb
    have n45 : (b == 45) = false := by rw [beq_eq_false_iff_ne]; rintro rfl; simp at hb
    have n43 : (b == 43) = false := by rw [beq_eq_false_iff_ne]; rintro rfl; simp at hb
    show (if (b == 45) = true then (Lib.decNat r).map (fun (m : Nat) => -(m : Int)) else if (b == 43) = true then (Lib.decNat r).map (fun (m : Nat) => (m : Int)) else (Lib.decNat (b :: r)).map (fun (m : Nat) => (m : Int))) = _
    rw [n45, n43]
    simp only [Lib.decNat, List.isEmpty_cons, Bool.false_eq_true, if_false, e1, Option.map_some, e2]

theorem compl_facts {L : List UInt8} (h : Compl L) : stop L = L.length ∧ GT L L.length ∧ 4 ≤ L.length ∧ L.length ≤ 8 ∧ (∀ i, i < 4 → Dig (byteAt L i)) ∧
    (L.length ≠ 4 → 6 < L.length ∧ 1 ≤ kd (byteAt L 5) ∧ L.length = 6 + dOf (kd (byteAt L 5)) ∧ byteAt L 4 = 45 ∧ ∀ i, i < dOf (kd (byteAt L 5)) → Dig (byteAt L (6 + i))) := by
  obtain ⟨h1, h2⟩ := h
  obtain ⟨a, b, c, d⟩ := stop_spec L
  rw [h1] at a c
  obtain ⟨e1, e2⟩ := dOf_bd (kd (byteAt L 5))
  refine ⟨h1, a, by omega, c, fun i hi => (good_lt4 hi).1 (a i (by omega)).2, fun h => ?_⟩
  have h3 : L.length = 6 + dOf (kd (byteAt L 5)) := h2.elim (fun h' => absurd h' h) (fun h => h.2)
  refine ⟨by omega, ?_, h3, good_4.1 (a 4 (by omega)).2, fun i hi => ((good_6 (by omega)).1 (a (6 + i) (by omega)).2).2.1⟩
  have := good_5.1 (a 5 (by omega)).2
  omega

set_option maxHeartbeats 4000000 in
theorem n_Parse (L : List UInt8) (hl : L.length ≤ 1000) (r : Int × Int × Int × Int) (hr : Hid (parseP L = r)) (w : World) :
    Calls Tryd.prog 18 #[.string ⟨L.toArray⟩] w fun e w' => e = .returned (.tuple #[.int .i64 r.1, .int .i64 r.2.1, .agg #[.int .i64 r.2.2.1, .int .i64 r.2.2.2]]) ∧ Junk w w' := by
  have HS := n_scan L hl
  by_cases hc : Compl L
  case neg =>
    have hr := hr.out
    unfold parseP at hr
    rw [if_neg hc] at hr
    subst hr
    rw [decide_eq_false hc] at HS
    have HS := Lib.hid HS
    generalize stop L = M at *
    clear hc
    go_enter Tryd.func18, Tryd.ntmps18
    go_wp2_with fail
    refine (HS.out _).mono ?_; rintro e w' ⟨rfl, J, dr, rfl⟩
    go_wp2
    refine bodyPost_ret (results_pf rfl _ _ w.heap.size #[.int .i64 4, .int .i64 M] rfl (by simp [go_sem]) rfl) rfl ⟨rfl, junk_of_below (by (repeat' (first | (with_reducible exact Below.refl _ _) | (with_reducible assumption) | (with_reducible refine Below.alloc ?_ ?_ _) | (with_reducible refine Below.drew ?_) | (with_reducible refine below_drewN ?_ _) | (with_reducible refine below_plus ?_ ?_ _ _) | (with_reducible refine Below.setCell ?_ ?_ _) | (with_reducible refine Below.setRow ?_ ?_ _) | go_size)))⟩
  obtain ⟨c1, c2, c3, c4, c5, c6⟩ := compl_facts hc
  rw [decide_eq_true hc, c1] at HS
  have HS := Lib.hid HS
  have hr := hr.out
  unfold parseP at hr
  rw [if_pos hc] at hr
  have A1 := s_Atoi ⟨((L.drop 0).take 4).toArray⟩ (foldP L 0 4) (by simp [ByteArray.size]; omega) (by
    have := atoi_fold ((L.drop 0).take 4) (by simp; omega) (fun i hi => by
      have hi4 : i < 4 := by simp at hi; omega
      rw [byteAt_sub4 L 0 4 i hi4]; simpa using c5 i hi4)
    rw [show ((L.drop 0).take 4).length = 4 by simp; omega, foldP_sub L 0 4 4 (by omega)] at this
    simpa using this)
  rw [ex_sub4 L 0 4 4 rfl] at A1
  have A1 := Lib.hid A1
  obtain ⟨y0, y1, _⟩ := foldP_bd L 0 4 (fun i hi => by simpa using c5 i hi) (by omega) 4 (Nat.le_refl _)
  by_cases h4 : L.length = 4
  · have HPY := n_perYear 4 (by omega)
    rw [show (12 : Int) / mon 4 = 1 by decide] at HPY
    have HPY := Lib.hid HPY
    rw [show kOf L = 4 from if_pos h4, show nOf L = 1 from if_pos h4, show perY 4 = 1 from rfl] at hr
    by_cases cy : foldP L 0 4 < 1
    · rw [if_pos (.inl cy)] at hr
      subst hr
      generalize foldP L 0 4 = y at *
      clear c5 c6
      go_enter Tryd.func18, Tryd.ntmps18
      go_wp2_with fail
      refine (HS.out _).mono ?_; rintro e w' ⟨rfl, J, dr, rfl⟩
      go_wp2_with fail
      refine (A1.out _).mono ?_; rintro e w' ⟨rfl, J2, dr2, rfl⟩
      go_wp2_with fail
      refine (HPY.out _).mono ?_; rintro e w' ⟨rfl, J3, dr3, rfl⟩
      go_wp2
      refine bodyPost_ret (results_pf rfl _ _ w.heap.size #[.int .i64 5, .int .i64 0] rfl (by simp [go_sem]) rfl) rfl ⟨rfl, junk_of_below (by (repeat' (first | (with_reducible exact Below.refl _ _) | (with_reducible assumption) | (with_reducible refine Below.alloc ?_ ?_ _) | (with_reducible refine Below.drew ?_) | (with_reducible refine below_drewN ?_ _) | (with_reducible refine below_plus ?_ ?_ _ _) | (with_reducible refine Below.setCell ?_ ?_ _) | (with_reducible refine Below.setRow ?_ ?_ _) | go_size)))⟩
    · rw [if_neg (by omega)] at hr
      subst hr
      generalize hy : foldP L 0 4 = y at *
      have HY := Lib.hid hy
      clear c5 c6 hy
      go_enter Tryd.func18, Tryd.ntmps18
      go_wp2_with fail
      refine (HS.out _).mono ?_; rintro e w' ⟨rfl, J, dr, rfl⟩
      go_wp2_with fail
      refine (A1.out _).mono ?_; rintro e w' ⟨rfl, J2, dr2, rfl⟩
      go_wp2_with fail
      refine (HPY.out _).mono ?_; rintro e w' ⟨rfl, J3, dr3, rfl⟩
      go_wp2
      refine bodyPost_ret (results_pf rfl _ _ w.heap.size #[.int .i64 0, .int .i64 0] rfl (by simp [go_sem]) rfl) rfl ⟨?_, junk_of_below (by (repeat' (first | (with_reducible exact Below.refl _ _) | (with_reducible assumption) | (with_reducible refine Below.alloc ?_ ?_ _) | (with_reducible refine Below.drew ?_) | (with_reducible refine below_drewN ?_ _) | (with_reducible refine below_plus ?_ ?_ _ _) | (with_reducible refine Below.setCell ?_ ?_ _) | (with_reducible refine Below.setRow ?_ ?_ _) | go_size)))⟩
      exact ret_pf rfl (by have := HY.out; omega) rfl rfl
  obtain ⟨l6, k1, l8, b4, c7⟩ := c6 h4
  have k3 := kd_le (byteAt L 5)
  have HK := n_kindOf (byteAt L 5) (byte_lt _ _)
  obtain ⟨d1, d2⟩ := dOf_bd (kd (byteAt L 5))
  rw [show kOf L = kd (byteAt L 5) from if_neg h4, show nOf L = foldP L 6 (dOf (kd (byteAt L 5))) from if_neg h4] at hr
  obtain ⟨n0, n1, _, n2, _⟩ := foldP_bd L 6 (dOf (kd (byteAt L 5))) c7 (by omega) _ (Nat.le_refl _)
  have n2 := n2 d2
  have A2 := s_Atoi ⟨((L.drop 6).take (dOf (kd (byteAt L 5)))).toArray⟩ (foldP L 6 (dOf (kd (byteAt L 5)))) (by simp [ByteArray.size]; omega) (by
    have := atoi_fold ((L.drop 6).take (dOf (kd (byteAt L 5)))) (by simp; omega) (fun i hi => by
      have hi4 : i < dOf (kd (byteAt L 5)) := by simp at hi; omega
      rw [byteAt_sub4 L 6 _ i hi4]; exact c7 i hi4)
    rw [show ((L.drop 6).take (dOf (kd (byteAt L 5)))).length = dOf (kd (byteAt L 5)) by simp; omega, foldP_sub L 6 _ _ (Nat.le_refl _)] at this
    simpa using this)
  rw [ex_sub4 L 6 _ L.length l8] at A2
  have A2 := Lib.hid A2
  have HPY := n_perYear (kd (byteAt L 5) : Nat) (by omega)
  rw [mon_per (by omega)] at HPY
  have hp : 1 ≤ perY (kd (byteAt L 5)) ∧ perY (kd (byteAt L 5)) ≤ 12 := by unfold perY; (repeat' split) <;> omega
  generalize foldP L 6 (dOf (kd (byteAt L 5))) = n at *
  generalize perY (kd (byteAt L 5)) = q at *
  generalize kd (byteAt L 5) = k at *
  have HK := Lib.hid HK
  have HPY := Lib.hid HPY
  clear c5 c6 c7 l8 d1 d2 c2 hc b4
  by_cases cr : foldP L 0 4 < 1 ∨ n < 1 ∨ (q : Int) < n
  · rw [if_pos cr] at hr
    subst hr
    generalize foldP L 0 4 = y at *
    have walkit : (y < 1) ∨ (¬ y < 1 ∧ n < 1) ∨ (¬ y < 1 ∧ ¬ n < 1 ∧ (q : Int) < n) := by omega
    clear cr
    rcases walkit with cr | ⟨cr, cr2⟩ | ⟨cr, cr2, cr3⟩
    all_goals
      go_enter Tryd.func18, Tryd.ntmps18
      go_wp2_with fail
      refine (HS.out _).mono ?_; rintro e w' ⟨rfl, J, dr, rfl⟩
      go_wp2_with fail
      refine (A1.out _).mono ?_; rintro e w' ⟨rfl, J2, dr2, rfl⟩
      go_wp2_with fail
      refine (HK.out _).mono ?_; rintro e w' ⟨rfl, rfl⟩
      go_wp2_with fail
      refine (A2.out _).mono ?_; rintro e w' ⟨rfl, J4, dr4, rfl⟩
      go_wp2_with fail
      refine (HPY.out _).mono ?_; rintro e w' ⟨rfl, J3, dr3, rfl⟩
      go_wp2
      refine bodyPost_ret (results_pf rfl _ _ w.heap.size #[.int .i64 5, .int .i64 0] rfl (by simp [go_sem]) rfl) rfl ⟨rfl, junk_of_below (by (repeat' (first | (with_reducible exact Below.refl _ _) | (with_reducible assumption) | (with_reducible refine Below.alloc ?_ ?_ _) | (with_reducible refine Below.drew ?_) | (with_reducible refine below_drewN ?_ _) | (with_reducible refine below_plus ?_ ?_ _ _) | (with_reducible refine Below.setCell ?_ ?_ _) | (with_reducible refine Below.setRow ?_ ?_ _) | go_size)))⟩
  · rw [if_neg cr] at hr
    subst hr
    generalize hy : foldP L 0 4 = y at *
    have HY := Lib.hid hy
    clear hy
    have cr1 : ¬ y < 1 := by omega
    have cr2 : ¬ n < 1 := by omega
    have cr3 : ¬ (q : Int) < n := by omega
    clear cr
    obtain ⟨v, hv⟩ : ∃ v, (y - 1) * (q : Int) = v := ⟨_, rfl⟩
    have v0 : 0 ≤ v := by rw [← hv]; exact Int.mul_nonneg (by omega) (by omega)
    have v1 : v ≤ 119988 := by
      rw [← hv]
      have := Int.mul_le_mul (show y - 1 ≤ 9998 by omega) (show (q : Int) ≤ 12 by omega) (by omega) (by omega)
      omega
    have HV := Lib.hid (show (foldP L 0 4 - 1) * (q : Int) = v by rw [HY.out]; exact hv)
    go_enter Tryd.func18, Tryd.ntmps18
    go_wp2_with fail
    refine (HS.out _).mono ?_; rintro e w' ⟨rfl, J, dr, rfl⟩
    go_wp2_with fail
    refine (A1.out _).mono ?_; rintro e w' ⟨rfl, J2, dr2, rfl⟩
    go_wp2_with fail
    refine (HK.out _).mono ?_; rintro e w' ⟨rfl, rfl⟩
    go_wp2_with fail
    refine (A2.out _).mono ?_; rintro e w' ⟨rfl, J4, dr4, rfl⟩
    go_wp2_with fail
    refine (HPY.out _).mono ?_; rintro e w' ⟨rfl, J3, dr3, rfl⟩
    go_wp2
    refine bodyPost_ret (results_pf rfl _ _ w.heap.size #[.int .i64 0, .int .i64 0] rfl (by simp [go_sem]) rfl) rfl ⟨?_, junk_of_below (by (repeat' (first | (with_reducible exact Below.refl _ _) | (with_reducible assumption) | (with_reducible refine Below.alloc ?_ ?_ _) | (with_reducible refine Below.drew ?_) | (with_reducible refine below_drewN ?_ _) | (with_reducible refine below_plus ?_ ?_ _ _) | (with_reducible refine Below.setCell ?_ ?_ _) | (with_reducible refine Below.setRow ?_ ?_ _) | go_size)))⟩
    exact ret_pf rfl (by have := HV.out; omega) rfl rfl
end Go.Proofs.YtlbbampmonkleaaDoor

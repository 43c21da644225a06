/- Contracts of Parse, of civil and of apportionref03. Condition: civil's table is as laid. -/
import Derived.Test.YtpfaalpbfdphaaaDoorCivI
namespace Go.Proofs.YtpfaalpbfdphaaaDoor
set_option linter.unusedVariables false
set_option linter.unusedSimpArgs false
open Go.RowKit

theorem byteAt_sub (L : List UInt8) (a n i : Nat) (h : i < n) : byteAt ((L.drop a).take n) i = byteAt L (a + i) := by
  unfold byteAt
  simp [List.getD_eq_getElem?_getD, List.getElem?_take_of_lt h, List.getElem?_drop]
theorem foldD_sub (L : List UInt8) (a n : Nat) : ∀ k, k ≤ n → foldD ((L.drop a).take n) 0 k = foldD L a k
  | 0, _ => rfl
  | k + 1, h => by
    rw [foldD, foldD, foldD_sub L a n k (by omega), Nat.zero_add, byteAt_sub L a n k (by omega)]

theorem day_zero (y m d : Int) : (dayRes y m d).2 ≠ 0 → (dayRes y m d).1 = 0 := by
  unfold dayRes; split
  · intro h; exact absurd rfl h
  · intro _; rfl
theorem ex_sub (L : List UInt8) (a n b : Nat) (h : b = a + n) : (⟨((L.drop a).take n).toArray⟩ : ByteArray) = (⟨L.toArray⟩ : ByteArray).extract a b := by
  subst h
  apply ByteArray.ext
  simp [ByteArray.data_extract]

set_option maxHeartbeats 1000000 in
theorem n_Parse (L : List UInt8) (w : World) (hl : L.length ≤ 1000) (ht : CTab w) (r : Int × Int × Int) (hr : Hid (parseC L = r)) :
    Calls Tryd.prog 23 #[.string ⟨L.toArray⟩] w fun e w' => e = .returned (.tuple #[.int .i64 r.1, .agg #[.int .i64 r.2.1, .int .i64 r.2.2]]) ∧ Junk w w' := by
  have HM := Lib.hid (fun w => n_matching L hl w)
  obtain ⟨g1, g2, g3, g4⟩ := good_spec L
  have HT := Lib.hid ht
  unfold parseC at hr
  by_cases c1 : goodTo L < 10
  · have hr := hr.out
    rw [if_pos (.inl c1)] at hr
    subst hr
    generalize goodTo L = M at *
    clear g1 g2 ht
    go_enter Tryd.func23, Tryd.ntmps23
    go_wp2_with fail
    refine (HM.out _).mono ?_; rintro e w' ⟨rfl, J, dr, rfl⟩
    go_wp2
    refine bodyPost_ret (results_fault rfl _ _ w.heap.size #[.int .i64 4, .int .i64 M] rfl (by simp [go_sem]) rfl) rfl ⟨rfl, junk_of_below (by (repeat' (first | (with_reducible exact Below.refl _ _) | (with_reducible assumption) | (with_reducible refine Below.alloc ?_ ?_ _) | (with_reducible refine Below.drew ?_) | (with_reducible refine below_drewN ?_ _) | (with_reducible refine below_plus ?_ ?_ _ _) | (with_reducible refine Below.setCell ?_ ?_ _) | (with_reducible refine Below.setRow ?_ ?_ _) | go_size)))⟩
  have hM : goodTo L = 10 := by omega
  rw [hM] at HM g1 g2 g3 g4
  by_cases c2 : 10 < L.length
  · have hr := hr.out
    rw [if_pos (.inr c2), hM] at hr
    subst hr
    clear g1 g2 ht c1 hM
    go_enter Tryd.func23, Tryd.ntmps23
    go_wp2_with fail
    refine (HM.out _).mono ?_; rintro e w' ⟨rfl, J, dr, rfl⟩
    go_wp2
    refine bodyPost_ret (results_fault rfl _ _ w.heap.size #[.int .i64 4, .int .i64 10] rfl (by simp [go_sem]) rfl) rfl ⟨rfl, junk_of_below (by (repeat' (first | (with_reducible exact Below.refl _ _) | (with_reducible assumption) | (with_reducible refine Below.alloc ?_ ?_ _) | (with_reducible refine Below.drew ?_) | (with_reducible refine below_drewN ?_ _) | (with_reducible refine below_plus ?_ ?_ _ _) | (with_reducible refine Below.setCell ?_ ?_ _) | (with_reducible refine Below.setRow ?_ ?_ _) | go_size)))⟩
  have hlen : L.length = 10 := by omega
  have hr := hr.out
  rw [if_neg (by omega)] at hr
  have hd : ∀ i, i < 10 → i ≠ 4 → i ≠ 7 → 48 ≤ byteAt L i ∧ byteAt L i ≤ 57 := fun i h4 h7 hi => (ok_digit (g1 i h4) h7 hi).2.2
  have R1 := n_readDigits ((L.drop 0).take 4) (by simp; omega) (fun i hi => by simp [hlen] at hi; rw [byteAt_sub L 0 4 i (by omega)]; exact hd _ (by omega) (by omega) (by omega))
  have R2 := n_readDigits ((L.drop 5).take 2) (by simp; omega) (fun i hi => by simp [hlen] at hi; rw [byteAt_sub L 5 2 i (by omega)]; exact hd _ (by omega) (by omega) (by omega))
  have R3 := n_readDigits ((L.drop 8).take 2) (by simp; omega) (fun i hi => by simp [hlen] at hi; rw [byteAt_sub L 8 2 i (by omega)]; exact hd _ (by omega) (by omega) (by omega))
  rw [show ((L.drop 0).take 4).length = 4 by simp [hlen], foldD_sub L 0 4 4 (by omega)] at R1
  rw [show ((L.drop 5).take 2).length = 2 by simp [hlen], foldD_sub L 5 2 2 (by omega)] at R2
  rw [show ((L.drop 8).take 2).length = 2 by simp [hlen], foldD_sub L 8 2 2 (by omega)] at R3
  rw [ex_sub L 0 4 4 rfl] at R1; rw [ex_sub L 5 2 7 rfl] at R2; rw [ex_sub L 8 2 10 rfl] at R3
  have R1 := Lib.hid R1; have R2 := Lib.hid R2; have R3 := Lib.hid R3
  have HDy := Lib.hid (n_Day (foldD L 0 4) (foldD L 5 2) (foldD L 8 2))
  have hz := day_zero (foldD L 0 4) (foldD L 5 2) (foldD L 8 2)
  generalize dayRes (foldD L 0 4) (foldD L 5 2) (foldD L 8 2) = p at *
  obtain ⟨a, b⟩ := p
  subst hr
  have HZ := Lib.hid hz
  clear hz
  generalize foldD L 0 4 = y at *
  generalize foldD L 5 2 = m at *
  generalize foldD L 8 2 = d at *
  clear g1 g2 ht c1 hM hd g3 g4 c2
  go_enter Tryd.func23, Tryd.ntmps23
  go_wp2_with fail
  refine (HM.out _).mono ?_; rintro e w' ⟨rfl, J, dr, rfl⟩
  go_wp2_with fail
  have HTW := Lib.hid (show ∀ n, CTab (((w.alloc (.cells #[.int .i64 0, .int .i64 0] 38)).plus J dr).drewN n) from fun n => HT.out.below (by (repeat' (first | (with_reducible exact Below.refl _ _) | (with_reducible assumption) | (with_reducible refine Below.alloc ?_ ?_ _) | (with_reducible refine Below.drew ?_) | (with_reducible refine below_drewN ?_ _) | (with_reducible refine below_plus ?_ ?_ _ _) | (with_reducible refine Below.setCell ?_ ?_ _) | (with_reducible refine Below.setRow ?_ ?_ _) | go_size))))
  generalize hW : (w.alloc (.cells #[.int .i64 0, .int .i64 0] 38)).plus J dr = W at *
  have HW := Lib.hid hW
  clear hW
  go_quiet (first | (with_reducible refine Calls.quiet_of_same ((R1.out _).mono (fun _ _ h => ⟨h.1, h.2.symm⟩))) | (with_reducible refine Calls.quiet_of_same ((R2.out _).mono (fun _ _ h => ⟨h.1, h.2.symm⟩))) | (with_reducible refine Calls.quiet_of_same ((R3.out _).mono (fun _ _ h => ⟨h.1, h.2.symm⟩))) | (with_reducible refine Calls.quiet_of_same ((HDy.out _ (HTW.out _)).mono (fun _ _ h => ⟨h.1, h.2.symm⟩))))
  rw [← HW.out]
  by_cases c : b = 0
  · subst c
    go_wp2
    refine bodyPost_ret (results_fault rfl _ _ w.heap.size #[.int .i64 0, .int .i64 0] rfl (by simp [go_sem]) rfl) rfl ⟨rfl, junk_of_below (by (repeat' (first | (with_reducible exact Below.refl _ _) | (with_reducible assumption) | (with_reducible refine Below.alloc ?_ ?_ _) | (with_reducible refine Below.drew ?_) | (with_reducible refine below_drewN ?_ _) | (with_reducible refine below_plus ?_ ?_ _ _) | (with_reducible refine Below.setCell ?_ ?_ _) | (with_reducible refine Below.setRow ?_ ?_ _) | go_size)))⟩
  · have e1 : (b != 0) = true := bne_iff_ne.2 c
    obtain rfl : a = 0 := HZ.out c
    go_wp2
    refine bodyPost_ret (results_fault rfl _ _ w.heap.size #[.int .i64 b, .int .i64 0] rfl (by simp [go_sem]) rfl) rfl ⟨rfl, junk_of_below (by (repeat' (first | (with_reducible exact Below.refl _ _) | (with_reducible assumption) | (with_reducible refine Below.alloc ?_ ?_ _) | (with_reducible refine Below.drew ?_) | (with_reducible refine below_drewN ?_ _) | (with_reducible refine below_plus ?_ ?_ _ _) | (with_reducible refine Below.setCell ?_ ?_ _) | (with_reducible refine Below.setRow ?_ ?_ _) | go_size)))⟩

end Go.Proofs.YtpfaalpbfdphaaaDoor

/- Contracts of apportionref02's digit and Parse. No condition but the length of the text. -/
import Derived.Test.YtgnmoneiiogoaaaDoorMonB0
namespace Go.Proofs.YtgnmoneiiogoaaaDoor
set_option linter.unusedVariables false
set_option linter.unusedSimpArgs false
open Go.RowKit

set_option maxHeartbeats 1000000 in
theorem m_digit (L : List UInt8) (i : Nat) (hl : L.length ≤ 9223372036854775807) (w : World) :
    Calls Tryd.prog 24 #[.string ⟨L.toArray⟩, .int .i64 i] w fun e w' => e = .returned (.bool (digAt L i)) ∧ w = w' := by
  unfold digAt
  by_cases h : i < L.length
  · by_cases h1 : 48 ≤ byteAt L i
    · by_cases h2 : byteAt L i ≤ 57
      · rw [decide_eq_true h, decide_eq_true h1, decide_eq_true h2]
        go_enter Tryd.func24, Tryd.ntmps24
        go_wp2
        go_ret
        exact ⟨by first | (simp [*]; done) | (simp [*]; omega), rfl⟩
      · rw [decide_eq_true h, decide_eq_true h1, decide_eq_false h2]
        go_enter Tryd.func24, Tryd.ntmps24
        go_wp2
        go_ret
        exact ⟨by first | (simp [*]; done) | (simp [*]; omega), rfl⟩
    · rw [decide_eq_true h, decide_eq_false h1]
      go_enter Tryd.func24, Tryd.ntmps24
      go_wp2
      go_ret
      exact ⟨by first | (simp [*]; done) | (simp [*]; omega), rfl⟩
  · rw [decide_eq_false h]
    go_enter Tryd.func24, Tryd.ntmps24
    go_wp2
    go_ret
    exact ⟨by first | (simp [*]; done) | (simp [*]; omega), rfl⟩

set_option maxRecDepth 100000 in
set_option maxHeartbeats 4000000 in
/-- From the whole digits on. -/
theorem m_Parse (L : List UInt8) (w : World) (hl : L.length ≤ 1000) (r : Int × Int × Int) (hr : Hid (parseM L = r)) :
    Calls Tryd.prog 11 #[.string ⟨L.toArray⟩] w fun e w' => e = .returned (.tuple #[.int .i64 r.1, .agg #[.int .i64 r.2.1, .int .i64 r.2.2]]) ∧ Junk w w' := by
  have D := Lib.hid (fun i => m_digit L i (by omega))
  by_cases h20 : 20 < L.length
  · obtain rfl : r = (0, 3, 0) := by rw [← hr.out]; unfold parseM; rw [if_pos h20]
    go_enter Tryd.func11, Tryd.ntmps11
    go_wp2
    refine bodyPost_ret (results_fault rfl _ _ w.heap.size #[.int .i64 3, .int .i64 0] rfl (by simp [go_sem]) rfl) rfl ⟨rfl, junk_of_below (by (repeat' (first | (with_reducible exact Below.refl _ _) | (with_reducible assumption) | (with_reducible refine Below.alloc ?_ ?_ _) | (with_reducible refine Below.drew ?_) | (with_reducible refine below_drewN ?_ _) | (with_reducible refine below_plus ?_ ?_ _ _) | (with_reducible refine Below.setCell ?_ ?_ _) | (with_reducible refine Below.setRow ?_ ?_ _) | go_size)))⟩
  · obtain ⟨z, hz⟩ : ∃ z, z = if 0 < L.length ∧ byteAt L 0 = 45 then 1 else 0 := ⟨_, rfl⟩
    have hz2 : (z = 1 ∧ 0 < L.length ∧ byteAt L 0 = 45) ∨ (z = 0 ∧ 0 < L.length ∧ byteAt L 0 ≠ 45) ∨ (z = 0 ∧ ¬ 0 < L.length) := by
      rw [hz]; split <;> omega
    have HZ := Lib.hid hz; have HZ2 := Lib.hid hz2; clear hz hz2
    go_enter Tryd.func11, Tryd.ntmps11
    go_upto_region 4 with fail
    go_cut [19] from 12 (fun x wx => x = .bool (decide (z = 1)) ∧ w.alloc (.cells #[.int .i64 0, .int .i64 0] 27) = wx)
    case first =>
      rcases HZ2.out with ⟨rfl, h0, h1⟩ | ⟨rfl, h0, h1⟩ | ⟨rfl, h0⟩
      · go_wp2_with fail
        go_meet
        case rel => exact ⟨by simp [h1], rfl⟩
      · have h2 : ((byteAt L 0 : Int) == 45) = false := by rw [beq_eq_false_iff_ne]; omega
        go_wp2_with fail
        go_meet
        case rel => exact ⟨by simp [h2], rfl⟩
      · go_wp2_with fail
        go_meet
        case rel => exact ⟨by simp, rfl⟩
    case rest =>
     obtain ⟨rfl, rfl⟩ := hcut
     go_upto_if 19 with fail
     go_cut [4] from 12 (fun x wx => x = .int .i64 (z : Int) ∧ w.alloc (.cells #[.int .i64 0, .int .i64 0] 27) = wx)
     case first =>
      by_cases h1 : z = 1
      · subst h1
        go_wp2_with fail
        go_meet
        case rel => exact ⟨rfl, rfl⟩
      · obtain rfl : z = 0 := by rcases HZ2.out with h | h | h <;> omega
        go_wp2_with fail
        go_meet
        case rel => exact ⟨rfl, rfl⟩
     case rest =>
      obtain ⟨rfl, rfl⟩ := hcut
      obtain ⟨ks, kb, kl⟩ := intLen_spec L z
      have HKS := Lib.hid ks; have HKB := Lib.hid kb
      clear ks kb
      go_wp2_with fail
      go_loopw [4, 6] (fun i n wr => ∃ m p : Nat, p = z + m ∧ i = .int .i64 (p : Int) ∧ n = .int .i64 (capVal L z m) ∧ m ≤ intLen L z ∧ wr = (w.alloc (.cells #[.int .i64 0, .int .i64 0] 27))) (fun i _ _ => z + intLen L z - (intOf i).toNat)
      case atStart => exact ⟨0, z, rfl, rfl, rfl, Nat.zero_le _, rfl⟩
      case round =>
        obtain ⟨m, p, hp, rfl, rfl, hm, rfl⟩ := hrel
        have HP := Lib.hid hp
        have z1 : z ≤ 1 := by rcases HZ2.out with h | h | h <;> omega
        have hcv := capVal_bd L z m (fun j hj => HKS.out j (by omega))
        obtain ⟨v0, v1⟩ := hcv
        clear hp
        generalize hcv : capVal L z m = cv at *
        have HCV := Lib.hid hcv; clear hcv
        go_upto_region 8 with fail
        go_cut [34] from 21 to 45 (fun t wx => t = .bool (goOn L z m) ∧ (w.alloc (.cells #[.int .i64 0, .int .i64 0] 27)) = wx)
        case first =>
          go_wp2_with fail
          refine (D.out p _).mono ?_; rintro e w' ⟨rfl, rfl⟩
          have HGO := Lib.hid (show goOn L z m = (digAt L p && (decide (m = 0) || decide (byteAt L z ≠ 48))) by rw [HP.out]; rfl)
          have HLT := Lib.hid (fun h : digAt L p = true => show p < L.length by unfold digAt at h; simp at h; omega)
          generalize goOn L z m = go at *
          generalize digAt L p = dg at *
          cases dg with
          | false =>
            obtain rfl : go = false := by rw [HGO.out]; rfl
            go_wp2_with fail
            go_meet
            case rel => exact ⟨rfl, rfl⟩
          | true =>
            have hlt := HLT.out rfl
            by_cases h0 : m = 0
            · obtain rfl : go = true := by rw [HGO.out]; simp [h0]
              obtain rfl : p = z := by rw [HP.out, h0]; rfl
              go_wp2_with fail
              go_meet
              case rel => exact ⟨by simp, rfl⟩
            · have h1 : ((p : Int) == (z : Int)) = false := by rw [beq_eq_false_iff_ne]; have := HP.out; omega
              have hzl : z < L.length := by have := HP.out; omega
              by_cases h2 : byteAt L z = 48
              · obtain rfl : go = false := by rw [HGO.out]; simp [h0, h2]
                have h3 : ((byteAt L z : Int) != 48) = false := by simp [h2]
                go_wp2_with fail
                go_meet
                case rel => exact ⟨by simp [h1, h3], rfl⟩
              · obtain rfl : go = true := by rw [HGO.out]; simp [h2]
                have h3 : ((byteAt L z : Int) != 48) = true := by simp; omega
                go_wp2_with fail
                go_meet
                case rel => exact ⟨by simp [h1, h3], rfl⟩
        case rest =>
          obtain ⟨rfl, rfl⟩ := hcut
          by_cases hmk : m < intLen L z
          · have hgo := HKS.out m hmk
            rw [hgo]
            have hd : digAt L p = true := by unfold goOn at hgo; rw [← HP.out] at hgo; simp at hgo; exact hgo.1
            obtain ⟨d0, d1, d2⟩ := dig_bd L p hd
            have HC2 := Lib.hid (show capVal L z (m + 1) = min (10 * cv + ((byteAt L p : Int) - 48)) 1125899906842624 by rw [capVal, HCV.out, HP.out])
            clear hgo hd
            have e1 : IntKind.u8.wrap ((byteAt L p : Int) - 48) = (byteAt L p : Int) - 48 := by simp [IntKind.wrap, IntKind.signed, IntKind.bits]; omega
            go_wp2_with fail
            go_round
            case rel => exact ⟨m + 1, p + 1, by rw [HP.out]; omega, by go_num, by rw [HC2.out, Int.min_def]; congr 1; split <;> split <;> omega, by omega, trivial⟩
            case measure => simp [intOf]; have := HP.out; omega
          · obtain rfl : m = intLen L z := by omega
            rw [HKB.out]
            have kl2 : p ≤ z + L.length := by rw [HP.out]; exact kl
            generalize hK : intLen L z = K at *
            have HK := Lib.hid hK; clear hK hm hmk
            go_upto_region 11 with fail
            go_cut [60] from 46 (fun t wx => t = .bool (decide (K = 0 ∨ L.length ≤ p ∨ byteAt L p ≠ 46)) ∧ (w.alloc (.cells #[.int .i64 0, .int .i64 0] 27)) = wx)
            case first =>
              by_cases h1 : K = 0
              · obtain rfl : p = z := by rw [HP.out, h1]; rfl
                go_wp2_with fail
                go_meet
                case rel => exact ⟨by rw [decide_eq_true (show K = 0 ∨ L.length ≤ p ∨ byteAt L p ≠ 46 from .inl h1)]; try simp, rfl⟩
              · have h2 : ((p : Int) == (z : Int)) = false := by rw [beq_eq_false_iff_ne]; have := HP.out; omega
                by_cases h3 : L.length ≤ p
                · skip
                  go_wp2_with fail
                  go_meet
                  case rel => exact ⟨by rw [decide_eq_true (show K = 0 ∨ L.length ≤ p ∨ byteAt L p ≠ 46 from .inr (.inl h3))]; try simp [h2, h3], rfl⟩
                · by_cases h4 : byteAt L p = 46
                  · skip
                    have h5 : ((byteAt L p : Int) != 46) = false := by simp [h4]
                    go_wp2_with fail
                    go_meet
                    case rel => exact ⟨by rw [decide_eq_false (show ¬ (K = 0 ∨ L.length ≤ p ∨ byteAt L p ≠ 46) by omega)]; try simp [h2, h3, h5], rfl⟩
                  · skip
                    have h5 : ((byteAt L p : Int) != 46) = true := by simp; omega
                    go_wp2_with fail
                    go_meet
                    case rel => exact ⟨by rw [decide_eq_true (show K = 0 ∨ L.length ≤ p ∨ byteAt L p ≠ 46 from .inr (.inr h4))]; try simp [h2, h3, h5], rfl⟩
            case rest =>
              obtain ⟨rfl, rfl⟩ := hcut
              by_cases hbad : K = 0 ∨ L.length ≤ p ∨ byteAt L p ≠ 46
              · rw [decide_eq_true hbad]
                have hres : r = (0, 4, (p : Int)) := by rw [← hr.out]; unfold parseM; rw [if_neg h20, ← HZ.out]; simp only [HK.out, ← HP.out]; rw [if_pos hbad]
                clear hbad
                subst hres
                go_wp2
                refine bodyPost_ret (results_fault rfl _ _ w.heap.size #[.int .i64 4, .int .i64 p] rfl (by simp [go_sem]) rfl) rfl ⟨rfl, junk_of_below (by (repeat' (first | (with_reducible exact Below.refl _ _) | (with_reducible assumption) | (with_reducible refine Below.alloc ?_ ?_ _) | (with_reducible refine Below.drew ?_) | (with_reducible refine below_drewN ?_ _) | (with_reducible refine below_plus ?_ ?_ _ _) | (with_reducible refine Below.setCell ?_ ?_ _) | (with_reducible refine Below.setRow ?_ ?_ _) | go_size)))⟩
              · rw [decide_eq_false hbad]
                have HR := Lib.hid (show r = tailM L p z cv by rw [← hr.out]; unfold parseM; rw [if_neg h20, ← HZ.out]; simp only [HK.out, ← HP.out, HCV.out]; rw [if_neg hbad])
                have hpl : p < L.length := by omega
                clear hbad HKS HKB hr kl
                go_wp2_with fail
                go_loopw [4, 6, 7] (fun s n i wr => ∃ (q c : Nat) (v : Int), c = p + 1 + q ∧ s = .int .i64 (c : Int) ∧ n = .int .i64 v ∧ i = .int .i64 (q : Int) ∧ TwoV L p cv q v ∧ q ≤ 2 ∧ (w.alloc (.cells #[.int .i64 0, .int .i64 0] 27)) = wr) (fun _ _ i _ => 2 - (intOf i).toNat)
                case atStart => exact ⟨0, p + 1, cv, rfl, by go_num, rfl, rfl, .inl ⟨rfl, rfl⟩, by omega, rfl⟩
                case round =>
                  obtain ⟨q, c, v, hc, rfl, rfl, rfl, htv, hq, rfl⟩ := hrel
                  obtain ⟨b0, b1⟩ := htv.bd v0 v1
                  have HTV := Lib.hid htv; have HC := Lib.hid hc
                  clear htv hc
                  have hcl : c ≤ 1003 := by have := HC.out; omega
                  by_cases hq2 : q < 2
                  · go_wp2_with fail
                    refine (D.out c _).mono ?_; rintro e w' ⟨rfl, rfl⟩
                    by_cases hdg : digAt L c = true
                    · obtain ⟨d0, d1, d2⟩ := dig_bd L c hdg
                      have HN := Lib.hid (HTV.out.next hq2 (by rw [← HC.out]; exact hdg))
                      rw [← HC.out] at HN
                      rw [hdg]
                      clear hdg
                      have e1 : IntKind.u8.wrap ((byteAt L c : Int) - 48) = (byteAt L c : Int) - 48 := by simp [IntKind.wrap, IntKind.signed, IntKind.bits]; omega
                      go_wp2_with fail
                      go_round
                      case rel => exact ⟨q + 1, c + 1, _, by rw [HC.out]; omega, by go_num, rfl, by go_num, HN.out, by omega, trivial⟩
                      case measure => simp [intOf]; omega
                    · have hdf : digAt L c = false := by simpa using hdg
                      have hres : r = (0, 4, (c : Int)) := by rw [HR.out, HTV.out.bad hq2 (by rw [← HC.out]; exact hdf), HC.out]
                      rw [hdf]
                      clear hdg hdf
                      subst hres
                      go_wp2
                      refine bodyPost_ret (results_fault rfl _ _ w.heap.size #[.int .i64 4, .int .i64 c] rfl (by simp [go_sem]) rfl) rfl ⟨rfl, junk_of_below (by (repeat' (first | (with_reducible exact Below.refl _ _) | (with_reducible assumption) | (with_reducible refine Below.alloc ?_ ?_ _) | (with_reducible refine Below.drew ?_) | (with_reducible refine below_drewN ?_ _) | (with_reducible refine below_plus ?_ ?_ _ _) | (with_reducible refine Below.setCell ?_ ?_ _) | (with_reducible refine Below.setRow ?_ ?_ _) | go_size)))⟩
                  · obtain rfl : q = 2 := by omega
                    have HD := Lib.hid (HR.out.trans HTV.out.done)
                    clear hq hq2
                    by_cases hl3 : c < L.length
                    · have hres : r = (0, 4, (c : Int)) := by rw [HD.out, if_pos (by have := HC.out; omega), HC.out]
                      subst hres
                      go_wp2
                      refine bodyPost_ret (results_fault rfl _ _ w.heap.size #[.int .i64 4, .int .i64 c] rfl (by simp [go_sem]) rfl) rfl ⟨rfl, junk_of_below (by (repeat' (first | (with_reducible exact Below.refl _ _) | (with_reducible assumption) | (with_reducible refine Below.alloc ?_ ?_ _) | (with_reducible refine Below.drew ?_) | (with_reducible refine below_drewN ?_ _) | (with_reducible refine below_plus ?_ ?_ _ _) | (with_reducible refine Below.setCell ?_ ?_ _) | (with_reducible refine Below.setRow ?_ ?_ _) | go_size)))⟩
                    · have HD2 := Lib.hid (show r = _ by rw [HD.out, if_neg (by have := HC.out; omega)])
                      have hc3 : ¬ ((c : Int) < L.length) := by omega
                      by_cases hA : 1099511627775 < v
                      · have hres : r = (0, 5, 0) := by rw [HD2.out, if_pos (.inl hA)]
                        subst hres
                        go_wp2
                        refine bodyPost_ret (results_fault rfl _ _ w.heap.size #[.int .i64 5, .int .i64 0] rfl (by simp [go_sem]) rfl) rfl ⟨rfl, junk_of_below (by (repeat' (first | (with_reducible exact Below.refl _ _) | (with_reducible assumption) | (with_reducible refine Below.alloc ?_ ?_ _) | (with_reducible refine Below.drew ?_) | (with_reducible refine below_drewN ?_ _) | (with_reducible refine below_plus ?_ ?_ _ _) | (with_reducible refine Below.setCell ?_ ?_ _) | (with_reducible refine Below.setRow ?_ ?_ _) | go_size)))⟩
                      · by_cases hz1 : z = 1
                        · subst hz1
                          by_cases hv0 : v = 0
                          · have hres : r = (0, 5, 0) := by rw [HD2.out, if_pos (.inr ⟨rfl, hv0⟩)]
                            subst hres hv0
                            go_wp2
                            refine bodyPost_ret (results_fault rfl _ _ w.heap.size #[.int .i64 5, .int .i64 0] rfl (by simp [go_sem]) rfl) rfl ⟨rfl, junk_of_below (by (repeat' (first | (with_reducible exact Below.refl _ _) | (with_reducible assumption) | (with_reducible refine Below.alloc ?_ ?_ _) | (with_reducible refine Below.drew ?_) | (with_reducible refine below_drewN ?_ _) | (with_reducible refine below_plus ?_ ?_ _ _) | (with_reducible refine Below.setCell ?_ ?_ _) | (with_reducible refine Below.setRow ?_ ?_ _) | go_size)))⟩
                          · have hres : r = (-v, 0, 0) := by rw [HD2.out, if_neg (by omega)]; rfl
                            have hv1 : (v == 0) = false := by rw [beq_eq_false_iff_ne]; exact hv0
                            subst hres
                            go_wp2
                            refine bodyPost_ret (results_fault rfl _ _ w.heap.size #[.int .i64 0, .int .i64 0] rfl (by simp [go_sem]) rfl) rfl ⟨rfl, junk_of_below (by (repeat' (first | (with_reducible exact Below.refl _ _) | (with_reducible assumption) | (with_reducible refine Below.alloc ?_ ?_ _) | (with_reducible refine Below.drew ?_) | (with_reducible refine below_drewN ?_ _) | (with_reducible refine below_plus ?_ ?_ _ _) | (with_reducible refine Below.setCell ?_ ?_ _) | (with_reducible refine Below.setRow ?_ ?_ _) | go_size)))⟩
                        · obtain rfl : z = 0 := by omega
                          have hres : r = (v, 0, 0) := by rw [HD2.out, if_neg (by omega)]; rfl
                          subst hres
                          go_wp2
                          refine bodyPost_ret (results_fault rfl _ _ w.heap.size #[.int .i64 0, .int .i64 0] rfl (by simp [go_sem]) rfl) rfl ⟨rfl, junk_of_below (by (repeat' (first | (with_reducible exact Below.refl _ _) | (with_reducible assumption) | (with_reducible refine Below.alloc ?_ ?_ _) | (with_reducible refine Below.drew ?_) | (with_reducible refine below_drewN ?_ _) | (with_reducible refine below_plus ?_ ?_ _ _) | (with_reducible refine Below.setCell ?_ ?_ _) | (with_reducible refine Below.setRow ?_ ?_ _) | go_size)))⟩
end Go.Proofs.YtgnmoneiiogoaaaDoor

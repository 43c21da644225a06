/- Contracts of apportionref04's digit and Parse. -/
import Derived.Test.YtlbbampmonkleaaDoorPerP0
namespace Go.Proofs.YtlbbampmonkleaaDoor
set_option linter.unusedVariables false
set_option linter.unusedSimpArgs false
open Go.RowKit

theorem r_digit (L : List UInt8) (i : Nat) (lo hi : Nat) (w : World) (hl : L.length ≤ 1000) :
    Calls Tryd.prog 40 #[.string ⟨L.toArray⟩, .int .i64 (i : Int), .int .u8 (lo : Int), .int .u8 (hi : Int)] w fun e w' => e = .returned (.bool (decide (i < L.length ∧ lo ≤ byteAt L i ∧ byteAt L i ≤ hi))) ∧ w = w' := by
  by_cases c1 : i < L.length
  · by_cases c2 : lo ≤ byteAt L i
    · by_cases c3 : byteAt L i ≤ hi
      · rw [decide_eq_true ⟨c1, c2, c3⟩]
        go_enter Tryd.func40, Tryd.ntmps40
        go_wp2
        go_ret
        exact ⟨by simp [*], rfl⟩
      · rw [decide_eq_false (fun h => c3 h.2.2)]
        go_enter Tryd.func40, Tryd.ntmps40
        go_wp2
        go_ret
        exact ⟨by simp [*], rfl⟩
    · rw [decide_eq_false (fun h => c2 h.2.1)]
      go_enter Tryd.func40, Tryd.ntmps40
      go_wp2
      go_ret
      exact ⟨by simp [*], rfl⟩
  · rw [decide_eq_false (fun h => c1 h.1)]
    go_enter Tryd.func40, Tryd.ntmps40
    go_wp2
    go_ret
    exact ⟨by simp [*], rfl⟩

theorem results_pf {fn : Func} {p t u : Tmp} (h : fn.results = #[.tmp t, .tmp u, .cell p 30]) (tmps : Array Value) (w : World) (g : Nat) (c : Array Value)
    (hp : tmps.getD p undef = .pointer (some ⟨g, 0, none⟩)) (hr : w.rowAt g = some c) (hc : c.size = 2) : (results fn tmps).run Tryd.prog w = .ok (.tuple #[tmps.getD t undef, tmps.getD u undef, .agg c]) w := by
  obtain ⟨ty, hg⟩ := rowAt_some hr
  have hp' : tmps[p]?.getD undef = .pointer (some ⟨g, 0, none⟩) := by simpa using hp
  simp [results, h, hp', asAddr, run_loadVar_row w g ty _ c (0, 0) _ hg Tryd.underlying30 rfl (by rw [hc]; kernel_rfl)]

theorem ret_pf {a b c d a' b' c' d' : Int} (h1 : a = a') (h2 : b = b') (h3 : c = c') (h4 : d = d') : Ending.returned (.tuple #[.int .i64 a, .int .i64 b, .agg #[.int .i64 c, .int .i64 d]]) = .returned (.tuple #[.int .i64 a', .int .i64 b', .agg #[.int .i64 c', .int .i64 d']]) := by rw [h1, h2, h3, h4]
theorem r_dig (L : List UInt8) (hl : L.length ≤ 1000) (i : Nat) (I lo' hi' : Int) (h0 : I = i) (lo hi : Nat) (h1 : lo' = lo) (h2 : hi' = hi) (b : Bool) (hb : decide (i < L.length ∧ lo ≤ byteAt L i ∧ byteAt L i ≤ hi) = b) (w : World) :
    Calls Tryd.prog 40 #[.string ⟨L.toArray⟩, .int .i64 I, .int .u8 lo', .int .u8 hi'] w fun e w' => e = .returned (.bool b) ∧ w = w' := by
  subst h0; subst h1; subst h2; subst hb
  exact r_digit L i lo hi w hl

def GT (L : List UInt8) (i : Nat) : Prop := ∀ j, j < i → j < L.length ∧ Good L j
theorem GT.succ {L : List UInt8} {i : Nat} (h : GT L i) (h1 : i < L.length) (h2 : Good L i) : GT L (i + 1) := by
  intro j hj
  by_cases e : j = i
  · subst e; exact ⟨h1, h2⟩
  · exact h j (by omega)

set_option maxHeartbeats 8000000 in
theorem r_Parse (L : List UInt8) (hl : L.length ≤ 1000) (r : Int × Int × Int × Int) (hr : Hid (parseP L = r)) (w : World) :
    Calls Tryd.prog 19 #[.string ⟨L.toArray⟩] w fun e w' => e = .returned (.tuple #[.int .i64 r.1, .int .i64 r.2.1, .agg #[.int .i64 r.2.2.1, .int .i64 r.2.2.2]]) ∧ Junk w w' := by
  have HG := Lib.hid (r_dig L hl)
  go_enter Tryd.func19, Tryd.ntmps19
  go_wp2_with fail
  go_loopw [5, 6] (fun y i wr => ∃ k : Nat, i = .int .i64 k ∧ k ≤ 4 ∧ GT L k ∧ y = .int .i64 (foldP L 0 k) ∧ wr = (w.alloc (.cells #[.int .i64 0, .int .i64 0] 30))) (fun _ i _ => 4 - (intOf i).toNat)
  case atStart => exact ⟨0, rfl, by omega, fun j hj => by omega, rfl, rfl⟩
  case round =>
    obtain ⟨k, rfl, hk, hgt, rfl, rfl⟩ := hrel
    have hds : ∀ i, i < k → Dig (byteAt L (0 + i)) := fun i hi => by have := (hgt i hi).2; rw [good_lt4 (by omega)] at this; simpa using this
    have hf := foldP_bd L 0 k hds hk k (Nat.le_refl _)
    have HGT := Lib.hid hgt
    have HDS := Lib.hid hds
    clear hgt hds
    by_cases hlt : k < 4
    · by_cases hg : k < L.length ∧ 48 ≤ byteAt L k ∧ byteAt L k ≤ 57
      · have D := Lib.hid (HG.out k (k : Int) 48 57 rfl 48 57 rfl rfl true (decide_eq_true hg))
        obtain ⟨g0, g1, g2⟩ := hg
        have f0 := hf.1
        have f1 : foldP L 0 k ≤ 999 := hf.2.2.1 (by omega)
        have HS := Lib.hid (show foldP L 0 (k + 1) = 10 * foldP L 0 k + ((byteAt L k : Int) - 48) by rw [foldP, Nat.zero_add])
        have HN := Lib.hid (HGT.out.succ g0 ((good_lt4 hlt).2 ⟨g1, g2⟩))
        clear hf
        generalize foldP L 0 k = s at *
        have e1 : IntKind.u8.wrap ((byteAt L k : Int) - 48) = (byteAt L k : Int) - 48 := by simp [IntKind.wrap, IntKind.signed, IntKind.bits]; omega
        go_wp2_with fail
        refine (D.out _).mono ?_; rintro e w' ⟨rfl, rfl⟩
        go_wp2_with fail
        go_roundw
        case rel => exact ⟨k + 1, by go_num, by omega, HN.out, by rw [HS.out], trivial⟩
        case measure => simp [intOf]; omega
      · have D := Lib.hid (HG.out k (k : Int) 48 57 rfl 48 57 rfl rfl false (decide_eq_false hg))
        have hr := hr.out
        rw [parse_bad (i := k) HGT.out (fun h => hg ⟨h.1, (good_lt4 hlt).1 h.2⟩) (by omega)] at hr
        subst hr
        clear hg
        go_wp2_with fail
        refine (D.out _).mono ?_; rintro e w' ⟨rfl, rfl⟩
        go_wp2
        refine bodyPost_ret (results_pf rfl _ _ w.heap.size #[.int .i64 4, .int .i64 k] rfl (by simp [go_sem]) rfl) rfl ⟨rfl, junk_of_below (by (repeat' (first | (with_reducible exact Below.refl _ _) | (with_reducible assumption) | (with_reducible refine Below.alloc ?_ ?_ _) | (with_reducible refine Below.drew ?_) | (with_reducible refine below_drewN ?_ _) | (with_reducible refine below_plus ?_ ?_ _ _) | (with_reducible refine Below.setCell ?_ ?_ _) | (with_reducible refine Below.setRow ?_ ?_ _) | go_size)))⟩
    · obtain rfl : k = 4 := by omega
      have hl4 : 4 ≤ L.length := (HGT.out 3 (by omega)).1
      obtain ⟨f0, f1, _⟩ := hf
      by_cases c4 : L.length = 4
      · have hr := hr.out
        rw [parse_ok HGT.out c4.symm (.inl rfl), show kOf L = 4 from if_pos c4, show nOf L = 1 from if_pos c4, show perY 4 = 1 from rfl] at hr
        have HM := Lib.hid (show ∀ w, Calls Tryd.prog 25 #[.int .i64 4] w fun e w' => e = .returned (.int .i64 12) ∧ w = w' from r_months 4)
        by_cases cy : foldP L 0 4 < 1
        · rw [if_pos (.inl cy)] at hr
          subst hr
          generalize foldP L 0 4 = y at *
          obtain rfl : y = 0 := by omega
          go_wp2
          refine bodyPost_ret (results_pf rfl _ _ w.heap.size #[.int .i64 5, .int .i64 0] rfl (by simp [go_sem]) rfl) rfl ⟨rfl, junk_of_below (by (repeat' (first | (with_reducible exact Below.refl _ _) | (with_reducible assumption) | (with_reducible refine Below.alloc ?_ ?_ _) | (with_reducible refine Below.drew ?_) | (with_reducible refine below_drewN ?_ _) | (with_reducible refine below_plus ?_ ?_ _ _) | (with_reducible refine Below.setCell ?_ ?_ _) | (with_reducible refine Below.setRow ?_ ?_ _) | go_size)))⟩
        · rw [if_neg (by omega)] at hr
          subst hr
          generalize hy : foldP L 0 4 = y at *
          have HY := Lib.hid hy
          clear hy
          have e1 : ((y - 1) * 12).tdiv 12 = y - 1 := by rw [Int.tdiv_eq_ediv_of_nonneg (by omega)]; omega
          have e2 : (y == 0) = false := beq_eq_false_iff_ne.2 (by omega)
          have w1 : IntKind.i64.wrap (y - 1) = y - 1 := by simp [IntKind.wrap, IntKind.signed, IntKind.bits]; omega
          have w2 : IntKind.i64.wrap ((y - 1) * 12) = (y - 1) * 12 := by simp [IntKind.wrap, IntKind.signed, IntKind.bits]; omega
          go_wp2_with fail
          go_region_with (go_at_call 25; refine (HM.out _).mono ?_; rintro e w' ⟨rfl, rfl⟩)
          all_goals go_wp2
          all_goals refine bodyPost_ret (results_pf rfl _ _ w.heap.size #[.int .i64 0, .int .i64 0] rfl (by simp [go_sem]) rfl) rfl ⟨?_, junk_of_below (by (repeat' (first | (with_reducible exact Below.refl _ _) | (with_reducible assumption) | (with_reducible refine Below.alloc ?_ ?_ _) | (with_reducible refine Below.drew ?_) | (with_reducible refine below_drewN ?_ _) | (with_reducible refine below_plus ?_ ?_ _ _) | (with_reducible refine Below.setCell ?_ ?_ _) | (with_reducible refine Below.setRow ?_ ?_ _) | go_size)))⟩
          all_goals exact ret_pf rfl (by have := HY.out; first | omega | (clear e6; simp [IntKind.wrap, IntKind.signed, IntKind.bits]; omega)) rfl rfl
      have c5 : 4 < L.length := by omega
      by_cases b4 : byteAt L 4 = 45
      case neg =>
        have e4 : ((byteAt L 4 : Int) != 45) = true := bne_iff_ne.2 (by omega)
        have hr := hr.out
        rw [parse_bad (i := 4) HGT.out (fun h => b4 (good_4.1 h.2)) (by omega)] at hr
        subst hr
        generalize foldP L 0 4 = y at *
        go_wp2
        refine bodyPost_ret (results_pf rfl _ _ w.heap.size #[.int .i64 4, .int .i64 4] rfl (by simp [go_sem]) rfl) rfl ⟨rfl, junk_of_below (by (repeat' (first | (with_reducible exact Below.refl _ _) | (with_reducible assumption) | (with_reducible refine Below.alloc ?_ ?_ _) | (with_reducible refine Below.drew ?_) | (with_reducible refine below_drewN ?_ _) | (with_reducible refine below_plus ?_ ?_ _ _) | (with_reducible refine Below.setCell ?_ ?_ _) | (with_reducible refine Below.setRow ?_ ?_ _) | go_size)))⟩
      have e4 : ((byteAt L 4 : Int) != 45) = false := by rw [b4]; rfl
      have HGT := Lib.hid (HGT.out.succ c5 (good_4.2 b4))
      by_cases c6 : 5 < L.length
      case neg =>
        have D1 := Lib.hid (HG.out 5 5 77 77 rfl 77 77 rfl rfl false (decide_eq_false (by omega)))
        have D2 := Lib.hid (HG.out 5 5 81 81 rfl 81 81 rfl rfl false (decide_eq_false (by omega)))
        have D3 := Lib.hid (HG.out 5 5 72 72 rfl 72 72 rfl rfl false (decide_eq_false (by omega)))
        have hr := hr.out
        rw [parse_bad (i := 5) HGT.out (fun h => c6 h.1) (by omega)] at hr
        subst hr
        generalize foldP L 0 4 = y at *
        go_wp2_with fail
        refine (D1.out _).mono ?_; rintro e w' ⟨rfl, rfl⟩
        go_wp2_with fail
        refine (D2.out _).mono ?_; rintro e w' ⟨rfl, rfl⟩
        go_wp2_with fail
        refine (D3.out _).mono ?_; rintro e w' ⟨rfl, rfl⟩
        go_wp2
        refine bodyPost_ret (results_pf rfl _ _ w.heap.size #[.int .i64 4, .int .i64 5] rfl (by simp [go_sem]) rfl) rfl ⟨rfl, junk_of_below (by (repeat' (first | (with_reducible exact Below.refl _ _) | (with_reducible assumption) | (with_reducible refine Below.alloc ?_ ?_ _) | (with_reducible refine Below.drew ?_) | (with_reducible refine below_drewN ?_ _) | (with_reducible refine below_plus ?_ ?_ _ _) | (with_reducible refine Below.setCell ?_ ?_ _) | (with_reducible refine Below.setRow ?_ ?_ _) | go_size)))⟩
      by_cases b77 : byteAt L 5 = 77
      · have hkd : kd (byteAt L 5) = 1 := by rw [b77]; rfl
        have D1 := Lib.hid (HG.out 5 5 77 77 rfl 77 77 rfl rfl true (decide_eq_true (by omega)))
        have HGT := Lib.hid (HGT.out.succ c6 (good_5.2 (by rw [hkd]; omega)))
        have g6 : ∀ i, 6 ≤ i → (Good L i ↔ i < 8 ∧ Dig (byteAt L i)) := fun i hi => by
          rw [good_6 hi, hkd, show dOf 1 = 2 from rfl]; exact ⟨fun h => ⟨h.1, h.2.1⟩, fun h => ⟨h.1, h.2, .inl rfl⟩⟩
        have hdo : dOf (kd (byteAt L 5)) = 2 := by rw [hkd]; rfl
        by_cases d6 : 6 < L.length ∧ 48 ≤ byteAt L 6 ∧ byteAt L 6 ≤ 57
        case neg =>
          have D2 := Lib.hid (HG.out 6 6 48 57 rfl 48 57 rfl rfl false (decide_eq_false d6))
          have hr := hr.out
          rw [parse_bad (i := 6) HGT.out (fun h => d6 ⟨h.1, ((g6 6 (by omega)).1 h.2).2⟩) (by rw [hdo]; omega)] at hr
          subst hr
          generalize foldP L 0 4 = y at *
          go_wp2_with fail
          refine (D1.out _).mono ?_; rintro e w' ⟨rfl, rfl⟩
          go_wp2_with fail
          refine (D2.out _).mono ?_; rintro e w' ⟨rfl, rfl⟩
          go_wp2
          refine bodyPost_ret (results_pf rfl _ _ w.heap.size #[.int .i64 4, .int .i64 6] rfl (by simp [go_sem]) rfl) rfl ⟨rfl, junk_of_below (by (repeat' (first | (with_reducible exact Below.refl _ _) | (with_reducible assumption) | (with_reducible refine Below.alloc ?_ ?_ _) | (with_reducible refine Below.drew ?_) | (with_reducible refine below_drewN ?_ _) | (with_reducible refine below_plus ?_ ?_ _ _) | (with_reducible refine Below.setCell ?_ ?_ _) | (with_reducible refine Below.setRow ?_ ?_ _) | go_size)))⟩
        have D2 := Lib.hid (HG.out 6 6 48 57 rfl 48 57 rfl rfl true (decide_eq_true d6))
        obtain ⟨c7, d60, d61⟩ := d6
        have HGT := Lib.hid (HGT.out.succ c7 ((g6 6 (by omega)).2 ⟨by omega, d60, d61⟩))
        have e6 : IntKind.u8.wrap ((byteAt L 6 : Int) - 48) = (byteAt L 6 : Int) - 48 := by simp [IntKind.wrap, IntKind.signed, IntKind.bits]; omega
        by_cases d7 : 7 < L.length ∧ 48 ≤ byteAt L 7 ∧ byteAt L 7 ≤ 57
        case neg =>
          have D3 := Lib.hid (HG.out 7 7 48 57 rfl 48 57 rfl rfl false (decide_eq_false d7))
          have hr := hr.out
          rw [parse_bad (i := 7) HGT.out (fun h => d7 ⟨h.1, ((g6 7 (by omega)).1 h.2).2⟩) (by rw [hdo]; omega)] at hr
          subst hr
          generalize foldP L 0 4 = y at *
          go_wp2_with fail
          refine (D1.out _).mono ?_; rintro e w' ⟨rfl, rfl⟩
          go_wp2_with fail
          refine (D2.out _).mono ?_; rintro e w' ⟨rfl, rfl⟩
          go_wp2_with fail
          refine (D3.out _).mono ?_; rintro e w' ⟨rfl, rfl⟩
          go_wp2
          refine bodyPost_ret (results_pf rfl _ _ w.heap.size #[.int .i64 4, .int .i64 7] rfl (by simp [go_sem]) rfl) rfl ⟨rfl, junk_of_below (by (repeat' (first | (with_reducible exact Below.refl _ _) | (with_reducible assumption) | (with_reducible refine Below.alloc ?_ ?_ _) | (with_reducible refine Below.drew ?_) | (with_reducible refine below_drewN ?_ _) | (with_reducible refine below_plus ?_ ?_ _ _) | (with_reducible refine Below.setCell ?_ ?_ _) | (with_reducible refine Below.setRow ?_ ?_ _) | go_size)))⟩
        have D3 := Lib.hid (HG.out 7 7 48 57 rfl 48 57 rfl rfl true (decide_eq_true d7))
        obtain ⟨c8, d70, d71⟩ := d7
        have HGT := Lib.hid (HGT.out.succ c8 ((g6 7 (by omega)).2 ⟨by omega, d70, d71⟩))
        have e7 : IntKind.u8.wrap ((byteAt L 7 : Int) - 48) = (byteAt L 7 : Int) - 48 := by simp [IntKind.wrap, IntKind.signed, IntKind.bits]; omega
        by_cases c9 : 8 < L.length
        · skip
          have hr := hr.out
          rw [parse_bad (i := 8) HGT.out (fun h => absurd ((g6 8 (by omega)).1 h.2).1 (by omega)) (by omega)] at hr
          subst hr
          generalize foldP L 0 4 = y at *
          go_wp2_with fail
          refine (D1.out _).mono ?_; rintro e w' ⟨rfl, rfl⟩
          go_wp2_with fail
          refine (D2.out _).mono ?_; rintro e w' ⟨rfl, rfl⟩
          go_wp2_with fail
          refine (D3.out _).mono ?_; rintro e w' ⟨rfl, rfl⟩
          go_wp2
          refine bodyPost_ret (results_pf rfl _ _ w.heap.size #[.int .i64 4, .int .i64 8] rfl (by simp [go_sem]) rfl) rfl ⟨rfl, junk_of_below (by (repeat' (first | (with_reducible exact Below.refl _ _) | (with_reducible assumption) | (with_reducible refine Below.alloc ?_ ?_ _) | (with_reducible refine Below.drew ?_) | (with_reducible refine below_drewN ?_ _) | (with_reducible refine below_plus ?_ ?_ _ _) | (with_reducible refine Below.setCell ?_ ?_ _) | (with_reducible refine Below.setRow ?_ ?_ _) | go_size)))⟩
        have hr := hr.out
        rw [parse_ok HGT.out (by omega) (.inr ⟨by omega, by rw [hdo]⟩), show kOf L = 1 by unfold kOf; rw [if_neg c4]; exact hkd, show nOf L = 10 * (10 * 0 + ((byteAt L 6 : Int) - 48)) + ((byteAt L 7 : Int) - 48) by unfold nOf; rw [if_neg c4, hdo]; rfl, show perY 1 = 12 from rfl] at hr
        have HM := Lib.hid (show ∀ w, Calls Tryd.prog 25 #[.int .i64 1] w fun e w' => e = .returned (.int .i64 1) ∧ w = w' from r_months 1)
        have c8' : L.length = 8 := by omega
        by_cases cy : foldP L 0 4 < 1
        · rw [if_pos (.inl cy)] at hr
          subst hr
          generalize foldP L 0 4 = y at *
          obtain rfl : y = 0 := by omega
          go_wp2_with fail
          refine (D1.out _).mono ?_; rintro e w' ⟨rfl, rfl⟩
          go_wp2_with fail
          refine (D2.out _).mono ?_; rintro e w' ⟨rfl, rfl⟩
          go_wp2_with fail
          refine (D3.out _).mono ?_; rintro e w' ⟨rfl, rfl⟩
          go_wp2
          refine bodyPost_ret (results_pf rfl _ _ w.heap.size #[.int .i64 5, .int .i64 0] rfl (by simp [go_sem]) rfl) rfl ⟨rfl, junk_of_below (by (repeat' (first | (with_reducible exact Below.refl _ _) | (with_reducible assumption) | (with_reducible refine Below.alloc ?_ ?_ _) | (with_reducible refine Below.drew ?_) | (with_reducible refine below_drewN ?_ _) | (with_reducible refine below_plus ?_ ?_ _ _) | (with_reducible refine Below.setCell ?_ ?_ _) | (with_reducible refine Below.setRow ?_ ?_ _) | go_size)))⟩
        have e2 : (foldP L 0 4 == 0) = false := beq_eq_false_iff_ne.2 (by omega)
        by_cases cn : 10 * (10 * 0 + ((byteAt L 6 : Int) - 48)) + ((byteAt L 7 : Int) - 48) < 1 ∨ 12 < 10 * (10 * 0 + ((byteAt L 6 : Int) - 48)) + ((byteAt L 7 : Int) - 48)
        · rw [if_pos (.inr cn)] at hr
          subst hr
          generalize foldP L 0 4 = y at *
          rcases cn with cn | cn
          · have cn1 : 10 * ((byteAt L 6 : Int) - 48) + ((byteAt L 7 : Int) - 48) - 1 < 0 := by omega
            go_wp2_with fail
            refine (D1.out _).mono ?_; rintro e w' ⟨rfl, rfl⟩
            go_wp2_with fail
            refine (D2.out _).mono ?_; rintro e w' ⟨rfl, rfl⟩
            go_wp2_with fail
            refine (D3.out _).mono ?_; rintro e w' ⟨rfl, rfl⟩
            go_wp2
            refine bodyPost_ret (results_pf rfl _ _ w.heap.size #[.int .i64 5, .int .i64 0] rfl (by simp [go_sem]) rfl) rfl ⟨rfl, junk_of_below (by (repeat' (first | (with_reducible exact Below.refl _ _) | (with_reducible assumption) | (with_reducible refine Below.alloc ?_ ?_ _) | (with_reducible refine Below.drew ?_) | (with_reducible refine below_drewN ?_ _) | (with_reducible refine below_plus ?_ ?_ _ _) | (with_reducible refine Below.setCell ?_ ?_ _) | (with_reducible refine Below.setRow ?_ ?_ _) | go_size)))⟩
          · have cn1 : 11 < 10 * ((byteAt L 6 : Int) - 48) + ((byteAt L 7 : Int) - 48) - 1 := by omega
            have cn2 : ¬ 10 * ((byteAt L 6 : Int) - 48) + ((byteAt L 7 : Int) - 48) - 1 < 0 := by omega
            go_wp2_with fail
            refine (D1.out _).mono ?_; rintro e w' ⟨rfl, rfl⟩
            go_wp2_with fail
            refine (D2.out _).mono ?_; rintro e w' ⟨rfl, rfl⟩
            go_wp2_with fail
            refine (D3.out _).mono ?_; rintro e w' ⟨rfl, rfl⟩
            go_wp2
            refine bodyPost_ret (results_pf rfl _ _ w.heap.size #[.int .i64 5, .int .i64 0] rfl (by simp [go_sem]) rfl) rfl ⟨rfl, junk_of_below (by (repeat' (first | (with_reducible exact Below.refl _ _) | (with_reducible assumption) | (with_reducible refine Below.alloc ?_ ?_ _) | (with_reducible refine Below.drew ?_) | (with_reducible refine below_drewN ?_ _) | (with_reducible refine below_plus ?_ ?_ _ _) | (with_reducible refine Below.setCell ?_ ?_ _) | (with_reducible refine Below.setRow ?_ ?_ _) | go_size)))⟩
        · rw [if_neg (fun h => h.elim cy cn)] at hr
          subst hr
          generalize hy : foldP L 0 4 = y at *
          have HY := Lib.hid hy
          clear hy
          have cn1 : ¬ 10 * ((byteAt L 6 : Int) - 48) + ((byteAt L 7 : Int) - 48) - 1 < 0 := by omega
          have cn2 : ¬ 11 < 10 * ((byteAt L 6 : Int) - 48) + ((byteAt L 7 : Int) - 48) - 1 := by omega
          have e1 : ((y - 1) * 12).tdiv 1 = (y - 1) * 12 := by rw [Int.tdiv_eq_ediv_of_nonneg (by omega)]; omega
          have w1 : IntKind.i64.wrap (y - 1) = y - 1 := by simp [IntKind.wrap, IntKind.signed, IntKind.bits]; omega
          have w2 : IntKind.i64.wrap ((y - 1) * 12) = (y - 1) * 12 := by simp [IntKind.wrap, IntKind.signed, IntKind.bits]; omega
          go_wp2_with fail
          refine (D1.out _).mono ?_; rintro e w' ⟨rfl, rfl⟩
          go_wp2_with fail
          refine (D2.out _).mono ?_; rintro e w' ⟨rfl, rfl⟩
          go_wp2_with fail
          refine (D3.out _).mono ?_; rintro e w' ⟨rfl, rfl⟩
          go_wp2_with fail
          go_region_with (go_at_call 25; refine (HM.out _).mono ?_; rintro e w' ⟨rfl, rfl⟩)
          all_goals go_wp2
          all_goals refine bodyPost_ret (results_pf rfl _ _ w.heap.size #[.int .i64 0, .int .i64 0] rfl (by simp [go_sem]) rfl) rfl ⟨?_, junk_of_below (by (repeat' (first | (with_reducible exact Below.refl _ _) | (with_reducible assumption) | (with_reducible refine Below.alloc ?_ ?_ _) | (with_reducible refine Below.drew ?_) | (with_reducible refine below_drewN ?_ _) | (with_reducible refine below_plus ?_ ?_ _ _) | (with_reducible refine Below.setCell ?_ ?_ _) | (with_reducible refine Below.setRow ?_ ?_ _) | go_size)))⟩
          all_goals exact ret_pf rfl (by have := HY.out; first | omega | (clear e6; simp [IntKind.wrap, IntKind.signed, IntKind.bits]; omega)) rfl rfl
      have D1 := Lib.hid (HG.out 5 5 77 77 rfl 77 77 rfl rfl false (decide_eq_false (by omega)))
      by_cases b81 : byteAt L 5 = 81
      · have hkd : kd (byteAt L 5) = 2 := by rw [b81]; rfl
        have D2 := Lib.hid (HG.out 5 5 81 81 rfl 81 81 rfl rfl true (decide_eq_true (by omega)))
        have HGT := Lib.hid (HGT.out.succ c6 (good_5.2 (by rw [hkd]; omega)))
        have g6 : ∀ i, 6 ≤ i → (Good L i ↔ i < 7 ∧ 49 ≤ byteAt L i ∧ byteAt L i ≤ 52) := fun i hi => by
          rw [good_6 hi, hkd, show dOf 2 = 1 from rfl, show perY 2 = 4 from rfl]; unfold Dig; omega
        have hdo : dOf (kd (byteAt L 5)) = 1 := by rw [hkd]; rfl
        by_cases d6 : 6 < L.length ∧ 49 ≤ byteAt L 6 ∧ byteAt L 6 ≤ 52
        case neg =>
          have D4 := Lib.hid (HG.out 6 6 49 52 rfl 49 52 rfl rfl false (decide_eq_false d6))
          have hr := hr.out
          rw [parse_bad (i := 6) HGT.out (fun h => d6 ⟨h.1, ((g6 6 (by omega)).1 h.2).2⟩) (by rw [hdo]; omega)] at hr
          subst hr
          generalize foldP L 0 4 = y at *
          go_wp2_with fail
          refine (D1.out _).mono ?_; rintro e w' ⟨rfl, rfl⟩
          go_wp2_with fail
          refine (D2.out _).mono ?_; rintro e w' ⟨rfl, rfl⟩
          go_wp2_with fail
          refine (D4.out _).mono ?_; rintro e w' ⟨rfl, rfl⟩
          go_wp2
          refine bodyPost_ret (results_pf rfl _ _ w.heap.size #[.int .i64 4, .int .i64 6] rfl (by simp [go_sem]) rfl) rfl ⟨rfl, junk_of_below (by (repeat' (first | (with_reducible exact Below.refl _ _) | (with_reducible assumption) | (with_reducible refine Below.alloc ?_ ?_ _) | (with_reducible refine Below.drew ?_) | (with_reducible refine below_drewN ?_ _) | (with_reducible refine below_plus ?_ ?_ _ _) | (with_reducible refine Below.setCell ?_ ?_ _) | (with_reducible refine Below.setRow ?_ ?_ _) | go_size)))⟩
        have D4 := Lib.hid (HG.out 6 6 49 52 rfl 49 52 rfl rfl true (decide_eq_true d6))
        obtain ⟨c7, d60, d61⟩ := d6
        have HGT := Lib.hid (HGT.out.succ c7 ((g6 6 (by omega)).2 ⟨by omega, d60, d61⟩))
        have e6 : IntKind.u8.wrap ((byteAt L 6 : Int) - 48) = (byteAt L 6 : Int) - 48 := by simp [IntKind.wrap, IntKind.signed, IntKind.bits]; omega
        by_cases c9 : 7 < L.length
        · skip
          have hr := hr.out
          rw [parse_bad (i := 7) HGT.out (fun h => absurd ((g6 7 (by omega)).1 h.2).1 (by omega)) (by omega)] at hr
          subst hr
          generalize foldP L 0 4 = y at *
          go_wp2_with fail
          refine (D1.out _).mono ?_; rintro e w' ⟨rfl, rfl⟩
          go_wp2_with fail
          refine (D2.out _).mono ?_; rintro e w' ⟨rfl, rfl⟩
          go_wp2_with fail
          refine (D4.out _).mono ?_; rintro e w' ⟨rfl, rfl⟩
          go_wp2
          refine bodyPost_ret (results_pf rfl _ _ w.heap.size #[.int .i64 4, .int .i64 7] rfl (by simp [go_sem]) rfl) rfl ⟨rfl, junk_of_below (by (repeat' (first | (with_reducible exact Below.refl _ _) | (with_reducible assumption) | (with_reducible refine Below.alloc ?_ ?_ _) | (with_reducible refine Below.drew ?_) | (with_reducible refine below_drewN ?_ _) | (with_reducible refine below_plus ?_ ?_ _ _) | (with_reducible refine Below.setCell ?_ ?_ _) | (with_reducible refine Below.setRow ?_ ?_ _) | go_size)))⟩
        have hr := hr.out
        rw [parse_ok HGT.out (by omega) (.inr ⟨by omega, by rw [hdo]⟩), show kOf L = 2 by unfold kOf; rw [if_neg c4]; exact hkd, show nOf L = 10 * 0 + ((byteAt L 6 : Int) - 48) by unfold nOf; rw [if_neg c4, hdo]; rfl, show perY 2 = 4 from rfl] at hr
        have HM := Lib.hid (show ∀ w, Calls Tryd.prog 25 #[.int .i64 2] w fun e w' => e = .returned (.int .i64 3) ∧ w = w' from r_months 2)
        have c8' : L.length = 7 := by omega
        have cn1 : ¬ ((byteAt L 6 : Int) - 48) - 1 < 0 := by omega
        have cn2 : ¬ 11 < ((byteAt L 6 : Int) - 48) - 1 := by omega
        by_cases cy : foldP L 0 4 < 1
        · rw [if_pos (.inl cy)] at hr
          subst hr
          generalize foldP L 0 4 = y at *
          obtain rfl : y = 0 := by omega
          go_wp2_with fail
          refine (D1.out _).mono ?_; rintro e w' ⟨rfl, rfl⟩
          go_wp2_with fail
          refine (D2.out _).mono ?_; rintro e w' ⟨rfl, rfl⟩
          go_wp2_with fail
          refine (D4.out _).mono ?_; rintro e w' ⟨rfl, rfl⟩
          go_wp2
          refine bodyPost_ret (results_pf rfl _ _ w.heap.size #[.int .i64 5, .int .i64 0] rfl (by simp [go_sem]) rfl) rfl ⟨rfl, junk_of_below (by (repeat' (first | (with_reducible exact Below.refl _ _) | (with_reducible assumption) | (with_reducible refine Below.alloc ?_ ?_ _) | (with_reducible refine Below.drew ?_) | (with_reducible refine below_drewN ?_ _) | (with_reducible refine below_plus ?_ ?_ _ _) | (with_reducible refine Below.setCell ?_ ?_ _) | (with_reducible refine Below.setRow ?_ ?_ _) | go_size)))⟩
        · have e2 : (foldP L 0 4 == 0) = false := beq_eq_false_iff_ne.2 (by omega)
          rw [if_neg (by omega)] at hr
          subst hr
          generalize hy : foldP L 0 4 = y at *
          have HY := Lib.hid hy
          clear hy
          have e1 : ((y - 1) * 12).tdiv 3 = (y - 1) * 4 := by rw [Int.tdiv_eq_ediv_of_nonneg (by omega)]; omega
          have w1 : IntKind.i64.wrap (y - 1) = y - 1 := by simp [IntKind.wrap, IntKind.signed, IntKind.bits]; omega
          have w2 : IntKind.i64.wrap ((y - 1) * 12) = (y - 1) * 12 := by simp [IntKind.wrap, IntKind.signed, IntKind.bits]; omega
          have w3 : IntKind.i64.wrap ((y - 1) * 4) = (y - 1) * 4 := by simp [IntKind.wrap, IntKind.signed, IntKind.bits]; omega
          go_wp2_with fail
          refine (D1.out _).mono ?_; rintro e w' ⟨rfl, rfl⟩
          go_wp2_with fail
          refine (D2.out _).mono ?_; rintro e w' ⟨rfl, rfl⟩
          go_wp2_with fail
          refine (D4.out _).mono ?_; rintro e w' ⟨rfl, rfl⟩
          go_wp2_with fail
          go_region_with (go_at_call 25; refine (HM.out _).mono ?_; rintro e w' ⟨rfl, rfl⟩)
          all_goals go_wp2
          all_goals refine bodyPost_ret (results_pf rfl _ _ w.heap.size #[.int .i64 0, .int .i64 0] rfl (by simp [go_sem]) rfl) rfl ⟨?_, junk_of_below (by (repeat' (first | (with_reducible exact Below.refl _ _) | (with_reducible assumption) | (with_reducible refine Below.alloc ?_ ?_ _) | (with_reducible refine Below.drew ?_) | (with_reducible refine below_drewN ?_ _) | (with_reducible refine below_plus ?_ ?_ _ _) | (with_reducible refine Below.setCell ?_ ?_ _) | (with_reducible refine Below.setRow ?_ ?_ _) | go_size)))⟩
          all_goals exact ret_pf rfl (by have := HY.out; first | omega | (clear e6; simp [IntKind.wrap, IntKind.signed, IntKind.bits]; omega)) rfl rfl
      have D2 := Lib.hid (HG.out 5 5 81 81 rfl 81 81 rfl rfl false (decide_eq_false (by omega)))
      by_cases b72 : byteAt L 5 = 72
      · have hkd : kd (byteAt L 5) = 3 := by rw [b72]; rfl
        have D3 := Lib.hid (HG.out 5 5 72 72 rfl 72 72 rfl rfl true (decide_eq_true (by omega)))
        have HGT := Lib.hid (HGT.out.succ c6 (good_5.2 (by rw [hkd]; omega)))
        have g6 : ∀ i, 6 ≤ i → (Good L i ↔ i < 7 ∧ 49 ≤ byteAt L i ∧ byteAt L i ≤ 50) := fun i hi => by
          rw [good_6 hi, hkd, show dOf 3 = 1 from rfl, show perY 3 = 2 from rfl]; unfold Dig; omega
        have hdo : dOf (kd (byteAt L 5)) = 1 := by rw [hkd]; rfl
        by_cases d6 : 6 < L.length ∧ 49 ≤ byteAt L 6 ∧ byteAt L 6 ≤ 50
        case neg =>
          have D4 := Lib.hid (HG.out 6 6 49 50 rfl 49 50 rfl rfl false (decide_eq_false d6))
          have hr := hr.out
          rw [parse_bad (i := 6) HGT.out (fun h => d6 ⟨h.1, ((g6 6 (by omega)).1 h.2).2⟩) (by rw [hdo]; omega)] at hr
          subst hr
          generalize foldP L 0 4 = y at *
          go_wp2_with fail
          refine (D1.out _).mono ?_; rintro e w' ⟨rfl, rfl⟩
          go_wp2_with fail
          refine (D2.out _).mono ?_; rintro e w' ⟨rfl, rfl⟩
          go_wp2_with fail
          refine (D3.out _).mono ?_; rintro e w' ⟨rfl, rfl⟩
          go_wp2_with fail
          refine (D4.out _).mono ?_; rintro e w' ⟨rfl, rfl⟩
          go_wp2
          refine bodyPost_ret (results_pf rfl _ _ w.heap.size #[.int .i64 4, .int .i64 6] rfl (by simp [go_sem]) rfl) rfl ⟨rfl, junk_of_below (by (repeat' (first | (with_reducible exact Below.refl _ _) | (with_reducible assumption) | (with_reducible refine Below.alloc ?_ ?_ _) | (with_reducible refine Below.drew ?_) | (with_reducible refine below_drewN ?_ _) | (with_reducible refine below_plus ?_ ?_ _ _) | (with_reducible refine Below.setCell ?_ ?_ _) | (with_reducible refine Below.setRow ?_ ?_ _) | go_size)))⟩
        have D4 := Lib.hid (HG.out 6 6 49 50 rfl 49 50 rfl rfl true (decide_eq_true d6))
        obtain ⟨c7, d60, d61⟩ := d6
        have HGT := Lib.hid (HGT.out.succ c7 ((g6 6 (by omega)).2 ⟨by omega, d60, d61⟩))
        have e6 : IntKind.u8.wrap ((byteAt L 6 : Int) - 48) = (byteAt L 6 : Int) - 48 := by simp [IntKind.wrap, IntKind.signed, IntKind.bits]; omega
        by_cases c9 : 7 < L.length
        · skip
          have hr := hr.out
          rw [parse_bad (i := 7) HGT.out (fun h => absurd ((g6 7 (by omega)).1 h.2).1 (by omega)) (by omega)] at hr
          subst hr
          generalize foldP L 0 4 = y at *
          go_wp2_with fail
          refine (D1.out _).mono ?_; rintro e w' ⟨rfl, rfl⟩
          go_wp2_with fail
          refine (D2.out _).mono ?_; rintro e w' ⟨rfl, rfl⟩
          go_wp2_with fail
          refine (D3.out _).mono ?_; rintro e w' ⟨rfl, rfl⟩
          go_wp2_with fail
          refine (D4.out _).mono ?_; rintro e w' ⟨rfl, rfl⟩
          go_wp2
          refine bodyPost_ret (results_pf rfl _ _ w.heap.size #[.int .i64 4, .int .i64 7] rfl (by simp [go_sem]) rfl) rfl ⟨rfl, junk_of_below (by (repeat' (first | (with_reducible exact Below.refl _ _) | (with_reducible assumption) | (with_reducible refine Below.alloc ?_ ?_ _) | (with_reducible refine Below.drew ?_) | (with_reducible refine below_drewN ?_ _) | (with_reducible refine below_plus ?_ ?_ _ _) | (with_reducible refine Below.setCell ?_ ?_ _) | (with_reducible refine Below.setRow ?_ ?_ _) | go_size)))⟩
        have hr := hr.out
        rw [parse_ok HGT.out (by omega) (.inr ⟨by omega, by rw [hdo]⟩), show kOf L = 3 by unfold kOf; rw [if_neg c4]; exact hkd, show nOf L = 10 * 0 + ((byteAt L 6 : Int) - 48) by unfold nOf; rw [if_neg c4, hdo]; rfl, show perY 3 = 2 from rfl] at hr
        have HM := Lib.hid (show ∀ w, Calls Tryd.prog 25 #[.int .i64 3] w fun e w' => e = .returned (.int .i64 6) ∧ w = w' from r_months 3)
        have c8' : L.length = 7 := by omega
        have cn1 : ¬ ((byteAt L 6 : Int) - 48) - 1 < 0 := by omega
        have cn2 : ¬ 11 < ((byteAt L 6 : Int) - 48) - 1 := by omega
        by_cases cy : foldP L 0 4 < 1
        · rw [if_pos (.inl cy)] at hr
          subst hr
          generalize foldP L 0 4 = y at *
          obtain rfl : y = 0 := by omega
          go_wp2_with fail
          refine (D1.out _).mono ?_; rintro e w' ⟨rfl, rfl⟩
          go_wp2_with fail
          refine (D2.out _).mono ?_; rintro e w' ⟨rfl, rfl⟩
          go_wp2_with fail
          refine (D3.out _).mono ?_; rintro e w' ⟨rfl, rfl⟩
          go_wp2_with fail
          refine (D4.out _).mono ?_; rintro e w' ⟨rfl, rfl⟩
          go_wp2
          refine bodyPost_ret (results_pf rfl _ _ w.heap.size #[.int .i64 5, .int .i64 0] rfl (by simp [go_sem]) rfl) rfl ⟨rfl, junk_of_below (by (repeat' (first | (with_reducible exact Below.refl _ _) | (with_reducible assumption) | (with_reducible refine Below.alloc ?_ ?_ _) | (with_reducible refine Below.drew ?_) | (with_reducible refine below_drewN ?_ _) | (with_reducible refine below_plus ?_ ?_ _ _) | (with_reducible refine Below.setCell ?_ ?_ _) | (with_reducible refine Below.setRow ?_ ?_ _) | go_size)))⟩
        · have e2 : (foldP L 0 4 == 0) = false := beq_eq_false_iff_ne.2 (by omega)
          rw [if_neg (by omega)] at hr
          subst hr
          generalize hy : foldP L 0 4 = y at *
          have HY := Lib.hid hy
          clear hy
          have e1 : ((y - 1) * 12).tdiv 6 = (y - 1) * 2 := by rw [Int.tdiv_eq_ediv_of_nonneg (by omega)]; omega
          have w1 : IntKind.i64.wrap (y - 1) = y - 1 := by simp [IntKind.wrap, IntKind.signed, IntKind.bits]; omega
          have w2 : IntKind.i64.wrap ((y - 1) * 12) = (y - 1) * 12 := by simp [IntKind.wrap, IntKind.signed, IntKind.bits]; omega
          have w3 : IntKind.i64.wrap ((y - 1) * 2) = (y - 1) * 2 := by simp [IntKind.wrap, IntKind.signed, IntKind.bits]; omega
          go_wp2_with fail
          refine (D1.out _).mono ?_; rintro e w' ⟨rfl, rfl⟩
          go_wp2_with fail
          refine (D2.out _).mono ?_; rintro e w' ⟨rfl, rfl⟩
          go_wp2_with fail
          refine (D3.out _).mono ?_; rintro e w' ⟨rfl, rfl⟩
          go_wp2_with fail
          refine (D4.out _).mono ?_; rintro e w' ⟨rfl, rfl⟩
          go_wp2_with fail
          go_region_with (go_at_call 25; refine (HM.out _).mono ?_; rintro e w' ⟨rfl, rfl⟩)
          all_goals go_wp2
          all_goals refine bodyPost_ret (results_pf rfl _ _ w.heap.size #[.int .i64 0, .int .i64 0] rfl (by simp [go_sem]) rfl) rfl ⟨?_, junk_of_below (by (repeat' (first | (with_reducible exact Below.refl _ _) | (with_reducible assumption) | (with_reducible refine Below.alloc ?_ ?_ _) | (with_reducible refine Below.drew ?_) | (with_reducible refine below_drewN ?_ _) | (with_reducible refine below_plus ?_ ?_ _ _) | (with_reducible refine Below.setCell ?_ ?_ _) | (with_reducible refine Below.setRow ?_ ?_ _) | go_size)))⟩
          all_goals exact ret_pf rfl (by have := HY.out; first | omega | (clear e6; simp [IntKind.wrap, IntKind.signed, IntKind.bits]; omega)) rfl rfl
      have D3 := Lib.hid (HG.out 5 5 72 72 rfl 72 72 rfl rfl false (decide_eq_false (by omega)))
      have hkd : kd (byteAt L 5) = 0 := by unfold kd; rw [if_neg b77, if_neg b81, if_neg b72]
      have hr := hr.out
      rw [parse_bad (i := 5) HGT.out (fun h => good_5.1 h.2 hkd) (by omega)] at hr
      subst hr
      generalize foldP L 0 4 = y at *
      go_wp2_with fail
      refine (D1.out _).mono ?_; rintro e w' ⟨rfl, rfl⟩
      go_wp2_with fail
      refine (D2.out _).mono ?_; rintro e w' ⟨rfl, rfl⟩
      go_wp2_with fail
      refine (D3.out _).mono ?_; rintro e w' ⟨rfl, rfl⟩
      go_wp2
      refine bodyPost_ret (results_pf rfl _ _ w.heap.size #[.int .i64 4, .int .i64 5] rfl (by simp [go_sem]) rfl) rfl ⟨rfl, junk_of_below (by (repeat' (first | (with_reducible exact Below.refl _ _) | (with_reducible assumption) | (with_reducible refine Below.alloc ?_ ?_ _) | (with_reducible refine Below.drew ?_) | (with_reducible refine below_drewN ?_ _) | (with_reducible refine below_plus ?_ ?_ _ _) | (with_reducible refine Below.setCell ?_ ?_ _) | (with_reducible refine Below.setRow ?_ ?_ _) | go_size)))⟩
end Go.Proofs.YtlbbampmonkleaaDoor

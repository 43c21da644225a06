/- The law RingEdges: the walk. -/
import Derived.Test.YtmofejcafbjlnaaRiQ
namespace Go.Proofs.Ytmofejcafbjlnaa
set_option linter.unusedVariables false
set_option linter.unusedSimpArgs false
open Go.RowKit

theorem getD_round {K : List Pt} {i : Nat} (hn : 0 < K.length) : K.getD ((i + 1) % K.length) (0, 0) = cyc K ((i : Int) + 1) := by
  rw [← cyc_nat (Nat.mod_lt _ hn)]
  refine cyc_mod ?_
  rw [show (((i + 1) % K.length : Nat) : Int) = ((i : Int) + 1) % (K.length : Int) by simp, Int.emod_emod]
theorem edge_how {K : List Pt} (h : fineQ K) {i k : Nat} (hik : i < k) (hk : k < K.length) :
    meetQ (K.getD i (0, 0)) (K.getD ((i + 1) % K.length) (0, 0)) (K.getD k (0, 0)) (K.getD ((k + 1) % K.length) (0, 0)) = if k = i + 1 ∨ (i = 0 ∧ k = K.length - 1) then 1 else 0 := by
  have hn := h.few
  rw [getD_round (by omega), getD_round (by omega), ← cyc_nat (K := K) (k := i) (by omega), ← cyc_nat hk]
  by_cases h1 : k = i + 1
  · rw [if_pos (.inl h1)]
    have := edge_next h ((i : Int) + 1)
    rw [show (i : Int) + 1 - 1 = (i : Int) by omega] at this
    subst h1
    exact this
  by_cases h2 : i = 0 ∧ k = K.length - 1
  · rw [if_pos (.inr h2)]
    obtain ⟨rfl, h2⟩ := h2
    have := edge_next h 0
    rw [meet_swap, cyc_mod (i := (k : Int)) (j := 0 - 1) (by rw [show (k : Int) = 0 - 1 + (K.length : Int) by omega, Int.add_emod_right]), cyc_mod (i := (k : Int) + 1) (j := 0) (by rw [show (k : Int) + 1 = 0 + (K.length : Int) by omega, Int.add_emod_right])]
    exact this
  · rw [if_neg (by omega)]
    refine edge_far h ?_
    unfold farC
    rw [Int.emod_eq_of_lt (by omega) (by omega)]
    omega
theorem pt_ne {u v x y : Int} (h : (u, v) ≠ (x, y)) (w : World) : (binOp .eql 39 (.agg #[.int .i64 u, .int .i64 v]) (.agg #[.int .i64 x, .int .i64 y])).run Try.prog w = .ok (.bool false) w := by
  by_cases h1 : u = x
  · subst h1
    have h2 : (v == y) = false := by rw [beq_eq_false_iff_ne]; exact fun e => h (by rw [e])
    clear h
    go_simp
  · have h2 : (u == x) = false := by rw [beq_eq_false_iff_ne]; exact h1
    clear h h1
    go_simp
def EeAt (w : World) (n : Nat) (x : Value) (wr : World) : Prop := ∃ i : Nat, x = .int .i64 (i : Int) ∧ i ≤ n ∧ Cls w wr
def EkAt (w : World) (n i : Nat) (x : Value) (wr : World) : Prop := ∃ k : Nat, x = .int .i64 (k : Int) ∧ i < k ∧ (k ≤ n ∨ k = i + 1) ∧ Cls w wr
set_option maxRecDepth 100000 in
set_option maxHeartbeats 8000000 in
theorem edges_in (w : World) (a : Option Addr) (n ca : Nat) (K : List Pt) (hK : PRC w a n ca K) (h1 : n ≤ 60) (hf : fineQ K) :
    Calls Try.prog 7 #[.slice a n ca] w fun e w' => e = .returned (.bool true) ∧ Junk w w' := by
  have HAw := Lib.hid l_rgAwake
  have HC := Lib.hid (fun w' h => ck_is K (0, 0) (check_at (check_fine.2 hf)) n (by omega) w' a ca h)
  simp only at HC
  have HK := Lib.hid hK
  have l1 := hK.rd.1
  have hn := hf.few
  have HF := Lib.hid hf
  have HKK := Lib.hid hK.rd.2
  have L1 := Lib.hid l1
  have hfl := fld_err
  have i60 : ¬ (60 : Int) < (n : Int) := by omega
  have i3 : (3 : Int) ≤ (n : Int) := by omega
  have n0 : ((n : Int) == 0) = false := by rw [beq_eq_false_iff_ne]; omega
  clear hK hf
  go_enter Try.func7, Try.ntmps7
  go_wp2_with (first
    | (go_at_call 24; refine (HAw.out _).mono ?_; rintro e w1 ⟨rfl, J3, d3, rfl⟩)
    | (go_at_call 14; refine (HC.out _ (HK.out.below (by (repeat' (first | (with_reducible exact Below.refl _ _) | (with_reducible assumption) | (with_reducible refine Below.alloc ?_ ?_ _) | (with_reducible refine Below.drew ?_) | (with_reducible refine below_drewN ?_ _) | (with_reducible refine below_plus ?_ ?_ _ _) | (with_reducible refine Below.setCell ?_ ?_ _) | (with_reducible refine Below.setRow ?_ ?_ _) | go_size))))).mono ?_; rintro e w1 ⟨rfl, J2, d2, rfl⟩))
  go_loopw [5] (fun x wr => EeAt w n x wr) (fun x _ => n - (intOf x).toNat)
  case atStart => exact ⟨0, rfl, by omega, _, _, rfl⟩
  case round =>
    obtain ⟨i, rfl, i1, J, d, rfl⟩ := hrel
    by_cases hin : i < n
    · have i2 : (i : Int) < (n : Int) := by omega
      go_wp2_with fail
      go_loopw [6] (fun x wr => EkAt w n i x wr) (fun x _ => n - (intOf x).toNat)
      case atStart => exact ⟨i + 1, by go_num, by omega, .inr rfl, J, d, rfl⟩
      case round =>
        obtain ⟨k, rfl, k1, k2, J2, d2, rfl⟩ := hrel
        by_cases hkn : k < n
        · have k3 : (k : Int) < (n : Int) := by omega
          rcases HKK.out with h | ⟨b, o, rfl, hc⟩
          · omega
          obtain ⟨p, hp⟩ : ∃ p, (i + 1) % n = p := ⟨_, rfl⟩
          obtain ⟨q, hq⟩ : ∃ q, (k + 1) % n = q := ⟨_, rfl⟩
          have hp' : p < n := by rw [← hp]; exact Nat.mod_lt _ (by omega)
          have hq' : q < n := by rw [← hq]; exact Nat.mod_lt _ (by omega)
          have ep : ((i : Int) + 1) % (n : Int) = (p : Int) := by rw [← hp]; simp
          have eq : ((k : Int) + 1) % (n : Int) = (q : Int) := by rw [← hq]; simp
          have tp : ((i : Int) + 1).tmod (n : Int) = (p : Int) := by rw [Int.tmod_eq_emod_of_nonneg (by omega), ep]
          have tq : ((k : Int) + 1).tmod (n : Int) = (q : Int) := by rw [Int.tmod_eq_emod_of_nonneg (by omega), eq]
          have hh := edge_how HF.out k1 (by rw [L1.out]; exact hkn)
          rw [L1.out, hp, hq] at hh
          have hne : K.getD i (0, 0) ≠ K.getD k (0, 0) := (twice_iff (by rw [L1.out]; exact hkn)).1 (HF.out.once k (by rw [L1.out]; exact hkn)) i k1
          obtain ⟨a0, a1⟩ := hc i hin
          obtain ⟨b0, b1⟩ := hc p hp'
          obtain ⟨c0, c1⟩ := hc k hkn
          obtain ⟨d0, d1⟩ := hc q hq'
          generalize K.getD i (0, 0) = A at *
          generalize K.getD p (0, 0) = B at *
          generalize K.getD k (0, 0) = C at *
          generalize K.getD q (0, 0) = D at *
          obtain ⟨ax, ay⟩ := A
          obtain ⟨bx, by_⟩ := B
          obtain ⟨cx, cy⟩ := C
          obtain ⟨dx, dy⟩ := D
          simp only at a0 a1 b0 b1 c0 c1 d0 d1
          have HM := Lib.hid (fun w' => n_crMeets ax ay bx by_ cx cy dx dy w')
          rw [hh] at HM
          unfold pt at HM
          have HT := Lib.hid (fun w' => pt_ne hne w')
          have hb : b < w.heap.size := World.block_lt_of_cell? _ _ a0
          have p3 : (p : Int) < (n : Int) := by omega
          have q3 : (q : Int) < (n : Int) := by omega
          have s1 : IntKind.i64.wrap ((i : Int) + 1) = (i : Int) + 1 := by simp [IntKind.wrap, IntKind.signed, IntKind.bits]; omega
          have s2 : IntKind.i64.wrap ((k : Int) + 1) = (k : Int) + 1 := by simp [IntKind.wrap, IntKind.signed, IntKind.bits]; omega
          have s3 : IntKind.i64.wrap (p : Int) = (p : Int) := by simp [IntKind.wrap, IntKind.signed, IntKind.bits]; omega
          have s4 : IntKind.i64.wrap (q : Int) = (q : Int) := by simp [IntKind.wrap, IntKind.signed, IntKind.bits]; omega
          have nn : ¬ n = 0 := by omega
          obtain ⟨nx, hnx⟩ : ∃ nx : Bool, nx = decide (k = i + 1 ∨ (i = 0 ∧ k = n - 1)) := ⟨_, rfl⟩
          obtain ⟨r, hr⟩ : ∃ r : Int, (if k = i + 1 ∨ (i = 0 ∧ k = n - 1) then (1 : Int) else 0) = r := ⟨_, rfl⟩
          rw [hr] at HM
          have HR := Lib.hid (show (nx = true ∧ r = 1) ∨ (nx = false ∧ r = 0) by
            rw [hnx, ← hr]
            by_cases hx : k = i + 1 ∨ (i = 0 ∧ k = n - 1)
            · left; rw [if_pos hx]; exact ⟨decide_eq_true hx, rfl⟩
            · right; rw [if_neg hx]; exact ⟨decide_eq_false hx, rfl⟩)
          have HNX := Lib.hid hnx
          clear hc hh hne hp hq hr hnx
          go_upto_region 11 with fail
          go_cut [7] from 34 to 56 (fun x wx => x = .int .i64 r ∧ Cls w wx)
          case first =>
            refine region_quiet_all (C := Cls w) (by kernel_rfl) (by kernel_rfl) ⟨_, _, rfl⟩ ?_
            repeat (first | (refine qw_skip (by rfl) ?_; simp only [Act.put, List.setIfInBounds_toArray, List.set_cons_succ, List.set_cons_zero]) | (refine qw_want (by rfl) (fun K hK => ?_); go_simp; first | (refine hK _ ?_; clear hK K) | (apply Exists.intro; refine ⟨?_, hK _ ?_⟩; (rintro w3_ ⟨J3_, d3_, rfl⟩; first | (with_reducible exact rfl) | (go_simp; with_reducible exact rfl) | (go_simp; (first | (with_reducible refine (HM.out _).mono ?_)); rintro e_ w_ ⟨rfl, J4_, d4_, rfl⟩; exact ⟨rfl, J3_ ++ J4_, d4_, by simp only [plus_plus, Array.append_assoc]⟩)); clear hK K)))
            refine qw_nil ?_
            rintro w3 ⟨J8, d8, rfl⟩
            go_wp2_with fail
            go_meet
            case rel => exact ⟨rfl, _, _, rfl⟩
          case rest =>
          obtain ⟨rfl, J7, d7, rfl⟩ := hcut
          go_upto_region 12 with fail
          go_cut [8] from 57 to 70 (fun x wx => x = .bool nx ∧ Cls w wx)
          case first =>
            by_cases h5 : k = i + 1
            · have HE := Lib.hid (show nx = true by rw [HNX.out]; exact decide_eq_true (.inl h5))
              have e1 : ((k : Int) == (i : Int) + 1) = true := by rw [beq_iff_eq]; omega
              clear h5
              go_wp2_with fail
              go_meet
              case rel => exact ⟨by rw [HE.out], _, _, rfl⟩
            have e1 : ((k : Int) == (i : Int) + 1) = false := by rw [beq_eq_false_iff_ne]; omega
            by_cases h6 : i = 0
            · have e2 : ((i : Int) == 0) = true := by rw [beq_iff_eq]; omega
              by_cases h7 : k = n - 1
              · have HE := Lib.hid (show nx = true by rw [HNX.out]; exact decide_eq_true (.inr ⟨h6, h7⟩))
                have e3 : ((k : Int) == (n : Int) - 1) = true := by rw [beq_iff_eq]; omega
                clear h5 h6 h7
                go_wp2_with fail
                go_meet
                case rel => exact ⟨by rw [HE.out], _, _, rfl⟩
              · have HE := Lib.hid (show nx = false by rw [HNX.out]; exact decide_eq_false (by omega))
                have e3 : ((k : Int) == (n : Int) - 1) = false := by rw [beq_eq_false_iff_ne]; omega
                clear h5 h6 h7
                go_wp2_with fail
                go_meet
                case rel => exact ⟨by rw [HE.out], _, _, rfl⟩
            · have HE := Lib.hid (show nx = false by rw [HNX.out]; exact decide_eq_false (by omega))
              have e2 : ((i : Int) == 0) = false := by rw [beq_eq_false_iff_ne]; omega
              clear h5 h6
              go_wp2_with fail
              go_meet
              case rel => exact ⟨by rw [HE.out], _, _, rfl⟩
          case rest =>
          obtain ⟨rfl, J8, d8, rfl⟩ := hcut
          go_upto_region 13 with fail
          have hT := HT.out
          rcases HR.out with ⟨h8, h9⟩ | ⟨h8, h9⟩
          all_goals
            clear HR HNX
            subst h8 h9
            refine region_quiet_all (C := Cls w) (by kernel_rfl) (by kernel_rfl) ⟨_, _, rfl⟩ ?_
            repeat (first | (refine qw_skip (by rfl) ?_; simp only [Act.put, List.setIfInBounds_toArray, List.set_cons_succ, List.set_cons_zero]) | (refine qw_want (by rfl) (fun K hK => ?_); go_simp; first | (refine hK _ ?_; clear hK K) | (apply Exists.intro; refine ⟨?_, hK _ ?_⟩; (rintro w3_ ⟨J3_, d3_, rfl⟩; first | (with_reducible exact rfl) | (go_simp; with_reducible exact rfl) | (go_simp; (first | (with_reducible refine (HM.out _).mono ?_)); rintro e_ w_ ⟨rfl, J4_, d4_, rfl⟩; exact ⟨rfl, J3_ ++ J4_, d4_, by simp only [plus_plus, Array.append_assoc]⟩)); clear hK K)))
            refine qw_nil ?_
            rintro w3 ⟨J9, d9, rfl⟩
            go_wp2_with fail
            go_roundw
            case rel => exact ⟨k + 1, by go_num, by omega, .inl (by omega), _, _, rfl⟩
            case measure => simp [intOf]; omega
        · have k3 : ¬ (k : Int) < (n : Int) := by omega
          go_wp2_with fail
          go_roundw
          case rel => exact ⟨i + 1, by go_num, by omega, J2, d2, rfl⟩
          case measure => simp [intOf]; omega
    · obtain rfl : n = i := by omega
      go_wp2_with fail
      go_ret
      exact ⟨rfl, junk_of_below (by (repeat' (first | (with_reducible exact Below.refl _ _) | (with_reducible assumption) | (with_reducible refine Below.alloc ?_ ?_ _) | (with_reducible refine Below.drew ?_) | (with_reducible refine below_drewN ?_ _) | (with_reducible refine below_plus ?_ ?_ _ _) | (with_reducible refine Below.setCell ?_ ?_ _) | (with_reducible refine Below.setRow ?_ ?_ _) | go_size)))⟩
set_option maxRecDepth 100000 in
set_option maxHeartbeats 4000000 in
theorem l_ringEdges (w : World) (a : Option Addr) (n ca : Nat) (K : List Pt) (hK : PRC w a n ca K) (_ : n ≤ 9223372036854775807) (_ : a = none → n = 0 ∧ ca = 0) :
    Calls Try.prog 7 #[.slice a n ca] w fun e w' => e = .returned (.bool true) ∧ Junk w w' := by
  have HAw := Lib.hid l_rgAwake
  by_cases h1 : 60 < n
  · have i60 : (60 : Int) < (n : Int) := by omega
    clear hK h1
    go_enter Try.func7, Try.ntmps7
    go_wp2_with (go_at_call 24; refine (HAw.out _).mono ?_; rintro e w1 ⟨rfl, J3, d3, rfl⟩)
    go_ret
    exact ⟨rfl, junk_of_below (by (repeat' (first | (with_reducible exact Below.refl _ _) | (with_reducible assumption) | (with_reducible refine Below.alloc ?_ ?_ _) | (with_reducible refine Below.drew ?_) | (with_reducible refine below_drewN ?_ _) | (with_reducible refine below_plus ?_ ?_ _ _) | (with_reducible refine Below.setCell ?_ ?_ _) | (with_reducible refine Below.setRow ?_ ?_ _) | go_size)))⟩
  by_cases hf : fineQ K
  · exact edges_in w a n ca K hK (by omega) hf
  · have h0 : (checkF K).1 ≠ 0 := fun h => hf (check_fine.1 h)
    have HC := Lib.hid (fun w' h => ck_is K (checkF K) rfl n (by omega) w' a ca h)
    generalize checkF K = c at *
    obtain ⟨c1, c2⟩ := c
    simp only at h0 HC
    have e1 : (c1 == 0) = false := by rw [beq_eq_false_iff_ne]; exact h0
    have e2 : (c1 != 0) = true := by rw [bne, e1]; rfl
    have HK := Lib.hid hK
    have hfl := fld_err
    have i60 : ¬ (60 : Int) < (n : Int) := by omega
    clear hK hf h0 h1
    go_enter Try.func7, Try.ntmps7
    go_wp2_with (first
      | (go_at_call 24; refine (HAw.out _).mono ?_; rintro e w1 ⟨rfl, J3, d3, rfl⟩)
      | (go_at_call 14; refine (HC.out _ (HK.out.below (by (repeat' (first | (with_reducible exact Below.refl _ _) | (with_reducible assumption) | (with_reducible refine Below.alloc ?_ ?_ _) | (with_reducible refine Below.drew ?_) | (with_reducible refine below_drewN ?_ _) | (with_reducible refine below_plus ?_ ?_ _ _) | (with_reducible refine Below.setCell ?_ ?_ _) | (with_reducible refine Below.setRow ?_ ?_ _) | go_size))))).mono ?_; rintro e w1 ⟨rfl, J2, d2, rfl⟩))
    go_ret
    exact ⟨rfl, junk_of_below (by (repeat' (first | (with_reducible exact Below.refl _ _) | (with_reducible assumption) | (with_reducible refine Below.alloc ?_ ?_ _) | (with_reducible refine Below.drew ?_) | (with_reducible refine below_drewN ?_ _) | (with_reducible refine below_plus ?_ ?_ _ _) | (with_reducible refine Below.setCell ?_ ?_ _) | (with_reducible refine Below.setRow ?_ ?_ _) | go_size)))⟩
end Go.Proofs.Ytmofejcafbjlnaa

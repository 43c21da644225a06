/- The law TokenKinds: the walk. -/
import Derived.Test.YtpoahdfhhnlghaaTlN
namespace Go.Proofs.Ytpoahdfhhnlghaa
set_option linter.unusedVariables false
set_option linter.unusedSimpArgs false
open Go.RowKit

/-- Between two rounds of the inner loop: how many digits, is it odd. -/
def KiAt (L : List UInt8) (dg od i : Value) : Prop := ∃ (k : Nat) (o : Bool), i = .int .i64 (k : Int) ∧ k ≤ L.length ∧ dg = .int .i64 (((L.take k).countP digB : Nat) : Int) ∧ od = .bool o ∧ (PtL L → o = false) ∧ (k = 0 → o = false)
set_option maxRecDepth 100000 in
set_option maxHeartbeats 8000000 in
theorem l_tokenKinds (s : List UInt8) (w : World) (hs : s.length ≤ 9223372036854775807) : Calls Try.prog 9 #[.string ⟨s.toArray⟩] w fun e w' => e = .returned (.bool true) ∧ Junk w w' := by
  have HA := Lib.hid l_tkAwake
  by_cases h200 : 200 < s.length
  · have HT := Lib.hid (fun W => (n_tkLong s W h200 hs).mono fun _ _ h => tkp_of h)
    unfold TkP at HT
    generalize toldT s = X at *
    generalize (faultT s).1 = f at *
    generalize ((faultT s).2 : Int) = g at *
    clear hs
    go_enter Try.func9, Try.ntmps9
    go_wp2_with fail
    refine (HA.out _).mono ?_; rintro e w' ⟨rfl, J, d, rfl⟩
    go_wp2_with fail
    refine (HT.out _).mono ?_; rintro e w' ⟨a, cap, J2, d2, rfl, rfl, _, _, _⟩
    go_wp2
    go_ret
    exact ⟨rfl, junk_of_below (by (repeat' first | with_reducible (first | apply Below.refl | assumption | apply bw_a | apply bw_d | apply bw_n | apply bw_p | apply bw_c | apply bw_r) | go_size))⟩
  have hl : s.length ≤ 200 := by omega
  have HT := Lib.hid (fun W => p_tkTokens s W (by omega))
  have HK := Lib.hid (told_kinds (s := s))
  have HSH := Lib.hid (told_short s)
  have hX40 := told_len s
  unfold TkP at HT
  generalize toldT s = X at *
  generalize (faultT s).1 = f at *
  generalize ((faultT s).2 : Int) = g at *
  clear hs h200
  go_enter Try.func9, Try.ntmps9
  go_wp2_with fail
  refine (HA.out _).mono ?_; rintro e w0 ⟨rfl, hj⟩
  have HB0 := Lib.hid hj.below
  have hw0 := hj.below.size
  clear hj
  go_wp2_with fail
  refine (HT.out _).mono ?_; rintro e w1 ⟨a, cap, J1, d1, rfl, hw1, hR, _, _⟩
  rw [← hw1] at hR
  have HR := Lib.hid hR
  have HB1 := Lib.hid (bw_j HB0.out hw0 ⟨J1, d1, hw1⟩)
  clear hR hw1
  go_wp2_with fail
  have hbW : Below w.heap.size w (w1.alloc (.cells #[.int .i64 f, .int .i64 g] 25)) := by have := HB1.out; have := HB1.out.size; (repeat' first | with_reducible (first | apply Below.refl | assumption | apply bw_a | apply bw_d | apply bw_n | apply bw_p | apply bw_c | apply bw_r) | go_size)
  have hRW := HR.out.below (w' := w1.alloc (.cells #[.int .i64 f, .int .i64 g] 25)) (by (repeat' first | with_reducible (first | apply Below.refl | assumption | apply bw_a | apply bw_d | apply bw_n | apply bw_p | apply bw_c | apply bw_r) | go_size))
  generalize w1.alloc (.cells #[.int .i64 f, .int .i64 g] 25) = W at *
  have HBW := Lib.hid hbW
  obtain ⟨_, hRW⟩ := hRW
  have HRW := Lib.hid hRW
  clear hbW hRW HR
  go_loopw [6, 7, 8, 9, 10, 11, 12] (fun i _ _ _ _ _ _ wr => ∃ (k : Nat) (J : Array Obj) (d : Nat), i = .int .i64 (k : Int) ∧ k ≤ X.length ∧ wr = W.plus J d) (fun i _ _ _ _ _ _ _ => X.length - (intOf i).toNat)
  case atStart => exact ⟨0, #[], _, rfl, Nat.zero_le _, (plus_nil W).symm⟩
  case round =>
    obtain ⟨k, J, d, rfl, hk, rfl⟩ := hrel
    by_cases hlt : k < X.length
    · obtain ⟨b1, o1, rfl, hc1⟩ : ∃ b off, a = some ⟨b, off, none⟩ ∧ ∀ i, i < X.length → W.cell? ⟨b, off + i * 2, none⟩ = some (.int .i64 (X.getD i tkZ).1) ∧ W.cell? ⟨b, off + i * 2 + 1, none⟩ = some (.string ⟨(X.getD i tkZ).2.toArray⟩) := HRW.out.resolve_left (by omega)
      obtain ⟨c1, c2⟩ := hc1 k hlt
      have hbs : b1 < W.heap.size := World.block_lt_of_cell? _ _ c1
      obtain ⟨hne, hup, hkind⟩ := HK.out _ (getD_mem hlt)
      have hsh := HSH.out _ (getD_mem hlt)
      generalize X.getD k tkZ = p at *
      obtain ⟨kd, L⟩ := p
      simp only at c1 c2 hne hup hkind hsh
      have HU := Lib.hid (fun W => (by have h := n_tkUpper L W (by omega); rw [hup] at h; exact h : Calls Try.prog 14 #[.string ⟨L.toArray⟩] W fun e w' => e = .returned (.string ⟨L.toArray⟩) ∧ Junk W w'))
      have hl0 : 0 < L.length := List.length_pos_iff.2 hne
      have HKD := Lib.hid hkind
      have HLC := Lib.hid (show PtL L ∨ L = [44] ∨ L = [35] from by
        rcases hkind with ⟨_, h, _⟩ | ⟨_, h, _⟩ | ⟨_, h, _⟩ | h | h
        · exact .inl h
        · exact .inl h
        · exact .inl h
        · injection h with _ h; exact .inr (.inl h)
        · injection h with _ h; exact .inr (.inr h))
      have hlen : L.length ≤ 1000000 := hsh
      clear hc1 hup hkind hsh
      have hie : L.isEmpty = false := by simpa using hne
      go_wp2_with fail
      refine (HU.out _).mono ?_; rintro e w' ⟨rfl, J2, d2, rfl⟩
      go_wp2_with fail
      go_loopw [8, 9, 10, 11] (fun dg od i _ wx => KiAt L dg od i ∧ wx = W.plus (J ++ J2) d2) (fun _ _ i _ _ => L.length - (intOf i).toNat)
      case atStart => exact ⟨⟨0, false, rfl, Nat.zero_le _, rfl, rfl, fun _ => rfl, fun _ => rfl⟩, by simp only [plus_plus]⟩
      case round =>
        obtain ⟨⟨j, o, rfl, hj, rfl, rfl, ho1, ho2⟩, hwx⟩ := hrel
        subst hwx
        obtain ⟨c, hcnt⟩ : ∃ c, (L.take j).countP digB = c := ⟨_, rfl⟩
        have hcj : c ≤ j := by rw [← hcnt]; exact Nat.le_trans List.countP_le_length (by rw [List.length_take]; omega)
        rw [hcnt]
        by_cases hlj : j < L.length
        · have hof : o = false := by
            rcases HLC.out with h | h | h
            · exact ho1 h
            · rw [h] at hlj; exact ho2 (by simp at hlj; omega)
            · rw [h] at hlj; exact ho2 (by simp at hlj; omega)
          subst hof
          clear ho1 ho2
          rcases (show PtB L j ∨ (¬ PtL L ∧ j = 0 ∧ L.length = 1 ∧ (byteAt L j = 44 ∨ byteAt L j = 35)) from by
              rcases HLC.out with h | h | h
              · exact .inl (h j hlj)
              · subst h
                obtain rfl : j = 0 := by simp at hlj; omega
                refine .inr ⟨fun h => ?_, rfl, rfl, .inl rfl⟩
                have := h 0 hlj
                unfold PtB at this
                simp [byteAt] at this
              · subst h
                obtain rfl : j = 0 := by simp at hlj; omega
                refine .inr ⟨fun h => ?_, rfl, rfl, .inr rfl⟩
                have := h 0 hlj
                unfold PtB at this
                simp [byteAt] at this) with (⟨q1, q2⟩ | ⟨q1, q2⟩ | ⟨q1, q2, q3, q4, q5⟩) | ⟨hnp, hj0, hl1, q1⟩
          · have hd : digN (byteAt L j) = true := by unfold digN; simp; omega
            have d1 : decide (48 ≤ (byteAt L j : Int)) = true := decide_eq_true (by omega)
            have d2 : decide ((byteAt L j : Int) ≤ 57) = true := decide_eq_true (by omega)
            have d5 : ((byteAt L j : Int) == 32) = false := by rw [beq_eq_false_iff_ne]; omega
            have d6 : ((byteAt L j : Int) == 9) = false := by rw [beq_eq_false_iff_ne]; omega
            have HCN := Lib.hid (show (L.take (j + 1)).countP digB = c + 1 by rw [cnt_step hlj, hcnt, if_pos hd])
            have HP1 := Lib.hid (show PtL L → false = false from fun _ => rfl)
            clear hd hcnt
            go_wp2_with fail
            go_roundw
            case rel => exact ⟨⟨j + 1, false, by go_num, by omega, by rw [HCN.out]; simp, rfl, HP1.out, fun h => absurd h (by omega)⟩, by first | trivial | rfl⟩
            case measure => simp [intOf]; omega
          · have hd : ¬ digN (byteAt L j) = true := by unfold digN; simp; omega
            have d1 : decide (48 ≤ (byteAt L j : Int)) = true := decide_eq_true (by omega)
            have d2 : decide ((byteAt L j : Int) ≤ 57) = false := decide_eq_false (by omega)
            have d3 : decide (65 ≤ (byteAt L j : Int)) = true := decide_eq_true (by omega)
            have d4 : decide ((byteAt L j : Int) ≤ 90) = true := decide_eq_true (by omega)
            have d5 : ((byteAt L j : Int) == 32) = false := by rw [beq_eq_false_iff_ne]; omega
            have d6 : ((byteAt L j : Int) == 9) = false := by rw [beq_eq_false_iff_ne]; omega
            have HCN := Lib.hid (show (L.take (j + 1)).countP digB = c by rw [cnt_step hlj, hcnt, if_neg hd, Nat.add_zero])
            have HP1 := Lib.hid (show PtL L → false = false from fun _ => rfl)
            clear hd hcnt
            go_wp2_with fail
            go_roundw
            case rel => exact ⟨⟨j + 1, false, by go_num, by omega, by rw [HCN.out], rfl, HP1.out, fun h => absurd h (by omega)⟩, by first | trivial | rfl⟩
            case measure => simp [intOf]; omega
          · have hd : ¬ digN (byteAt L j) = true := by unfold digN; simp; omega
            have d1 : decide (48 ≤ (byteAt L j : Int)) = false := decide_eq_false (by omega)
            have d3 : decide (65 ≤ (byteAt L j : Int)) = false := decide_eq_false (by omega)
            have d5 : ((byteAt L j : Int) == 32) = false := by rw [beq_eq_false_iff_ne]; omega
            have d6 : ((byteAt L j : Int) == 9) = false := by rw [beq_eq_false_iff_ne]; omega
            have d7 : ((j : Int) == 0) = false := by rw [beq_eq_false_iff_ne]; omega
            have d8 : ((j : Int) == (L.length : Int) - 1) = false := by rw [beq_eq_false_iff_ne]; omega
            have HCN := Lib.hid (show (L.take (j + 1)).countP digB = c by rw [cnt_step hlj, hcnt, if_neg hd, Nat.add_zero])
            have HP1 := Lib.hid (show PtL L → false = false from fun _ => rfl)
            clear hd hcnt
            go_wp2_with fail
            go_roundw
            case rel => exact ⟨⟨j + 1, false, by go_num, by omega, by rw [HCN.out], rfl, HP1.out, fun h => absurd h (by omega)⟩, by first | trivial | rfl⟩
            case measure => simp [intOf]; omega
          · have hd : ¬ digN (byteAt L j) = true := by unfold digN; simp; omega
            have d1 : decide (48 ≤ (byteAt L j : Int)) = false := decide_eq_false (by omega)
            have d3 : decide (65 ≤ (byteAt L j : Int)) = false := decide_eq_false (by omega)
            subst hj0
            have HNP := Lib.hid hnp
            clear q1 hl1
            have HCN := Lib.hid (show (L.take (0 + 1)).countP digB = c by rw [cnt_step hlj, hcnt, if_neg hd, Nat.add_zero])
            have HP1 := Lib.hid (show PtL L → true = false from fun h => absurd h HNP.out)
            clear hd hcnt hnp
            go_wp2_with fail
            go_roundw
            case rel => exact ⟨⟨1, true, by go_num, by omega, by rw [HCN.out], rfl, HP1.out, fun h => absurd h (by omega)⟩, by first | trivial | rfl⟩
            case measure => simp [intOf]; omega
        · obtain rfl : j = L.length := by omega
          rw [List.take_length] at hcnt
          have HO1 := Lib.hid ho1
          clear ho1 ho2
          have hend := HKD.out
          rcases hend with ⟨rfl, hp, q1, q2⟩ | ⟨rfl, hp, q1, q2⟩ | ⟨rfl, hp, q1, q2⟩ | hcm | hcm
          · obtain rfl := HO1.out hp
            have d3 : decide (65 ≤ (byteAt L 0 : Int)) = true := decide_eq_true (by omega)
            have d4 : decide ((byteAt L 0 : Int) ≤ 90) = true := decide_eq_true (by omega)
            clear hp hcnt HKD
            go_wp2_with fail
            go_roundw
            case rel => exact ⟨k + 1, _, _, by go_num, by omega, rfl⟩
            case measure => simp [intOf]; omega
          · obtain rfl := HO1.out hp
            have d3 : decide (65 ≤ (byteAt L 0 : Int)) = false := decide_eq_false (by omega)
            obtain rfl : c = L.length := by omega
            clear hp hcnt HKD q2
            go_wp2_with fail
            go_roundw
            case rel => exact ⟨k + 1, _, _, by go_num, by omega, rfl⟩
            case measure => simp [intOf]; omega
          · obtain rfl := HO1.out hp
            have d3 : decide (65 ≤ (byteAt L 0 : Int)) = false := decide_eq_false (by omega)
            have d9 : ((c : Int) == (L.length : Int)) = false := by rw [beq_eq_false_iff_ne]; omega
            clear hp hcnt HKD q2
            go_wp2_with fail
            go_roundw
            case rel => exact ⟨k + 1, _, _, by go_num, by omega, rfl⟩
            case measure => simp [intOf]; omega
          · injection hcm with hk1 hk2
            subst hk1 hk2
            clear hcnt HKD
            go_wp2_with fail
            go_roundw
            case rel => exact ⟨k + 1, _, _, by go_num, by omega, rfl⟩
            case measure => simp [intOf]; omega
          · injection hcm with hk1 hk2
            subst hk1 hk2
            clear hcnt HKD
            go_wp2_with fail
            go_roundw
            case rel => exact ⟨k + 1, _, _, by go_num, by omega, rfl⟩
            case measure => simp [intOf]; omega
    · obtain rfl : k = X.length := by omega
      go_wp2
      go_ret
      exact ⟨rfl, junk_of_below (by have := HBW.out; have := HBW.out.size; (repeat' first | with_reducible (first | apply Below.refl | assumption | apply bw_a | apply bw_d | apply bw_n | apply bw_p | apply bw_c | apply bw_r) | go_size))⟩
end Go.Proofs.Ytpoahdfhhnlghaa

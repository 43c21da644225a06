/- The law WordsAll. -/
import Derived.Test.YtngjkmjejijfiaaDoorWdF
import Derived.Test.YtngjkmjejijfiaaDoorQAll
namespace Go.Proofs.YtngjkmjejijfiaaDoor
set_option linter.unusedVariables false
set_option linter.unusedSimpArgs false
open Go.RowKit

/-- What a computation tells of all short forms of a kind. -/
def okA (T : List Wd) (K : List Tx) : Bool :=
  (List.range K.length).all fun i => (tellL T (K.getD i [])).2 && decide ((K.getD i []).length ≤ 100) && (decide (i = 0) || (!(ltW (K.getD i []) (K.getD (i - 1) [])) && !(K.getD i [] == K.getD (i - 1) []))) &&
    (List.range i).all fun k => !((tellL T (K.getD k [])).1 == (tellL T (K.getD i [])).1)
theorem okA_all (k : Int) : okA (wdT k) (allW (wdT k)) = true := by
  unfold wdT
  split
  · decide +kernel
  · split
    · decide +kernel
    · split
      · decide +kernel
      · split
        · decide +kernel
        · rfl
theorem okA_at {T : List Wd} {K : List Tx} (h : okA T K = true) {i : Nat} (hi : i < K.length) :
    tellL T (K.getD i []) = ((tellL T (K.getD i [])).1, true) ∧ (K.getD i []).length ≤ 100 ∧ (i = 0 ∨ (ltW (K.getD i []) (K.getD (i - 1) []) = false ∧ (K.getD i [] == K.getD (i - 1) []) = false)) ∧
      ∀ k, k < i → ((tellL T (K.getD k [])).1 == (tellL T (K.getD i [])).1) = false := by
  have h1 := List.all_eq_true.1 h i (List.mem_range.2 hi)
  simp only [Bool.and_eq_true, Bool.or_eq_true, decide_eq_true_eq, List.all_eq_true, Bool.not_eq_true', List.mem_range] at h1
  obtain ⟨⟨⟨a, b⟩, c⟩, d⟩ := h1
  exact ⟨Prod.ext rfl a, b, c, d⟩
def wantA (kd : Int) : Nat := if kd = 1 then 20 else if kd = 2 then 8 else if kd = 3 then 51 else if kd = 4 then 6 else 0
theorem want_all (kd : Int) : (allW (wdT kd)).length = wantA kd := by
  rw [← sel_all, sel_len]
  unfold wdT wantA
  split
  · rfl
  · split
    · rfl
    · split
      · rfl
      · split <;> rfl
set_option maxRecDepth 100000 in
set_option maxHeartbeats 4000000 in
theorem l_wordsAll (kd : Int) (w : World) (ht : LdW w) : Calls Tryd.prog 5 #[.int .i64 kd] w fun e w' => e = .returned (.bool true) ∧ Below w.heap.size w w' := by
  have HA := Lib.hid l_wdAwake
  have HAL := Lib.hid (@allat kd)
  have HOK := Lib.hid (fun i hi => @okA_at _ _ (okA_all kd) i hi)
  have HL := Lib.hid (fun x y (h : tellL (wdT kd) x = (y, true)) hx => @longAt kd x y true h hx)
  have HW := Lib.hid (want_all kd)
  have HT := Lib.hid ht
  generalize allW (wdT kd) = K at *
  generalize wdT kd = T at *
  clear ht
  have hcase : (kd = 1 ∧ K.length = 20) ∨ (kd = 2 ∧ K.length = 8) ∨ (kd = 3 ∧ K.length = 51) ∨ (kd = 4 ∧ K.length = 6) ∨ ((kd == 1) = false ∧ (kd == 2) = false ∧ (kd == 3) = false ∧ (kd == 4) = false ∧ K.length = 0) := by
    have := HW.out
    unfold wantA at this
    by_cases h1 : kd = 1
    · rw [if_pos h1] at this; exact .inl ⟨h1, this⟩
    by_cases h2 : kd = 2
    · rw [if_neg h1, if_pos h2] at this; exact .inr (.inl ⟨h2, this⟩)
    by_cases h3 : kd = 3
    · rw [if_neg h1, if_neg h2, if_pos h3] at this; exact .inr (.inr (.inl ⟨h3, this⟩))
    by_cases h4 : kd = 4
    · rw [if_neg h1, if_neg h2, if_neg h3, if_pos h4] at this; exact .inr (.inr (.inr (.inl ⟨h4, this⟩)))
    rw [if_neg h1, if_neg h2, if_neg h3, if_neg h4] at this
    exact .inr (.inr (.inr (.inr ⟨beq_eq_false_iff_ne.2 h1, beq_eq_false_iff_ne.2 h2, beq_eq_false_iff_ne.2 h3, beq_eq_false_iff_ne.2 h4, this⟩)))
  have HKL := Lib.hid (show K.length ≤ 51 by rcases hcase with ⟨_, h⟩ | ⟨_, h⟩ | ⟨_, h⟩ | ⟨_, h⟩ | ⟨_, _, _, _, h⟩ <;> omega)
  have hcase : (kd = 1 ∧ ((K.length : Int) != 20) = false) ∨ (kd = 2 ∧ ((K.length : Int) != 8) = false) ∨ (kd = 3 ∧ ((K.length : Int) != 51) = false) ∨ (kd = 4 ∧ ((K.length : Int) != 6) = false) ∨ ((kd == 1) = false ∧ (kd == 2) = false ∧ (kd == 3) = false ∧ (kd == 4) = false ∧ ((K.length : Int) != 0) = false) := by
    rcases hcase with ⟨h0, h⟩ | ⟨h0, h⟩ | ⟨h0, h⟩ | ⟨h0, h⟩ | ⟨a, b, c, d, h⟩
    · exact .inl ⟨h0, by rw [h]; rfl⟩
    · exact .inr (.inl ⟨h0, by rw [h]; rfl⟩)
    · exact .inr (.inr (.inl ⟨h0, by rw [h]; rfl⟩))
    · exact .inr (.inr (.inr (.inl ⟨h0, by rw [h]; rfl⟩)))
    · exact .inr (.inr (.inr (.inr ⟨a, b, c, d, by rw [h]; rfl⟩)))
  clear HW
  rcases hcase with ⟨rfl, hw⟩ | ⟨rfl, hw⟩ | ⟨rfl, hw⟩ | ⟨rfl, hw⟩ | ⟨e1, e2, e3, e4, hw⟩
  all_goals
    go_enter Tryd.func5, Tryd.ntmps5
    go_wp2_with fail
    refine (HAL.out _ (HT.out.below (by (repeat' first | with_reducible (first | apply Below.refl | assumption | apply bw_a | apply bw_d | apply bw_n | apply bw_p | apply bw_c | apply bw_r) | go_size)))).mono ?_; rintro e W1 ⟨a, ca, rfl, hv, hj⟩
    have HR := Lib.hid (sreads_of_slice hv.1)
    have HB1 := Lib.hid (bw_k (Below.refl w.heap.size w) (Nat.le_refl _) hj)
    have s1 := hj.below.size
    clear hj hv
    go_wp2_with fail
  all_goals
    go_loopw [5] (fun i wr => ∃ k : Nat, i = .int .i64 (k : Int) ∧ k ≤ K.length ∧ Below W1.heap.size W1 wr) (fun i _ => K.length - (intOf i).toNat)
    case atStart => exact ⟨0, rfl, Nat.zero_le _, Below.refl _ _⟩
    case round =>
      obtain ⟨k, rfl, hk, hb⟩ := hrel
      have HB := Lib.hid hb
      have s2 := hb.size
      have HBw := Lib.hid (HB1.out.trans (hb.mono s1))
      have HRr := Lib.hid (HR.out.below hb)
      have hfew := HKL.out
      clear hb
      by_cases hlt : k < K.length
      · obtain ⟨f1, f2, f3, f4⟩ := HOK.out k hlt
        have HL1 := Lib.hid (HL.out _ _ f1 (by omega))
        have HF4 := Lib.hid f4
        clear f1 f2 f4
        obtain ⟨g, off, rfl, hc⟩ : ∃ b off, a = some ⟨b, off, none⟩ ∧ ∀ i, i < K.length → wr.cell? ⟨b, off + i, none⟩ = some (sV (K.getD i [])) := HRr.out.2.resolve_left (by omega)
        have c1 := hc k hlt
        have HC := Lib.hid hc
        have HG1 := Lib.hid (show g < W1.heap.size from (HR.out.2.resolve_left (by omega)).elim fun b h => h.elim fun o h => by have h1 := h.1; injection h1 with h1; injection h1 with h1; rw [h1]; exact World.block_lt_of_cell? _ _ (h.2 k hlt))
        have HCW := Lib.hid (show ∀ i, i < K.length → W1.cell? ⟨g, off + i, none⟩ = some (sV (K.getD i [])) from (HR.out.2.resolve_left (by omega)).elim fun b h => h.elim fun o h => by have h1 := h.1; injection h1 with h1; injection h1 with h1 h2; subst h1 h2; exact h.2)
        clear hc
        have hg : g < wr.heap.size := World.block_lt_of_cell? _ _ c1
        generalize (tellL T (K.getD k [])).1 = y at *
        generalize hz : K.getD k [] = z at *
        go_wp2_with fail
        refine (HL1.out _ (HT.out.below HBw.out)).mono ?_; rintro e W2 ⟨rfl, hj2⟩
        have HB2 := Lib.hid (HB.out.trans (hj2.below.mono s2))
        have s3 := hj2.below.size
        have HC2 := Lib.hid (show ∀ i, i < K.length → W2.cell? ⟨g, off + i, none⟩ = some (sV (K.getD i [])) from fun i hi => (World.cell?_of_block (hj2.below.block g hg)).trans (HC.out i hi))
        clear hj2 c1
        have c1 := HC2.out k hlt
        rw [hz] at c1
        have HZ := Lib.hid hz
        clear hz
        by_cases hk0 : k = 0
        · subst hk0
          clear f3
          go_wp2_with fail
          go_quiet (fail)
          go_wp2_with fail
          go_loopw [8] (fun j wr' => j = .int .i64 0 ∧ Below W1.heap.size W1 wr') (fun _ _ => 0)
          case atStart => exact ⟨rfl, by have := HB2.out; (repeat' first | with_reducible (first | apply Below.refl | assumption | apply bw_a | apply bw_d | apply bw_n | apply bw_p | apply bw_c | apply bw_r) | go_size)⟩
          case round =>
            obtain ⟨rfl, hbi⟩ := hrel
            have HBi := Lib.hid hbi
            clear hbi
            go_wp2_with fail
            go_roundw
            case rel => exact ⟨1, rfl, by omega, HBi.out⟩
            case measure => simp [intOf]; omega
        · obtain ⟨m, hm⟩ : ∃ m, k = m + 1 := ⟨k - 1, by omega⟩
          have hmi : (k : Int) - 1 = (m : Int) := by omega
          have hk1 : 0 < k := by omega
          have hkd : decide (0 < k) = true := decide_eq_true hk1
          have hmn : (m : Int) < (K.length : Int) := by omega
          have hmn2 : m < K.length := by omega
          have hwm : IntKind.i64.wrap (m : Int) = (m : Int) := by rw [IntKind.wrap_i64]; omega
          have c2 := HC2.out m hmn2
          have f3 := f3.resolve_left hk0
          rw [show k - 1 = m by omega] at f3
          have hlb : Go.Op.bytesLess z (K.getD m []) = false := f3.1
          have heb := f3.2
          clear f3 hm hk0
          generalize hz2 : K.getD m [] = z2 at *
          clear hz2
          have hg2 : g < W2.heap.size := World.block_lt_of_cell? _ _ c1
          go_wp2_with fail
          refine region_quiet_all (C := Cls W2) (by kernel_rfl) (by kernel_rfl) (cls_drawn _) ?_
          repeat (first | (refine qw_skip (by rfl) ?_; simp only [Act.put, List.setIfInBounds_toArray, List.set_cons_succ, List.set_cons_zero]) | (refine qw_want (by rfl) (fun K hK => ?_); go_simp; first | (refine hK _ ?_; clear hK K) | (apply Exists.intro; refine ⟨?_, hK _ ?_⟩; (rintro w3_ ⟨J3_, d3_, rfl⟩; first | (with_reducible exact rfl) | (go_simp; with_reducible exact rfl) | (go_simp; (first | (with_reducible refine (HT.out _).mono ?_)); rintro e_ w_ ⟨rfl, J4_, d4_, rfl⟩; exact ⟨rfl, J3_ ++ J4_, d4_, by simp only [plus_plus, Array.append_assoc]⟩)); clear hK K)))
          refine qw_nil ?_
          rintro w3 ⟨J3, d3, rfl⟩
          have HB3 := Lib.hid (show Below W1.heap.size W1 (W2.plus J3 d3) by have := HB2.out; (repeat' first | with_reducible (first | apply Below.refl | assumption | apply bw_a | apply bw_d | apply bw_n | apply bw_p | apply bw_c | apply bw_r) | go_size))
          generalize W2.plus J3 d3 = W3 at *
          go_wp2_with fail
          go_loopw [8] (fun j wr' => ∃ i : Nat, j = .int .i64 (i : Int) ∧ i ≤ k ∧ Below W1.heap.size W1 wr') (fun j _ => k - (intOf j).toNat)
          case atStart => exact ⟨0, rfl, Nat.zero_le _, HB3.out⟩
          case round =>
            obtain ⟨i, rfl, hi, hbi⟩ := hrel
            have HBi := Lib.hid hbi
            have s4 := hbi.size
            have HBwi := Lib.hid (HB1.out.trans (hbi.mono s1))
            have HCi := Lib.hid (show ∀ i, i < K.length → wr.cell? ⟨g, off + i, none⟩ = some (sV (K.getD i [])) from fun i hi => (World.cell?_of_block (hbi.block g HG1.out)).trans (HCW.out i hi))
            clear hbi
            by_cases hit : i < k
            · obtain ⟨f1, f2, _, _⟩ := HOK.out i (by omega)
              have HLi := Lib.hid (HL.out _ _ f1 (by omega))
              have ci := HCi.out i (by omega)
              have hne := HF4.out i hit
              clear f1 f2
              generalize (tellL T (K.getD i [])).1 = yi at *
              generalize hzi : K.getD i [] = zi at *
              clear hzi
              go_wp2_with fail
              refine (HLi.out _ (HT.out.below HBwi.out)).mono ?_; rintro e W5 ⟨rfl, hj5⟩
              have HB5 := Lib.hid (HBi.out.trans (hj5.below.mono s4))
              clear hj5
              go_wp2_with fail
              go_roundw
              case rel => exact ⟨i + 1, by go_num, by omega, HB5.out⟩
              case measure => simp [intOf]; omega
            · obtain rfl : i = k := by omega
              go_wp2_with fail
              go_roundw
              case rel => exact ⟨i + 1, by go_num, by omega, HBi.out⟩
              case measure => simp [intOf]; omega
      · obtain rfl : k = K.length := by omega
        go_wp2_with fail
        refine (HA.out _ (HT.out.below HBw.out)).mono ?_; rintro e W3 ⟨rfl, hj3⟩
        have HB3 := Lib.hid (bw_k HBw.out (by omega) hj3)
        clear hj3
        go_wp2
        go_ret
        exact ⟨rfl, HB3.out⟩
end Go.Proofs.YtngjkmjejijfiaaDoor

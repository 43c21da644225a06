/- Contract of apportionref15's Text. -/
import Derived.Test.YtpoahdfhhnlghaaTkX
namespace Go.Proofs.Ytpoahdfhhnlghaa
set_option linter.unusedVariables false
set_option linter.unusedSimpArgs false
open Go.RowKit

set_option maxRecDepth 100000 in
set_option maxHeartbeats 4000000 in
theorem r_tkText (w : World) (a : Option Addr) (n ca : Nat) (K : List Tk) (hK : TReads w a n K) (hs : ShortT K) (hn : n ≤ maxLen) :
    Calls Try.prog 19 #[.slice a n ca] w (TxRes K w) := by
  obtain ⟨hKl, hKc⟩ := hK
  by_cases h40 : 40 < n
  · have HE := Lib.hid (show errT K = 8 by unfold errT; rw [if_pos (by omega)])
    clear hKc hs hKl
    go_enter Try.func19, Try.ntmps19
    go_wp2
    go_ret2
    exact tx_err HE.out (by decide) rfl (junk_of_below (by (repeat' first | with_reducible (first | apply Below.refl | assumption | apply bw_a | apply bw_d | apply bw_n | apply bw_p | apply bw_c | apply bw_r) | go_size)))
  have HKc := Lib.hid hKc; have HKl := Lib.hid hKl
  have HS := Lib.hid hs
  have hn : n ≤ 40 := by omega
  clear hKc hKl hs h40
  go_enter Try.func19, Try.ntmps19
  go_wp2_with fail
  go_loopw [5] (fun i wr => ∃ (k : Nat) (J : Array Obj) (d : Nat), i = .int .i64 (k : Int) ∧ k ≤ n ∧ (∀ j, j < k → mayT (K.getD j tkZ) = true) ∧ wr = w.plus J d) (fun i _ => n - (intOf i).toNat)
  case atStart => exact ⟨0, #[], _, rfl, Nat.zero_le _, fun j h => absurd h (Nat.not_lt_zero _), (plus_nil w).symm⟩
  case round =>
    obtain ⟨k, J, d, rfl, hk, ht, rfl⟩ := hrel
    have HT := Lib.hid ht
    clear ht
    by_cases hlt : k < n
    · obtain ⟨b1, o1, rfl, hc1⟩ : ∃ b off, a = some ⟨b, off, none⟩ ∧ ∀ i, i < n → w.cell? ⟨b, off + i * 2, none⟩ = some (.int .i64 (K.getD i tkZ).1) ∧ w.cell? ⟨b, off + i * 2 + 1, none⟩ = some (.string ⟨(K.getD i tkZ).2.toArray⟩) := HKc.out.resolve_left (by omega)
      obtain ⟨c1, c2⟩ := hc1 k hlt
      have hbs : b1 < w.heap.size := World.block_lt_of_cell? _ _ c1
      have HA := Lib.hid (fun h => all_may_at (K := K) (k := k) (by have := HKl.out; omega) h)
      have HN := Lib.hid (fun (h : mayT (K.getD k tkZ) = true) j (hj : j < k + 1) => (Nat.lt_or_ge j k).elim (fun e => HT.out j e) (fun e => by rw [show j = k by omega]; exact h))
      have hsh := HS.out _ (getD_mem (K := K) (k := k) (by have := HKl.out; omega))
      generalize K.getD k tkZ = p at *
      obtain ⟨kd, x⟩ := p
      simp only at c1 c2 hsh
      have HP := Lib.hid (fun W => r_tkMay kd x W (by omega))
      clear hc1 hsh
      cases hx : mayT (kd, x) with
      | false =>
        have HE := Lib.hid (show errT K = 2 by unfold errT; rw [if_neg (by have := HKl.out; omega), HA.out hx]; rfl)
        rw [hx] at HP
        clear hx
        go_wp2_with fail
        refine (HP.out _).mono ?_; rintro e w' ⟨rfl, J2, d2, rfl⟩
        go_wp2
        go_ret2
        exact tx_err HE.out (by decide) rfl (junk_of_below (by (repeat' first | with_reducible (first | apply Below.refl | assumption | apply bw_a | apply bw_d | apply bw_n | apply bw_p | apply bw_c | apply bw_r) | go_size)))
      | true =>
        have HN2 := Lib.hid (HN.out hx)
        rw [hx] at HP
        clear hx
        go_wp2_with fail
        refine (HP.out _).mono ?_; rintro e w' ⟨rfl, J2, d2, rfl⟩
        go_wp2_with fail
        go_roundw
        case rel => exact ⟨k + 1, _, _, by go_num, by omega, HN2.out, rfl⟩
        case measure => simp [intOf]; omega
    · obtain rfl : k = n := by omega
      have HM := Lib.hid (all_may_no (K := K) (fun j hj => HT.out j (by have := HKl.out; omega)))
      clear hlt HT
      go_wp2_with fail
      go_loopw [4, 6] (fun s i wr => ∃ (m : Nat), i = .int .i64 (m : Int) ∧ m ≤ k ∧ s = .string ⟨(txT (K.take m)).toArray⟩ ∧ wr = w.plus J d) (fun _ i _ => k - (intOf i).toNat)
      case atStart => exact ⟨0, rfl, Nat.zero_le _, rfl, rfl⟩
      case round =>
        obtain ⟨m, rfl, hm, rfl, rfl⟩ := hrel
        by_cases hlt : m < k
        · obtain ⟨b1, o1, rfl, hc1⟩ : ∃ b off, a = some ⟨b, off, none⟩ ∧ ∀ i, i < k → w.cell? ⟨b, off + i * 2, none⟩ = some (.int .i64 (K.getD i tkZ).1) ∧ w.cell? ⟨b, off + i * 2 + 1, none⟩ = some (.string ⟨(K.getD i tkZ).2.toArray⟩) := HKc.out.resolve_left (by omega)
          obtain ⟨c1, c2⟩ := hc1 m hlt
          have hbs : b1 < w.heap.size := World.block_lt_of_cell? _ _ c1
          have hsh := HS.out _ (getD_mem (K := K) (k := m) (by have := HKl.out; omega))
          have hDl := txt_bound HS.out (by have := HKl.out; omega) m
          rcases Nat.eq_zero_or_pos m with h0 | h0
          · subst h0
            have HF := Lib.hid (show txT (K.take (0 + 1)) = txT (K.take 0) ++ (K.getD 0 tkZ).2 by rw [show txT (K.take (0 + 1)) = (K.getD 0 tkZ).2 from txt_first (by have := HKl.out; omega)]; rfl)
            generalize K.getD 0 tkZ = p at *
            obtain ⟨kd, x⟩ := p
            simp only [Nat.zero_mul, Nat.add_zero] at c1 c2 HF hsh
            generalize txT (K.take 0) = D at *
            have hsum : D.length + x.length ≤ 9223372036854775807 := by omega
            clear hc1 hDl hsh
            go_wp2_with fail
            go_roundw
            case rel => exact ⟨1, by go_num, by omega, by rw [HF.out]; first | rfl | simp, trivial⟩
            case measure => simp [intOf]; omega
          · obtain ⟨q, rfl⟩ : ∃ q, m = q + 1 := ⟨m - 1, by omega⟩
            obtain ⟨c3, _⟩ := hc1 q (by omega)
            have HF := Lib.hid (txt_step (K := K) (k := q) (by have := HKl.out; omega))
            generalize K.getD (q + 1) tkZ = p at *
            generalize K.getD q tkZ = pp at *
            obtain ⟨kd, x⟩ := p
            obtain ⟨kp, y⟩ := pp
            simp only at c1 c2 c3 HF hsh
            generalize txT (K.take (q + 1)) = D at *
            have hsum : D.length + x.length ≤ 9223372036854775807 := by omega
            have hsum2 : D.length + 1 ≤ 9223372036854775807 := by omega
            have hsum3 : D.length + 1 + x.length ≤ 9223372036854775807 := by omega
            have hsum4 : D.length + (1 + x.length) ≤ 9223372036854775807 := by omega
            clear hc1 hDl hsh
            by_cases g4 : kd = 4
            · subst g4
              have HG := Lib.hid (show gapT (kp, y) (4, x) = [] by unfold gapT; rw [if_neg (by simp)])
              go_wp2_with fail
              go_roundw
              case rel => exact ⟨q + 1 + 1, by go_num, by omega, by rw [HF.out, HG.out]; first | rfl | (simp; done) | simp [ba_app], trivial⟩
              case measure => simp [intOf]; omega
            have e4 : (kd != 4) = true := bne_iff_ne.2 g4
            by_cases g5 : kp = 5
            · subst g5
              have HG := Lib.hid (show gapT (5, y) (kd, x) = [] by unfold gapT; rw [if_neg (by simp)])
              clear g4
              go_wp2_with fail
              go_roundw
              case rel => exact ⟨q + 1 + 1, by go_num, by omega, by rw [HF.out, HG.out]; first | rfl | (simp; done) | simp [ba_app], trivial⟩
              case measure => simp [intOf]; omega
            · have e5 : (kp != 5) = true := bne_iff_ne.2 g5
              have HG := Lib.hid (show gapT (kp, y) (kd, x) = [32] by unfold gapT; rw [if_pos ⟨g4, g5⟩])
              clear g4 g5
              go_wp2_with fail
              go_roundw
              case rel => exact ⟨q + 1 + 1, by go_num, by omega, by rw [HF.out, HG.out]; first | rfl | (simp; done) | simp [ba_app], trivial⟩
              case measure => simp [intOf]; omega
        · obtain rfl : m = k := by omega
          have HE := Lib.hid (show txT (K.take m) = txT K by rw [List.take_of_length_le (by have := HKl.out; omega)])
          rw [HE.out]
          by_cases h200 : 200 < (txT K).length
          · have HE3 := Lib.hid (show errT K = 3 by unfold errT; rw [if_neg (by have := HKl.out; omega), HM.out, if_pos rfl, if_pos h200])
            generalize txT K = D at *
            go_wp2
            go_ret2
            exact tx_err HE3.out (by decide) rfl (junk_of_below (by (repeat' first | with_reducible (first | apply Below.refl | assumption | apply bw_a | apply bw_d | apply bw_n | apply bw_p | apply bw_c | apply bw_r) | go_size)))
          · have HE3 := Lib.hid (show errT K = 0 by unfold errT; rw [if_neg (by have := HKl.out; omega), HM.out, if_pos rfl, if_neg h200])
            have HX := Lib.hid (fun w' (x : Value) (hx : x = .tuple #[.string ⟨(txT K).toArray⟩, .int .i64 0]) (hj : Junk w w') => tx_fine HE3.out hx hj)
            generalize txT K = D at *
            go_wp2
            go_ret2
            exact HX.out _ _ rfl (junk_of_below (by (repeat' first | with_reducible (first | apply Below.refl | assumption | apply bw_a | apply bw_d | apply bw_n | apply bw_p | apply bw_c | apply bw_r) | go_size)))
end Go.Proofs.Ytpoahdfhhnlghaa

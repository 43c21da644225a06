/- Contracts of apportionkit's SameTokens and LongTokens. -/
import Derived.Test.YtpoahdfhhnlghaaTkL
namespace Go.Proofs.Ytpoahdfhhnlghaa
set_option linter.unusedVariables false
set_option linter.unusedSimpArgs false
open Go.RowKit

theorem bytes_list (x : List UInt8) : (⟨x.toArray⟩ : ByteArray).toList = x := by
  rw [ByteArray.toList_eq]
theorem bytes_beq (x y : List UInt8) : ((⟨x.toArray⟩ : ByteArray).toList == (⟨y.toArray⟩ : ByteArray).toList) = decide (x = y) := by
  rw [bytes_list, bytes_list]
  by_cases h : x = y
  · subst h; simp
  · rw [decide_eq_false h, beq_eq_false_iff_ne]; exact h
set_option maxRecDepth 100000 in
/-- Tokens compared. -/
theorem tk_ne (k : Int) (x : List UInt8) (l : Int) (y : List UInt8) (w : World) : (binOp .neq 31 (.agg #[.int .i64 k, .string ⟨x.toArray⟩]) (.agg #[.int .i64 l, .string ⟨y.toArray⟩])).run Try.prog w = .ok (.bool (!decide ((k, x) = (l, y)))) w := by
  have hb := bytes_beq x y
  have h : decide ((k, x) = (l, y)) = ((k == l) && decide (x = y)) := by
    by_cases a : k = l
    · by_cases b : x = y
      · subst a b; simp
      · simp [a, b]
    · simp [a]
  rw [h]
  obtain ⟨r2, hr2⟩ : ∃ r2, decide (x = y) = r2 := ⟨_, rfl⟩
  rw [hr2] at hb ⊢
  cases hx : (k == l) <;> cases r2 <;> go_simp
  all_goals simpa using hr2
set_option maxRecDepth 100000 in
theorem tk_eq (k : Int) (x : List UInt8) (l : Int) (y : List UInt8) (w : World) : (binOp .eql 31 (.agg #[.int .i64 k, .string ⟨x.toArray⟩]) (.agg #[.int .i64 l, .string ⟨y.toArray⟩])).run Try.prog w = .ok (.bool (decide ((k, x) = (l, y)))) w := by
  have hb := bytes_beq x y
  have h : decide ((k, x) = (l, y)) = ((k == l) && decide (x = y)) := by
    by_cases a : k = l
    · by_cases b : x = y
      · subst a b; simp
      · simp [a, b]
    · simp [a]
  rw [h]
  obtain ⟨r2, hr2⟩ : ∃ r2, decide (x = y) = r2 := ⟨_, rfl⟩
  rw [hr2] at hb ⊢
  cases hx : (k == l) <;> cases r2 <;> go_simp
  all_goals simpa using hr2
theorem take_eq {K M : List Tk} {k : Nat} (h : K.take k = M.take k) (hk : k < K.length) (hm : k < M.length) (e : K.getD k tkZ = M.getD k tkZ) : K.take (k + 1) = M.take (k + 1) := by
  rw [List.take_succ_eq_append_getElem hk, List.take_succ_eq_append_getElem hm, h]
  rw [List.getD_eq_getElem?_getD, List.getD_eq_getElem?_getD, List.getElem?_eq_getElem hk, List.getElem?_eq_getElem hm] at e
  rw [show K[k] = M[k] from e]
set_option maxRecDepth 100000 in
set_option maxHeartbeats 1000000 in
theorem k_SameTokens (w : World) (a b : Option Addr) (n m ca cb : Nat) (K M : List Tk) (hK : TReads w a n K) (hM : TReads w b m M) (hn : n ≤ 1000000) (hm : m ≤ 1000000) :
    Calls Try.prog 13 #[.slice a n ca, .slice b m cb] w fun e w' => e = .returned (.bool (decide (K = M))) ∧ Junk w w' := by
  obtain ⟨hKl, hKc⟩ := hK
  obtain ⟨hMl, hMc⟩ := hM
  by_cases hnm : n = m
  · subst hnm
    have HKc := Lib.hid hKc; have HMc := Lib.hid hMc; have HKl := Lib.hid hKl; have HMl := Lib.hid hMl
    obtain ⟨r, hr⟩ : ∃ r, decide (K = M) = r := ⟨_, rfl⟩
    rw [hr]
    have HR := Lib.hid hr
    clear hKc hMc hr hKl hMl
    go_enter Try.func13, Try.ntmps13
    go_wp2_with fail
    go_loopw [5] (fun i wr => ∃ (k d : Nat), i = .int .i64 (k : Int) ∧ k ≤ n ∧ K.take k = M.take k ∧ wr = w.drewN d) (fun i _ => n - (intOf i).toNat)
    case atStart => exact ⟨0, 0, rfl, Nat.zero_le _, rfl, rfl⟩
    case round =>
      obtain ⟨k, d, rfl, hk, ht, rfl⟩ := hrel
      have HT := Lib.hid ht
      clear ht
      by_cases hlt : k < n
      · obtain ⟨b1, o1, rfl, hc1⟩ : ∃ b off, a = some ⟨b, off, none⟩ ∧ ∀ i, i < n → w.cell? ⟨b, off + i * 2, none⟩ = some (.int .i64 (K.getD i tkZ).1) ∧ w.cell? ⟨b, off + i * 2 + 1, none⟩ = some (.string ⟨(K.getD i tkZ).2.toArray⟩) := HKc.out.resolve_left (by omega)
        obtain ⟨b2, o2, rfl, hc2⟩ : ∃ b' off, b = some ⟨b', off, none⟩ ∧ ∀ i, i < n → w.cell? ⟨b', off + i * 2, none⟩ = some (.int .i64 (M.getD i tkZ).1) ∧ w.cell? ⟨b', off + i * 2 + 1, none⟩ = some (.string ⟨(M.getD i tkZ).2.toArray⟩) := HMc.out.resolve_left (by omega)
        obtain ⟨c1, c2⟩ := hc1 k hlt
        obtain ⟨c3, c4⟩ := hc2 k hlt
        have HE := Lib.hid (fun e => take_eq HT.out (by have := HKl.out; omega) (by have := HMl.out; omega) e)
        have HNE := Lib.hid (fun (e : K.getD k tkZ ≠ M.getD k tkZ) => (show K ≠ M from fun h => e (by rw [h])))
        generalize K.getD k tkZ = p at *
        generalize M.getD k tkZ = q at *
        obtain ⟨kd, x⟩ := p
        obtain ⟨kd2, y⟩ := q
        simp only at c1 c2 c3 c4
        clear hc1 hc2
        by_cases e : (kd, x) = (kd2, y)
        · have HT2 := Lib.hid (HE.out e)
          have hne : ∀ w, (binOp .neq 31 (.agg #[.int .i64 kd, .string ⟨x.toArray⟩]) (.agg #[.int .i64 kd2, .string ⟨y.toArray⟩])).run Try.prog w = .ok (.bool false) w := fun w => by rw [tk_ne, decide_eq_true e]; rfl
          clear e
          go_wp2_with fail
          go_quiet (fail)
          go_wp2_with fail
          go_roundw
          case rel => exact ⟨k + 1, _, by go_num, by omega, HT2.out, rfl⟩
          case measure => simp [intOf]; omega
        · have HT2 := Lib.hid (HNE.out e)
          have hne : ∀ w, (binOp .neq 31 (.agg #[.int .i64 kd, .string ⟨x.toArray⟩]) (.agg #[.int .i64 kd2, .string ⟨y.toArray⟩])).run Try.prog w = .ok (.bool true) w := fun w => by rw [tk_ne, decide_eq_false e]; rfl
          clear e
          go_wp2_with fail
          go_quiet (fail)
          go_wp2
          go_ret
          exact ⟨by rw [← HR.out, decide_eq_false HT2.out]; rfl, junk_of_below (by (repeat' first | with_reducible (first | apply Below.refl | assumption | apply bw_a | apply bw_d | apply bw_n | apply bw_p | apply bw_c | apply bw_r) | go_size))⟩
      · obtain rfl : k = n := by omega
        have HEQ := Lib.hid (show K = M by
          have h := HT.out
          rwa [List.take_of_length_le (by have := HKl.out; omega), List.take_of_length_le (by have := HMl.out; omega)] at h)
        go_wp2
        go_ret
        exact ⟨by rw [← HR.out, decide_eq_true HEQ.out]; rfl, junk_of_below (by (repeat' first | with_reducible (first | apply Below.refl | assumption | apply bw_a | apply bw_d | apply bw_n | apply bw_p | apply bw_c | apply bw_r) | go_size))⟩
  · have hne : ((n : Int) != (m : Int)) = true := by rw [bne_iff_ne]; omega
    have HN := Lib.hid (show K ≠ M from fun h => hnm (by rw [← hKl, ← hMl, h]))
    clear hKc hMc hKl hMl hnm
    go_enter Try.func13, Try.ntmps13
    go_wp2
    go_ret
    exact ⟨by rw [decide_eq_false HN.out]; rfl, junk_of_below (by (repeat' first | with_reducible (first | apply Below.refl | assumption | apply bw_a | apply bw_d | apply bw_n | apply bw_p | apply bw_c | apply bw_r) | go_size))⟩
/-- Are there too many tokens, or a too long one? -/
def longT (K : List Tk) : Bool := K.any (fun t => decide (300 < t.2.length)) || decide (60 < K.length)
theorem any_at {K : List Tk} {k : Nat} (hk : k < K.length) (h : 300 < (K.getD k tkZ).2.length) : longT K = true := by
  unfold longT
  rw [Bool.or_eq_true, List.any_eq_true]
  refine .inl ⟨K[k], List.getElem_mem hk, ?_⟩
  rw [List.getD_eq_getElem?_getD, List.getElem?_eq_getElem hk] at h
  exact decide_eq_true h
theorem any_no {K : List Tk} (h : ∀ j, j < K.length → (K.getD j tkZ).2.length ≤ 300) : longT K = decide (60 < K.length) := by
  have : K.any (fun t => decide (300 < t.2.length)) = false := by
    rw [List.any_eq_false]
    intro t ht
    obtain ⟨j, hj, rfl⟩ := List.mem_iff_getElem.1 ht
    have := h j hj
    rw [List.getD_eq_getElem?_getD, List.getElem?_eq_getElem hj] at this
    simp; exact this
  unfold longT
  rw [this, Bool.false_or]
set_option maxRecDepth 100000 in
set_option maxHeartbeats 1000000 in
theorem k_LongTokens (w : World) (a : Option Addr) (n ca : Nat) (K : List Tk) (hK : TReads w a n K) (hn : n ≤ maxLen) :
    Calls Try.prog 17 #[.slice a n ca] w fun e w' => e = .returned (.bool (longT K)) ∧ Junk w w' := by
  obtain ⟨hKl, hKc⟩ := hK
  have HKc := Lib.hid hKc; have HKl := Lib.hid hKl
  obtain ⟨r, hr⟩ : ∃ r, longT K = r := ⟨_, rfl⟩
  rw [hr]
  have HR := Lib.hid hr
  have hnm : (n : Int) ≤ 9223372036854775807 := by simp only [maxLen] at hn; omega
  clear hKc hr hKl hn
  go_enter Try.func17, Try.ntmps17
  go_wp2_with fail
  go_loopw [3] (fun i wr => ∃ (k : Nat), i = .int .i64 (k : Int) ∧ k ≤ n ∧ (∀ j, j < k → (K.getD j tkZ).2.length ≤ 300) ∧ wr = w) (fun i _ => n - (intOf i).toNat)
  case atStart => exact ⟨0, rfl, Nat.zero_le _, fun j h => absurd h (Nat.not_lt_zero _), rfl⟩
  case round =>
    obtain ⟨k, rfl, hk, ht, rfl⟩ := hrel
    have HT := Lib.hid ht
    clear ht
    by_cases hlt : k < n
    · obtain ⟨b1, o1, rfl, hc1⟩ : ∃ b off, a = some ⟨b, off, none⟩ ∧ ∀ i, i < n → wr.cell? ⟨b, off + i * 2, none⟩ = some (.int .i64 (K.getD i tkZ).1) ∧ wr.cell? ⟨b, off + i * 2 + 1, none⟩ = some (.string ⟨(K.getD i tkZ).2.toArray⟩) := HKc.out.resolve_left (by omega)
      obtain ⟨c1, c2⟩ := hc1 k hlt
      have HA := Lib.hid (fun h => any_at (K := K) (k := k) (by have := HKl.out; omega) h)
      have HN := Lib.hid (fun (h : (K.getD k tkZ).2.length ≤ 300) j (hj : j < k + 1) => (Nat.lt_or_ge j k).elim (fun e => HT.out j e) (fun e => by rw [show j = k by omega]; exact h))
      generalize K.getD k tkZ = p at *
      obtain ⟨kd, x⟩ := p
      simp only at c1 c2
      clear hc1
      by_cases hx : 300 < x.length
      · have HA2 := Lib.hid (HA.out hx)
        go_wp2
        go_ret
        exact ⟨by rw [← HR.out, HA2.out]; rfl, junk_of_below (by (repeat' first | with_reducible (first | apply Below.refl | assumption | apply bw_a | apply bw_d | apply bw_n | apply bw_p | apply bw_c | apply bw_r) | go_size))⟩
      · have HN2 := Lib.hid (HN.out (by simp only; omega))
        go_wp2_with fail
        go_roundw
        case rel => exact ⟨k + 1, by go_num, by omega, HN2.out, trivial⟩
        case measure => simp [intOf]; omega
    · obtain rfl : k = n := by omega
      have HA := Lib.hid (any_no (K := K) (fun j hj => HT.out j (by have := HKl.out; omega)))
      go_wp2
      go_ret
      exact ⟨by rw [← HR.out, HA.out, HKl.out]; simp; omega, junk_of_below (by (repeat' first | with_reducible (first | apply Below.refl | assumption | apply bw_a | apply bw_d | apply bw_n | apply bw_p | apply bw_c | apply bw_r) | go_size))⟩
end Go.Proofs.Ytpoahdfhhnlghaa

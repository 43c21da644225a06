/- Contracts of token's isNone and of apportionref15's may; slices.IndexFunc and slices.ContainsFunc over tokens. -/
import Derived.Test.YtpoahdfhhnlghaaTkT
import Derived.Test.YtpoahdfhhnlghaaTkU
namespace Go.Proofs.Ytpoahdfhhnlghaa
set_option linter.unusedVariables false
set_option linter.unusedSimpArgs false
open Go.RowKit

theorem may_told (t : Tk) : mayT t = decide (toldT t.2 = [t]) := by
  unfold mayT toldT
  by_cases h : (faultT t.2).1 = 0
  · rw [if_pos h, decide_eq_true h, Bool.true_and]
  · rw [if_neg h, decide_eq_false h, Bool.false_and, decide_eq_false (fun e => nomatch e)]
theorem TReads.one {w : World} {a : Option Addr} {q : Tk} (h : TReads w a 1 [q]) : ∃ b off, a = some ⟨b, off, none⟩ ∧ w.cell? ⟨b, off, none⟩ = some (.int .i64 q.1) ∧ w.cell? ⟨b, off + 1, none⟩ = some (.string ⟨q.2.toArray⟩) := by
  obtain ⟨_, h⟩ := h
  obtain ⟨b, off, rfl, hc⟩ := h.resolve_left (by omega)
  obtain ⟨c1, c2⟩ := hc 0 (by omega)
  exact ⟨b, off, rfl, c1, c2⟩
set_option maxRecDepth 100000 in
set_option maxHeartbeats 1000000 in
theorem n_tkNone (kd : Int) (x : List UInt8) (w : World) (hl : x.length ≤ 1099511627776) :
    Calls Try.prog 29 #[.agg #[.int .i64 kd, .string ⟨x.toArray⟩]] w fun e w' => e = .returned (.bool (!mayT (kd, x))) ∧ Junk w w' := by
  have HT := Lib.hid (fun W => n_tkTokens x W hl)
  obtain ⟨r, hr⟩ : ∃ r, mayT (kd, x) = r := ⟨_, rfl⟩
  rw [hr]
  have HR := Lib.hid (hr.symm.trans (may_told (kd, x)))
  clear hr
  go_enter Try.func29, Try.ntmps29
  go_wp2_with fail
  refine (HT.out _).mono ?_; rintro e w' ⟨v, rfl, hown, J, d, rfl⟩
  obtain ⟨a, cap, rfl, hR, hna⟩ := treads_of_owns hown
  generalize hT : toldT x = T at *
  have HTT := Lib.hid hT
  generalize (faultT x).1 = f at *
  generalize ((faultT x).2 : Int) = f2 at *
  have hb : Below w.heap.size w ((w.alloc (.cells #[.int .i64 kd, .string ⟨x.toArray⟩] 31)).plus J d) := by (repeat' first | with_reducible (first | apply Below.refl | assumption | apply bw_a | apply bw_d | apply bw_n | apply bw_p | apply bw_c | apply bw_r) | go_size)
  have b0 : ((w.alloc (.cells #[.int .i64 kd, .string ⟨x.toArray⟩] 31)).plus J d).cell? ⟨w.heap.size, 0, none⟩ = some (.int .i64 kd) := by simp [go_sem]
  have b1 : ((w.alloc (.cells #[.int .i64 kd, .string ⟨x.toArray⟩] 31)).plus J d).cell? ⟨w.heap.size, 1, none⟩ = some (.string ⟨x.toArray⟩) := by simp [go_sem]
  have hws : w.heap.size < ((w.alloc (.cells #[.int .i64 kd, .string ⟨x.toArray⟩] 31)).plus J d).heap.size := by simp; omega
  generalize (w.alloc (.cells #[.int .i64 kd, .string ⟨x.toArray⟩] 31)).plus J d = W at *
  have HB := Lib.hid hb
  clear hown hT hb
  by_cases h1 : T.length = 1
  · obtain ⟨q, rfl⟩ : ∃ q, T = [q] := List.length_eq_one_iff.1 h1
    obtain ⟨b, off, rfl, c1, c2⟩ := hR.one
    obtain ⟨qk, qx⟩ := q
    simp only [List.length_singleton] at c1 c2 ⊢
    have hbs : b < W.heap.size := World.block_lt_of_cell? _ _ c1
    have hne : ∀ w, (binOp .neq 31 (.agg #[.int .i64 qk, .string ⟨qx.toArray⟩]) (.agg #[.int .i64 kd, .string ⟨x.toArray⟩])).run Try.prog w = .ok (.bool (!r)) w := fun w => by
      rw [tk_ne, HR.out]
      simp
    clear hR hna h1
    go_wp2_with fail
    go_quiet (fail)
    go_wp2
    go_ret
    exact ⟨rfl, junk_of_below (by have := HB.out; have := HB.out.size; (repeat' first | with_reducible (first | apply Below.refl | assumption | apply bw_a | apply bw_d | apply bw_n | apply bw_p | apply bw_c | apply bw_r) | go_size))⟩
  · have e1 : ((T.length : Int) != 1) = true := by rw [bne_iff_ne]; omega
    have HRF := Lib.hid (show r = false by rw [HR.out]; exact decide_eq_false (fun e => h1 (by rw [e]; rfl)))
    clear hR hna h1
    go_wp2_with fail
    go_quiet (fail)
    go_wp2
    go_ret
    exact ⟨by rw [HRF.out]; rfl, junk_of_below (by have := HB.out; have := HB.out.size; (repeat' first | with_reducible (first | apply Below.refl | assumption | apply bw_a | apply bw_d | apply bw_n | apply bw_p | apply bw_c | apply bw_r) | go_size))⟩
theorem all_may_at {K : List Tk} {k : Nat} (hk : k < K.length) (h : mayT (K.getD k tkZ) = false) : K.all mayT = false := by
  rw [List.all_eq_false]
  refine ⟨K[k], List.getElem_mem hk, ?_⟩
  rw [List.getD_eq_getElem?_getD, List.getElem?_eq_getElem hk] at h
  rw [show K[k] = (some K[k]).getD tkZ from rfl, h]; decide
theorem all_may_no {K : List Tk} (h : ∀ j, j < K.length → mayT (K.getD j tkZ) = true) : K.all mayT = true := by
  rw [List.all_eq_true]
  intro t ht
  obtain ⟨j, hj, rfl⟩ := List.mem_iff_getElem.1 ht
  have := h j hj
  rwa [List.getD_eq_getElem?_getD, List.getElem?_eq_getElem hj] at this
theorem getD_mem {K : List Tk} {k : Nat} (hk : k < K.length) : K.getD k tkZ ∈ K := by
  rw [List.getD_eq_getElem?_getD, List.getElem?_eq_getElem hk]; exact List.getElem_mem hk
/-- Texts of a bounded length. -/
def ShortT (K : List Tk) : Prop := ∀ t ∈ K, t.2.length ≤ 1000000
def IdxR (K : List Tk) (w : World) (e : Ending) (w' : World) : Prop := (∃ z : Int, e = .returned (.int .i64 z) ∧ ((z = -1 ∧ K.all mayT = true) ∨ (0 ≤ z ∧ K.all mayT = false))) ∧ Junk w w'
set_option maxRecDepth 100000 in
set_option maxHeartbeats 1000000 in
theorem n_tkIndex (w : World) (a : Option Addr) (n ca : Nat) (K : List Tk) (hK : TReads w a n K) (hs : ShortT K) (hn : n ≤ 1000000) :
    Calls Try.prog 38 #[.slice a n ca, .func (.func 29) #[] #[]] w (IdxR K w) := by
  obtain ⟨hKl, hKc⟩ := hK
  have HKc := Lib.hid hKc; have HKl := Lib.hid hKl
  have HS := Lib.hid hs
  clear hKc hKl hs
  go_enter Try.func38, Try.ntmps38
  go_wp2_with fail
  go_loopw [8, 5] (fun i _ wr => ∃ (k : Nat) (J : Array Obj) (d : Nat), i = .int .i64 (k : Int) ∧ k ≤ n ∧ (∀ j, j < k → mayT (K.getD j tkZ) = true) ∧ wr = w.plus J d) (fun i _ _ => n - (intOf i).toNat)
  case atStart => exact ⟨0, #[], _, rfl, Nat.zero_le _, fun j h => absurd h (Nat.not_lt_zero _), (plus_nil w).symm⟩
  case round =>
    obtain ⟨k, J, d, rfl, hk, ht, rfl⟩ := hrel
    have HT := Lib.hid ht
    clear ht
    by_cases hlt : k < n
    · obtain ⟨b1, o1, rfl, hc1⟩ : ∃ b off, a = some ⟨b, off, none⟩ ∧ ∀ i, i < n → w.cell? ⟨b, off + i * 2, none⟩ = some (.int .i64 (K.getD i tkZ).1) ∧ w.cell? ⟨b, off + i * 2 + 1, none⟩ = some (.string ⟨(K.getD i tkZ).2.toArray⟩) := HKc.out.resolve_left (by omega)
      obtain ⟨c1, c2⟩ := hc1 k hlt
      have hbs : b1 < w.heap.size := World.block_lt_of_cell? _ _ c1
      have HA := Lib.hid (fun h => all_may_at (K := K) (k := k) (by have := HKl.out; omega) h)
      have HN := Lib.hid (fun (h : mayT (K.getD k tkZ) = true) j (hj : j < k + 1) => (Nat.lt_or_ge j k).elim (fun e => HT.out j e) (fun e => by rw [show j = k by omega]; exact h))
      have hsh := HS.out _ (getD_mem (K := K) (k := k) (by have := HKl.out; omega))
      generalize K.getD k tkZ = p at *
      obtain ⟨kd, x⟩ := p
      simp only at c1 c2 hsh
      have HP := Lib.hid (fun W => n_tkNone kd x W (by omega))
      clear hc1 hsh
      cases hx : mayT (kd, x) with
      | false =>
        have HA2 := Lib.hid (HA.out hx)
        rw [hx] at HP
        clear hx
        go_wp2_with fail
        refine (HP.out _).mono ?_; rintro e w' ⟨rfl, J2, d2, rfl⟩
        go_wp2
        go_ret
        exact ⟨⟨k, rfl, .inr ⟨by omega, HA2.out⟩⟩, junk_of_below (by (repeat' first | with_reducible (first | apply Below.refl | assumption | apply bw_a | apply bw_d | apply bw_n | apply bw_p | apply bw_c | apply bw_r) | go_size))⟩
      | true =>
        have HN2 := Lib.hid (HN.out hx)
        rw [hx] at HP
        clear hx
        go_wp2_with fail
        refine (HP.out _).mono ?_; rintro e w' ⟨rfl, J2, d2, rfl⟩
        go_wp2_with fail
        go_roundw
        case rel => exact ⟨k + 1, _, _, by go_num, by omega, HN2.out, rfl⟩
        case measure => simp [intOf]; omega
    · obtain rfl : k = n := by omega
      have HA := Lib.hid (all_may_no (K := K) (fun j hj => HT.out j (by have := HKl.out; omega)))
      go_wp2
      go_ret
      exact ⟨⟨-1, rfl, .inl ⟨rfl, HA.out⟩⟩, junk_of_below (by (repeat' first | with_reducible (first | apply Below.refl | assumption | apply bw_a | apply bw_d | apply bw_n | apply bw_p | apply bw_c | apply bw_r) | go_size))⟩
theorem n_tkContains (w : World) (a : Option Addr) (n ca : Nat) (K : List Tk) (hK : TReads w a n K) (hs : ShortT K) (hn : n ≤ 1000000) :
    Calls Try.prog 28 #[.slice a n ca, .func (.func 29) #[] #[]] w fun e w' => e = .returned (.bool (!K.all mayT)) ∧ Junk w w' := by
  have HI := Lib.hid (fun W (h : TReads W a n K) => n_tkIndex W a n ca K h hs hn)
  have HK := Lib.hid hK
  clear hK hs
  go_enter Try.func28, Try.ntmps28
  go_wp2_with fail
  refine (HI.out _ HK.out).mono ?_; rintro e w' ⟨⟨z, rfl, hz⟩, J, d, rfl⟩
  rcases hz with ⟨rfl, hz⟩ | ⟨h0, hz⟩
  · have HZ := Lib.hid hz
    clear hz
    go_wp2
    go_ret
    exact ⟨by rw [HZ.out]; rfl, junk_of_below (by (repeat' first | with_reducible (first | apply Below.refl | assumption | apply bw_a | apply bw_d | apply bw_n | apply bw_p | apply bw_c | apply bw_r) | go_size))⟩
  · have HZ := Lib.hid hz
    clear hz
    go_wp2
    go_ret
    exact ⟨by rw [HZ.out]; first | rfl | (simp; omega), junk_of_below (by (repeat' first | with_reducible (first | apply Below.refl | assumption | apply bw_a | apply bw_d | apply bw_n | apply bw_p | apply bw_c | apply bw_r) | go_size))⟩
end Go.Proofs.Ytpoahdfhhnlghaa

/- Contracts of token's Text and of apportionref15's may and Text. -/
import Derived.Test.YtpoahdfhhnlghaaTkW
namespace Go.Proofs.Ytpoahdfhhnlghaa
set_option linter.unusedVariables false
set_option linter.unusedSimpArgs false
open Go.RowKit

/-- What Text tells. -/
def toldX (K : List Tk) : List UInt8 := if errT K = 0 then txT K else []
def TxRes (K : List Tk) (w : World) (e : Ending) (w' : World) : Prop := e = .returned (.tuple #[.string ⟨(toldX K).toArray⟩, .int .i64 (errT K)]) ∧ Junk w w'
theorem tx_err {K : List Tk} {w w' : World} {x : Value} {z : Int} (h : errT K = z) (hz : z ≠ 0) (hx : x = .tuple #[.string ⟨#[]⟩, .int .i64 z]) (hj : Junk w w') : TxRes K w (.returned x) w' := by
  refine ⟨?_, hj⟩
  unfold toldX
  rw [h, if_neg hz, hx]
theorem tx_fine {K : List Tk} {w w' : World} {x : Value} (h : errT K = 0) (hx : x = .tuple #[.string ⟨(txT K).toArray⟩, .int .i64 0]) (hj : Junk w w') : TxRes K w (.returned x) w' := by
  refine ⟨?_, hj⟩
  unfold toldX
  rw [h, if_pos rfl, hx]
set_option maxRecDepth 100000 in
set_option maxHeartbeats 1000000 in
theorem n_tkText (w : World) (a : Option Addr) (n ca : Nat) (K : List Tk) (hK : TReads w a n K) (hs : ShortT K) (hn : n ≤ 1000000) :
    Calls Try.prog 18 #[.slice a n ca] w (TxRes K w) := by
  have hKl := hK.1
  by_cases h40 : 40 < n
  · have HE := Lib.hid (show errT K = 8 by unfold errT; rw [if_pos (by omega)])
    clear hK hs hKl
    go_enter Try.func18, Try.ntmps18
    go_wp2
    go_ret2
    exact tx_err HE.out (by decide) rfl (junk_of_below (by (repeat' first | with_reducible (first | apply Below.refl | assumption | apply bw_a | apply bw_d | apply bw_n | apply bw_p | apply bw_c | apply bw_r) | go_size)))
  have HC := Lib.hid (n_tkContains w a n ca K hK hs hn)
  have HJ := Lib.hid (fun W (h : TReads W a n K) => n_tkJoin W a n ca K h hs (by omega))
  have HK := Lib.hid hK
  cases hm : K.all mayT with
  | false =>
    have HE := Lib.hid (show errT K = 2 by unfold errT; rw [if_neg (by omega), hm]; rfl)
    rw [hm] at HC
    clear hK hs hKl hm
    go_enter Try.func18, Try.ntmps18
    go_wp2_with fail
    refine HC.out.mono ?_; rintro e w' ⟨rfl, J, d, rfl⟩
    go_wp2
    go_ret2
    exact tx_err HE.out (by decide) rfl (junk_of_below (by (repeat' first | with_reducible (first | apply Below.refl | assumption | apply bw_a | apply bw_d | apply bw_n | apply bw_p | apply bw_c | apply bw_r) | go_size)))
  | true =>
    rw [hm] at HC
    by_cases h200 : 200 < (txT K).length
    · have HE := Lib.hid (show errT K = 3 by unfold errT; rw [if_neg (by omega), hm, if_pos rfl, if_pos h200])
      generalize txT K = D at *
      clear hK hs hKl hm
      go_enter Try.func18, Try.ntmps18
      go_wp2_with fail
      refine HC.out.mono ?_; rintro e w' ⟨rfl, J, d, rfl⟩
      go_wp2_with fail
      refine (HJ.out _ (HK.out.below (by (repeat' first | with_reducible (first | apply Below.refl | assumption | apply bw_a | apply bw_d | apply bw_n | apply bw_p | apply bw_c | apply bw_r) | go_size)))).mono ?_; rintro e w' ⟨rfl, J2, d2, rfl⟩
      go_wp2
      go_ret2
      exact tx_err HE.out (by decide) rfl (junk_of_below (by (repeat' first | with_reducible (first | apply Below.refl | assumption | apply bw_a | apply bw_d | apply bw_n | apply bw_p | apply bw_c | apply bw_r) | go_size)))
    · have HE := Lib.hid (show errT K = 0 by unfold errT; rw [if_neg (by omega), hm, if_pos rfl, if_neg h200])
      have HX := Lib.hid (fun w' (x : Value) (hx : x = .tuple #[.string ⟨(txT K).toArray⟩, .int .i64 0]) (hj : Junk w w') => tx_fine HE.out hx hj)
      generalize txT K = D at *
      clear hK hs hKl hm
      go_enter Try.func18, Try.ntmps18
      go_wp2_with fail
      refine HC.out.mono ?_; rintro e w' ⟨rfl, J, d, rfl⟩
      go_wp2_with fail
      refine (HJ.out _ (HK.out.below (by (repeat' first | with_reducible (first | apply Below.refl | assumption | apply bw_a | apply bw_d | apply bw_n | apply bw_p | apply bw_c | apply bw_r) | go_size)))).mono ?_; rintro e w' ⟨rfl, J2, d2, rfl⟩
      go_wp2
      go_ret2
      exact HX.out _ _ rfl (junk_of_below (by (repeat' first | with_reducible (first | apply Below.refl | assumption | apply bw_a | apply bw_d | apply bw_n | apply bw_p | apply bw_c | apply bw_r) | go_size)))
set_option maxRecDepth 100000 in
set_option maxHeartbeats 1000000 in
theorem r_tkMay (kd : Int) (x : List UInt8) (w : World) (hl : x.length ≤ 1099511627776) :
    Calls Try.prog 31 #[.agg #[.int .i64 kd, .string ⟨x.toArray⟩]] w fun e w' => e = .returned (.bool (mayT (kd, x))) ∧ Junk w w' := by
  have HT := Lib.hid (fun W => r_tkTokens x W hl)
  have hdef : mayT (kd, x) = (decide ((faultT x).1 = 0) && decide (toldT x = [(kd, x)])) := by
    rw [may_told]
    unfold toldT
    by_cases h : (faultT x).1 = 0
    · rw [if_pos h, decide_eq_true h, Bool.true_and]
    · rw [if_neg h, decide_eq_false h, Bool.false_and, decide_eq_false (fun e => nomatch e)]
  obtain ⟨r, hr⟩ : ∃ r, mayT (kd, x) = r := ⟨_, rfl⟩
  rw [hr]
  have HR := Lib.hid (hr.symm.trans hdef)
  clear hr hdef
  go_enter Try.func31, Try.ntmps31
  go_wp2_with fail
  refine (HT.out _).mono ?_; rintro e w' ⟨v, rfl, hown, J, d, rfl⟩
  obtain ⟨a, cap, rfl, hR, hna⟩ := treads_of_owns hown
  generalize toldT x = T at *
  generalize (faultT x).1 = f at *
  generalize ((faultT x).2 : Int) = f2 at *
  have hb : Below w.heap.size w ((w.alloc (.cells #[.int .i64 kd, .string ⟨x.toArray⟩] 31)).plus J d) := by (repeat' first | with_reducible (first | apply Below.refl | assumption | apply bw_a | apply bw_d | apply bw_n | apply bw_p | apply bw_c | apply bw_r) | go_size)
  have b0 : ((w.alloc (.cells #[.int .i64 kd, .string ⟨x.toArray⟩] 31)).plus J d).cell? ⟨w.heap.size, 0, none⟩ = some (.int .i64 kd) := by simp [go_sem]
  have b1 : ((w.alloc (.cells #[.int .i64 kd, .string ⟨x.toArray⟩] 31)).plus J d).cell? ⟨w.heap.size, 1, none⟩ = some (.string ⟨x.toArray⟩) := by simp [go_sem]
  have hws : w.heap.size < ((w.alloc (.cells #[.int .i64 kd, .string ⟨x.toArray⟩] 31)).plus J d).heap.size := by simp; omega
  generalize (w.alloc (.cells #[.int .i64 kd, .string ⟨x.toArray⟩] 31)).plus J d = W at *
  have HB := Lib.hid hb
  clear hown hb
  by_cases hf : f = 0
  · subst hf
    by_cases h1 : T.length = 1
    · obtain ⟨q, rfl⟩ : ∃ q, T = [q] := List.length_eq_one_iff.1 h1
      obtain ⟨b, off, rfl, c1, c2⟩ := hR.one
      obtain ⟨qk, qx⟩ := q
      simp only [List.length_singleton] at c1 c2 ⊢
      have hbs : b < W.heap.size := World.block_lt_of_cell? _ _ c1
      have hne : ∀ w, (binOp .eql 31 (.agg #[.int .i64 qk, .string ⟨qx.toArray⟩]) (.agg #[.int .i64 kd, .string ⟨x.toArray⟩])).run Try.prog w = .ok (.bool r) w := fun w => by
        rw [tk_eq, HR.out]
        simp
      clear hR hna h1
      go_wp2_with fail
      go_quiet (fail)
      go_wp2
      go_ret
      exact ⟨rfl, junk_of_below (by have := HB.out; have := HB.out.size; (repeat' first | with_reducible (first | apply Below.refl | assumption | apply bw_a | apply bw_d | apply bw_n | apply bw_p | apply bw_c | apply bw_r) | go_size))⟩
    · have e1 : ((T.length : Int) == 1) = false := by rw [beq_eq_false_iff_ne]; omega
      have HRF := Lib.hid (show r = false by rw [HR.out, decide_eq_false (fun e : T = [(kd, x)] => h1 (by rw [e]; rfl)), Bool.and_false])
      clear hR hna h1
      go_wp2_with fail
      go_quiet (fail)
      go_wp2
      go_ret
      exact ⟨by rw [HRF.out]; rfl, junk_of_below (by have := HB.out; have := HB.out.size; (repeat' first | with_reducible (first | apply Below.refl | assumption | apply bw_a | apply bw_d | apply bw_n | apply bw_p | apply bw_c | apply bw_r) | go_size))⟩
  · have e1 : (f == 0) = false := by rw [beq_eq_false_iff_ne]; exact hf
    have HRF := Lib.hid (show r = false by rw [HR.out, decide_eq_false hf, Bool.false_and])
    clear hR hna hf
    go_wp2_with fail
    go_quiet (fail)
    go_wp2
    go_ret
    exact ⟨by rw [HRF.out]; rfl, junk_of_below (by have := HB.out; have := HB.out.size; (repeat' first | with_reducible (first | apply Below.refl | assumption | apply bw_a | apply bw_d | apply bw_n | apply bw_p | apply bw_c | apply bw_r) | go_size))⟩
end Go.Proofs.Ytpoahdfhhnlghaa

/- Contract of Num.carried: digits brought below 2^16, no sign of nothing. Condition: digits from 0 to 2^40, a value below 2^192. -/
import Derived.Test.YtfkhefiilmdhmaaNumA
namespace Go.Proofs.Ytfkhefiilmdhmaa
set_option linter.unusedVariables false
set_option linter.unusedSimpArgs false
open Go.RowKit

/-- The end of a function that answers a number. -/
theorem bodyPost_num {fn : Func} {R : Ending → World → Prop} {a : Act} {w : World} (p : Tmp) (h : fn.results = #[.cell p 114]) (g : Nat)
    (hp : a.tmps.getD p undef = .pointer (some ⟨g, 0, none⟩)) (ha : (w.rowAt g).any (fun c => c.size == 13) = true) (hd : a.defers = [])
    (hR : ∀ c, w.rowAt g = some c → R (.returned (.agg c)) w) : bodyPost Try.prog fn R .ret a w := by
  cases hr : w.rowAt g with
  | none => rw [hr] at ha; simp at ha
  | some c =>
    rw [hr] at ha
    obtain ⟨t, hg⟩ := rowAt_some hr
    exact bodyPost_ret (results_cell_row h _ _ g t c (0, 0) _ hp hg Try.underlying114 rfl (by rw [show c.size = 13 by simpa using ha]; kernel_rfl)) hd (hR c hr)

theorem allZero_digs (Z : Int) (z0 : 0 ≤ Z) (hZ : Z < 65536 ^ 12) : allZero (digs 12 Z) = decide (Z = 0) := by
  have h := digs_zero_iff 12 Z z0 hZ
  by_cases hz : Z = 0
  · subst hz; rfl
  · rw [decide_eq_false hz]
    have hne : digs 12 Z ≠ List.replicate 12 0 := fun e => hz (h.1 e)
    unfold allZero
    rw [Bool.eq_false_iff]
    intro hall
    apply hne
    rw [List.all_eq_true] at hall
    have := List.eq_replicate_of_mem (l := digs 12 Z) (a := 0) (fun b hb => by simpa using hall b hb)
    rwa [digs_len] at this

set_option maxRecDepth 100000 in
set_option maxHeartbeats 1000000 in
theorem r_carried (b : Bool) (ds : List Int) (Z : Int) (z0 : 0 ≤ Z) (hZ : Z < 65536 ^ 12) (hinv : CInv Z 0 ds) (w : World) :
    Calls Try.prog 107 #[numOf b ds] w fun e w' => e = .returned (numOf (b && decide (Z ≠ 0)) (digs 12 Z)) ∧ Junk w w' := by
  unfold numOf
  have HI := Lib.hid hinv; clear hinv
  have HZ := Lib.hid hZ; clear hZ
  go_enter Try.func107, Try.ntmps107
  go_wp2_with fail
  go_loopw [3] (fun i wr => ∃ (k n : Nat) (es : List Int), i = .int .i64 k ∧ k ≤ 11 ∧ CInv Z k es ∧ wr = ((w.alloc (.cells (numCells b es) 114)).alloc (.cells (numCells false (List.replicate 12 0)) 114)).drewN n) (fun i _ => 11 - (intOf i).toNat)
  case atStart => exact ⟨0, 0, ds, rfl, by omega, HI.out, rfl⟩
  case round =>
    obtain ⟨k, n, es, rfl, hk, hin, rfl⟩ := hrel
    by_cases hlt : k < 11
    · have HS := Lib.hid (cinv_step Z k es hlt hin)
      have q2 : k < 12 := by omega
      have q3 : k + 1 < 12 := by omega
      have q4 : 0 ≤ es.getD k 0 := hin.2.2.1 k
      have q5 : es.getD k 0 ≤ 2199023255552 := hin.2.2.2.2.1
      have q6 : 0 ≤ es.getD (k + 1) 0 := hin.2.2.1 (k + 1)
      have q7 : es.getD (k + 1) 0 ≤ 1099511627776 := hin.2.2.2.2.2 (k + 1) (by omega)
      have g1 := numCells_get b es k (by rw [hin.1]; omega)
      have g2 := numCells_get b es (k + 1) (by rw [hin.1]; omega)
      have g3 : (numCells b es).size = 13 := by rw [numCells_size, hin.1]
      have HC := Lib.hid (show ∀ v u, ((numCells b es).setIfInBounds (1 + (k + 1)) (.int .i64 v)).setIfInBounds (1 + k) (.int .i64 u) = numCells b ((es.set (k + 1) v).set k u) from fun v u => by rw [numCells_set, numCells_set])
      unfold carryStep at HS
      generalize es.getD k 0 = x at *
      generalize es.getD (k + 1) 0 = y at *
      generalize numCells b es = C at *
      have g4 : (C.setIfInBounds (1 + (k + 1)) (.int .i64 (y + x / 65536)))[1 + k]? = some (.int .i64 x) := by
        rw [Array.getElem?_setIfInBounds_ne (by omega)]; exact g1
      clear hin
      go_wp2_with fail
      go_region
      go_wp2_with fail
      go_roundw
      case rel =>
        exact ⟨k + 1, n + 1, _, by go_num, by omega, HS.out, by rw [← HC.out]; rfl⟩
      case measure => simp [intOf]; omega
    · obtain rfl : k = 11 := by omega
      have he := cinv_end Z es HZ.out hin
      subst he
      clear hin hlt
      have hr := r_zero b (digs 12 Z) (digs_len 12 Z)
      rw [allZero_digs Z z0 HZ.out] at hr
      by_cases hz : Z = 0
      · rw [decide_eq_true hz] at hr
        have HR := Lib.hid hr
        have HE := Lib.hid (show (b && decide (Z ≠ 0)) = false by simp [hz])
        clear hr hz
        go_wp2_with (first | (refine wpList_num_load rfl _ rfl _ rfl (by first | (simp [go_sem]; done) | (simp [go_sem, *]; done)) ?_; intro c hc; simp [go_sem] at hc; subst hc) | (refine wpList_num_store rfl _ _ rfl _ rfl _ _ rfl (by first | (simp [go_sem]; done) | (simp [go_sem, *]; done)) (by first | (simp [go_sem]; done) | (simp [go_sem, *]; done)) ?_))
        refine (HR.out _).mono ?_
        rintro e w' ⟨rfl, J, d, rfl⟩
        go_wp2_with (first | (refine wpList_num_load rfl _ rfl _ rfl (by first | (simp [go_sem]; done) | (simp [go_sem, *]; done)) ?_; intro c hc; simp [go_sem] at hc; subst hc) | (refine wpList_num_store rfl _ _ rfl _ rfl _ _ rfl (by first | (simp [go_sem]; done) | (simp [go_sem, *]; done)) (by first | (simp [go_sem]; done) | (simp [go_sem, *]; done)) ?_))
        refine bodyPost_num 2 rfl _ rfl (by first | (simp [go_sem]; done) | (simp [go_sem, *]; done)) rfl ?_; intro c hc; simp [go_sem] at hc; subst hc
        exact ⟨by rw [HE.out], junk_of_below (by (repeat' (first | (with_reducible exact Below.refl _ _) | (with_reducible assumption) | (with_reducible refine Below.alloc ?_ ?_ _) | (with_reducible refine Below.drew ?_) | (with_reducible refine below_drewN ?_ _) | (with_reducible refine below_plus ?_ ?_ _ _) | (with_reducible refine Below.setCell ?_ ?_ _) | (with_reducible refine Below.setRow ?_ ?_ _) | go_size)))⟩
      · rw [decide_eq_false hz] at hr
        have HR := Lib.hid hr
        have HE := Lib.hid (show (b && decide (Z ≠ 0)) = b by simp [hz])
        clear hr hz
        go_wp2_with (first | (refine wpList_num_load rfl _ rfl _ rfl (by first | (simp [go_sem]; done) | (simp [go_sem, *]; done)) ?_; intro c hc; simp [go_sem] at hc; subst hc) | (refine wpList_num_store rfl _ _ rfl _ rfl _ _ rfl (by first | (simp [go_sem]; done) | (simp [go_sem, *]; done)) (by first | (simp [go_sem]; done) | (simp [go_sem, *]; done)) ?_))
        refine (HR.out _).mono ?_
        rintro e w' ⟨rfl, J, d, rfl⟩
        go_wp2_with (first | (refine wpList_num_load rfl _ rfl _ rfl (by first | (simp [go_sem]; done) | (simp [go_sem, *]; done)) ?_; intro c hc; simp [go_sem] at hc; subst hc) | (refine wpList_num_store rfl _ _ rfl _ rfl _ _ rfl (by first | (simp [go_sem]; done) | (simp [go_sem, *]; done)) (by first | (simp [go_sem]; done) | (simp [go_sem, *]; done)) ?_))
        refine bodyPost_num 2 rfl _ rfl (by first | (simp [go_sem]; done) | (simp [go_sem, *]; done)) rfl ?_; intro c hc; simp [go_sem] at hc; subst hc
        exact ⟨by rw [HE.out], junk_of_below (by (repeat' (first | (with_reducible exact Below.refl _ _) | (with_reducible assumption) | (with_reducible refine Below.alloc ?_ ?_ _) | (with_reducible refine Below.drew ?_) | (with_reducible refine below_drewN ?_ _) | (with_reducible refine below_plus ?_ ?_ _ _) | (with_reducible refine Below.setCell ?_ ?_ _) | (with_reducible refine Below.setRow ?_ ?_ _) | go_size)))⟩
end Go.Proofs.Ytfkhefiilmdhmaa

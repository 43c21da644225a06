/- Contract of apportionref15's next. -/
import Derived.Test.YtpoahdfhhnlghaaTkC
namespace Go.Proofs.Ytpoahdfhhnlghaa
set_option linter.unusedVariables false
set_option linter.unusedSimpArgs false
open Go.RowKit

theorem results_tk {fn : Func} {p t : Tmp} (h : fn.results = #[.cell p 31, .tmp t]) (tmps : Array Value) (w : World) (g : Nat) (c : Array Value)
    (hp : tmps.getD p undef = .pointer (some ⟨g, 0, none⟩)) (hr : w.rowAt g = some c) (hc : c.size = 2) : (results fn tmps).run Try.prog w = .ok (.tuple #[.agg c, tmps.getD t undef]) w := by
  obtain ⟨ty, hg⟩ := rowAt_some hr
  have hp' : tmps[p]?.getD undef = .pointer (some ⟨g, 0, none⟩) := by simpa using hp
  simp [results, h, hp', asAddr, run_loadVar_row w g ty _ c (0, 0) _ hg Try.underlying31 rfl (by rw [hc]; kernel_rfl)]
theorem byte_ne {s : List UInt8} {i : Nat} {c : UInt8} (h : s.getD i 0 ≠ c) : ((byteAt s i : Int) == (c.toNat : Int)) = false := by
  rw [beq_eq_false_iff_ne]
  intro e
  exact h (UInt8.toNat_inj.1 (by unfold byteAt at e; omega))
theorem next_one {s : List UInt8} {i : Nat} {w w' : World} {x : Value} {t : Tk} (h : NextT s i t (i + 1)) (hx : x = .tuple #[tkV t, .int .i64 ((i : Int) + 1)]) (hj : Junk w w') : NextR s i w (.returned x) w' :=
  ⟨t, i + 1, h, by rw [hx]; rfl, hj⟩
theorem next_go {s : List UInt8} {i k : Nat} {w w' : World} {x : Value} {t : Tk} (h : NextT s i t k) (hx : x = .tuple #[tkV t, .int .i64 (k : Int)]) (hj : Junk w w') : NextR s i w (.returned x) w' :=
  ⟨t, k, h, by rw [hx], hj⟩
theorem ex_part (L : List UInt8) (a b : Nat) : (⟨L.toArray⟩ : ByteArray).extract a b = ⟨((L.drop a).take (b - a)).toArray⟩ := by
  apply ByteArray.ext
  simp [ByteArray.data_extract]
theorem part_calls (s : List UInt8) (i k : Nat) (h1 : i < k) (h2 : k ≤ s.length) (hl : s.length ≤ 1000) (w : World) :
    (Calls Try.prog 15 #[.string ((⟨s.toArray⟩ : ByteArray).extract i k)] w fun e w' => e = .returned (.string ⟨(partT s i k).toArray⟩) ∧ Junk w w') ∧
    (Calls Try.prog 34 #[.string ⟨(partT s i k).toArray⟩] w fun e w' => e = .returned (.int .i64 (kindT (partT s i k))) ∧ w' = w) := by
  have hp := part_len (a := i) h2
  refine ⟨?_, r_tkKind _ _ (by omega) (by omega)⟩
  rw [ex_part]
  exact r_tkUpper _ _ (by simp; omega)
set_option maxRecDepth 100000 in
set_option maxHeartbeats 1000000 in
theorem r_tkNext (s : List UInt8) (i : Nat) (w : World) (hl : s.length ≤ 1000) (hi : i < s.length) :
    Calls Try.prog 26 #[.string ⟨s.toArray⟩, .int .i64 (i : Int)] w (NextR s i w) := by
  have HW := Lib.hid (fun j (hj : j < s.length) w' => r_tkWord s j w' (by omega) hj)
  by_cases c44 : s.getD i 0 = 44
  · have hb : byteAt s i = 44 := by unfold byteAt; rw [c44]; rfl
    have HN := Lib.hid (show NextT s i (4, [44]) (i + 1) from .inl ⟨wd_sep (.inl c44), c44, rfl, rfl⟩)
    clear c44
    go_enter Try.func26, Try.ntmps26
    go_wp2
    refine bodyPost_ret (results_tk rfl _ _ w.heap.size #[.int .i64 4, .string ⟨#[44]⟩] rfl (by simp [go_sem]) rfl) rfl ?_
    exact next_one HN.out rfl (junk_of_below (by (repeat' first | with_reducible (first | apply Below.refl | assumption | apply bw_a | apply bw_d | apply bw_n | apply bw_p | apply bw_c | apply bw_r) | go_size)))
  have e44 := byte_ne c44
  by_cases c35 : s.getD i 0 = 35
  · have hb : byteAt s i = 35 := by unfold byteAt; rw [c35]; rfl
    have HN := Lib.hid (show NextT s i (5, [35]) (i + 1) from .inr (.inl ⟨wd_sep (.inr c35), c35, rfl, rfl⟩))
    clear c35 c44
    go_enter Try.func26, Try.ntmps26
    go_wp2
    refine bodyPost_ret (results_tk rfl _ _ w.heap.size #[.int .i64 5, .string ⟨#[35]⟩] rfl (by simp [go_sem]) rfl) rfl ?_
    exact next_one HN.out rfl (junk_of_below (by (repeat' first | with_reducible (first | apply Below.refl | assumption | apply bw_a | apply bw_d | apply bw_n | apply bw_p | apply bw_c | apply bw_r) | go_size)))
  have e35 := byte_ne c35
  have HC := Lib.hid (show s.getD i 0 ≠ 44 ∧ s.getD i 0 ≠ 35 from ⟨c44, c35⟩)
  have e44 : ((byteAt s i : Int) == 44) = false := e44
  have e35 : ((byteAt s i : Int) == 35) = false := e35
  clear c35 c44
  go_enter Try.func26, Try.ntmps26
  go_wp2_with fail
  have HS := Lib.hid (show s.length ≤ 1000 ∧ i < s.length from ⟨hl, hi⟩)
  have HP := Lib.hid (fun k (h1 : i < k) (h2 : k ≤ s.length) w' => part_calls s i k h1 h2 (by omega) w')
  go_loopw [6] (fun j wr => ∃ k : Nat, j = .int .i64 (k : Int) ∧ i ≤ k ∧ k ≤ s.length ∧ (∀ x, i ≤ x → x < k → wdAt s x = true) ∧ wr = w.alloc (.cells #[.int .i64 0, .string ⟨#[]⟩] 31)) (fun j _ => s.length - (intOf j).toNat)
  case atStart => exact ⟨i, rfl, Nat.le_refl _, Nat.le_of_lt HS.out.2, fun x h1 h2 => absurd h1 (by omega), rfl⟩
  case round =>
    obtain ⟨k, rfl, k0, k1, hx, rfl⟩ := hrel
    have HX := Lib.hid hx
    clear hx
    by_cases hlt : k < s.length
    · have H1 := HW.out k hlt
      cases c : wdAt s k with
      | true =>
        rw [c] at H1
        have H1 := Lib.hid H1
        have HC1 := Lib.hid c
        clear c
        go_wp2_with fail
        refine (H1.out _).mono ?_; rintro e w' ⟨rfl, hw⟩; rw [hw]; clear hw
        go_wp2_with fail
        go_roundw
        case rel => exact ⟨k + 1, by go_num, by omega, by omega, fun x h1 h2 => (Nat.lt_or_ge x k).elim (fun h => HX.out x h1 h) (fun h => by rw [show x = k by omega]; exact HC1.out), trivial⟩
        case measure => simp [intOf]; omega
      | false =>
        rw [c] at H1
        have H1 := Lib.hid H1
        have HC1 := Lib.hid c
        clear c
        by_cases hk : k = i
        · subst hk
          have HN := Lib.hid (show NextT s k (0, []) (k + 1) from .inr (.inr (.inl ⟨HC1.out, HC.out.1, HC.out.2, rfl, rfl⟩)))
          clear k0 k1
          go_wp2_with fail
          refine (H1.out _).mono ?_; rintro e w' ⟨rfl, hw⟩; rw [hw]; clear hw
          go_wp2
          refine bodyPost_ret (results_tk rfl _ _ w.heap.size #[.int .i64 0, .string ⟨#[]⟩] rfl (by simp [go_sem]) rfl) rfl ?_
          exact next_one HN.out rfl (junk_of_below (by (repeat' first | with_reducible (first | apply Below.refl | assumption | apply bw_a | apply bw_d | apply bw_n | apply bw_p | apply bw_c | apply bw_r) | go_size)))
        · have hik : i < k := by omega
          have e0 : ((k : Int) == (i : Int)) = false := by rw [beq_eq_false_iff_ne]; omega
          have HN := Lib.hid (show NextT s i (kindT (partT s i k), partT s i k) k from .inr (.inr (.inr ⟨hik, k1, HX.out, fun _ => HC1.out, rfl⟩)))
          have HPK := HP.out k hik k1
          generalize partT s i k = t at *
          have HPU := Lib.hid (fun w' => (HPK w').1)
          have HPK := Lib.hid (fun w' => (HPK w').2)
          generalize kindT t = kd at *
          clear hk
          go_wp2_with fail
          refine (H1.out _).mono ?_; rintro e w' ⟨rfl, hw⟩; rw [hw]; clear hw
          go_wp2_with fail
          refine (HPU.out _).mono ?_; rintro e w' ⟨rfl, J1, d1, rfl⟩
          go_wp2_with fail
          refine (HPK.out _).mono ?_; rintro e w' ⟨rfl, hw⟩; rw [hw]; clear hw
          go_wp2
          refine bodyPost_ret (results_tk rfl _ _ w.heap.size #[.int .i64 kd, .string ⟨t.toArray⟩] rfl (by simp [go_sem]) rfl) rfl ?_
          exact next_go HN.out rfl (junk_of_below (by (repeat' first | with_reducible (first | apply Below.refl | assumption | apply bw_a | apply bw_d | apply bw_n | apply bw_p | apply bw_c | apply bw_r) | go_size)))
    · obtain rfl : k = s.length := by omega
      have hik : i < s.length := HS.out.2
      have e0 : ((s.length : Int) == (i : Int)) = false := by rw [beq_eq_false_iff_ne]; omega
      have HN := Lib.hid (show NextT s i (kindT (partT s i s.length), partT s i s.length) s.length from .inr (.inr (.inr ⟨hik, k1, HX.out, fun h => absurd h (Nat.lt_irrefl _), rfl⟩)))
      have HPK := HP.out s.length hik k1
      generalize partT s i s.length = t at *
      have HPU := Lib.hid (fun w' => (HPK w').1)
      have HPK := Lib.hid (fun w' => (HPK w').2)
      generalize kindT t = kd at *
      go_wp2_with fail
      refine (HPU.out _).mono ?_; rintro e w' ⟨rfl, J1, d1, rfl⟩
      go_wp2_with fail
      refine (HPK.out _).mono ?_; rintro e w' ⟨rfl, hw⟩; rw [hw]; clear hw
      go_wp2
      refine bodyPost_ret (results_tk rfl _ _ w.heap.size #[.int .i64 kd, .string ⟨t.toArray⟩] rfl (by simp [go_sem]) rfl) rfl ?_
      exact next_go HN.out rfl (junk_of_below (by (repeat' first | with_reducible (first | apply Below.refl | assumption | apply bw_a | apply bw_d | apply bw_n | apply bw_p | apply bw_c | apply bw_r) | go_size)))
end Go.Proofs.Ytpoahdfhhnlghaa

/- Contracts of wide.Sum and wide.Add: what ints come to together. Condition: fewer than 2^60 of them. -/
import Derived.Test.YtmhpmljkmckafaaWideC
import Derived.Shelf.Spec.BitsCarry
namespace Go.Proofs.Ytmhpmljkmckafaa
set_option linter.unusedVariables false
set_option linter.unusedSimpArgs false
open Go.RowKit

/-- A slice of ints that reads as 'zs'. -/
def Reads (w : World) (a : Option Addr) (len : Nat) (zs : List Int) : Prop :=
  zs.length = len ∧ (∀ i, i < len → -9223372036854775808 ≤ zs.getD i 0 ∧ zs.getD i 0 ≤ 9223372036854775807) ∧
  (len = 0 ∨ ∃ b off, a = some ⟨b, off, none⟩ ∧ ∀ i, i < len → w.cell? ⟨b, off + i, none⟩ = some (.int .i64 (zs.getD i 0)))

def sumL (zs : List Int) : Int := zs.foldl (· + ·) 0

theorem foldl_add (l : List Int) (a : Int) : l.foldl (· + ·) a = a + l.foldl (· + ·) 0 := by
  induction l generalizing a with
  | nil => simp
  | cons x l ih => simp only [List.foldl_cons]; rw [ih, ih (0 + x)]; omega

theorem sumL_take (zs : List Int) (k : Nat) (h : k < zs.length) : sumL (zs.take (k + 1)) = sumL (zs.take k) + zs.getD k 0 := by
  unfold sumL
  rw [List.take_succ_eq_append_getElem h, List.foldl_append]
  simp [List.getD_eq_getElem?_getD, h]

theorem sumL_bd (zs : List Int) (len : Nat) (hb : ∀ i, i < len → -9223372036854775808 ≤ zs.getD i 0 ∧ zs.getD i 0 ≤ 9223372036854775807) (hl : zs.length = len) :
    ∀ k, k ≤ len → -9223372036854775808 * (k : Int) ≤ sumL (zs.take k) ∧ sumL (zs.take k) ≤ 9223372036854775807 * (k : Int)
  | 0, _ => by simp [sumL]
  | k + 1, h => by
    have ih := sumL_bd zs len hb hl k (by omega)
    have := hb k (by omega)
    rw [sumL_take zs k (by omega)]
    omega

theorem run_add64 (x y c : Nat) (hc : c ≤ 1) (w : World) : (callFunc 43 #[.int .u64 x, .int .u64 y, .int .u64 c]).run Try.prog w =
      .ok (.value (.tuple #[.int .u64 (((x + y + c) % 18446744073709551616 : Nat) : Int), .int .u64 (((x + y + c) / 18446744073709551616 : Nat) : Int)])) w := by
  rw [run_callFunc_extern Try.func43 (by kernel_rfl) (by kernel_rfl) (by kernel_rfl) (e := add64Entry) (by kernel_rfl), Go.run_add64 x y c (by omega) (by omega) (by omega) (by omega)]
  simp only [Result.andThen]
  congr 5 <;> omega

/-- The same over ints. -/
theorem run_add64i (x y c : Int) (hx : 0 ≤ x) (hy : 0 ≤ y) (h0 : 0 ≤ c) (hc : c ≤ 1) (w : World) : (callFunc 43 #[.int .u64 x, .int .u64 y, .int .u64 c]).run Try.prog w =
      .ok (.value (.tuple #[.int .u64 ((x + y + c) % 18446744073709551616), .int .u64 ((x + y + c) / 18446744073709551616)])) w := by
  obtain ⟨x, rfl⟩ := Int.eq_ofNat_of_zero_le hx
  obtain ⟨y, rfl⟩ := Int.eq_ofNat_of_zero_le hy
  obtain ⟨c, rfl⟩ := Int.eq_ofNat_of_zero_le h0
  rw [run_add64 x y c (by omega)]
  simp

set_option maxHeartbeats 400000 in
theorem w_signBits (n : Int) (h0 : -9223372036854775808 ≤ n) (h1 : n ≤ 9223372036854775807) (v : Int) (hv : v = n / 18446744073709551616 % 18446744073709551616) (w : World) :
    Calls Try.prog 44 #[.int .i64 n] w fun e w' => e = .returned (.int .u64 v) ∧ w = w' := by
  by_cases h : n < 0
  · obtain rfl : v = 18446744073709551615 := by omega
    clear hv
    go_enter Try.func44, Try.ntmps44
    go_wp2
    go_ret
    exact ⟨rfl, rfl⟩
  · obtain rfl : v = 0 := by omega
    clear hv
    go_enter Try.func44, Try.ntmps44
    go_wp2
    go_ret
    exact ⟨rfl, rfl⟩

/-- The running sum's two halves. -/
def lo64 (s : Int) : Int := s % 18446744073709551616
def hi64 (s : Int) : Int := s / 18446744073709551616 % 18446744073709551616
theorem lo64_bd (s : Int) : 0 ≤ lo64 s ∧ lo64 s < 18446744073709551616 := by unfold lo64; omega
theorem hi64_bd (s : Int) : 0 ≤ hi64 s ∧ hi64 s < 18446744073709551616 := by unfold hi64; omega

set_option maxHeartbeats 400000 in
theorem w_Sum (a : Option Addr) (len cap : Nat) (zs : List Int) (hl : len < 1152921504606846976) (w : World) (hr : Reads w a len zs) :
    Calls Try.prog 19 #[.slice a len cap] w fun e w' => e = .returned (.tuple #[.int .i64 (intRes (sumL zs)).1, .int .i64 (intRes (sumL zs)).2]) ∧ w = w' := by
  obtain ⟨hz, hb, hc⟩ := hr
  have HZ := Lib.hid hz
  have HS := Lib.hid (sumL_bd zs len hb hz)
  have HB := Lib.hid hb
  have HC := Lib.hid hc
  have HT := Lib.hid (fun k (h : k < len) => sumL_take zs k (by omega))
  clear hz hb hc
  go_enter Try.func19, Try.ntmps19
  go_wp2_with fail
  go_loop [4, 5, 12] (fun h l i => ∃ k : Nat, k ≤ len ∧ i = .int .i64 k ∧ h = .int .u64 (hi64 (sumL (zs.take k))) ∧ l = .int .u64 (lo64 (sumL (zs.take k)))) (fun _ _ i => len - (intOf i).toNat)
  case atStart => exact ⟨0, Nat.zero_le _, rfl, by simp [sumL, hi64], by simp [sumL, lo64]⟩
  case round =>
    obtain ⟨k, hk, rfl, rfl, rfl⟩ := hrel
    by_cases hlt : k < len
    · obtain ⟨nb0, nb1⟩ := HB.out k hlt
      have hT := HT.out k hlt
      rcases HC.out with h0 | ⟨b, off, rfl, hcell⟩
      · omega
      have hce := hcell k hlt
      clear hcell
      generalize zs.getD k 0 = n at *
      generalize sumL (zs.take k) = s at *
      obtain ⟨l0, l1⟩ := lo64_bd s
      obtain ⟨g0, g1⟩ := hi64_bd s
      have HTT := Lib.hid hT; clear hT
      obtain ⟨v, hv⟩ : ∃ v, v = n / 18446744073709551616 % 18446744073709551616 := ⟨_, rfl⟩
      obtain ⟨u, hu⟩ : ∃ u, u = n % 18446744073709551616 := ⟨_, rfl⟩
      have hsb := w_signBits n nb0 nb1 v hv
      have hwn : IntKind.u64.wrap n = u := by rw [IntKind.wrap_u64, hu]
      have hu0 : 0 ≤ u ∧ u < 18446744073709551616 := by omega
      have hv0 : 0 ≤ v ∧ v < 18446744073709551616 := by omega
      have hca : 0 ≤ (lo64 s + u + 0) / 18446744073709551616 ∧ (lo64 s + u + 0) / 18446744073709551616 ≤ 1 := by omega
      have HL := Lib.hid (show lo64 (s + n) = (lo64 s + u + 0) % 18446744073709551616 by unfold lo64; omega)
      have HH := Lib.hid (show hi64 (s + n) = (hi64 s + v + (lo64 s + u + 0) / 18446744073709551616) % 18446744073709551616 by unfold hi64 lo64; omega)
      have HSB := Lib.hid hsb
      clear hv hu hsb
      obtain ⟨hu1, hu2⟩ := hu0
      obtain ⟨hv1, hv2⟩ := hv0
      have R1 := Lib.hid (run_add64i (lo64 s) u 0 l0 hu1 (by omega) (by omega))
      generalize hs1 : (lo64 s + u + 0) % 18446744073709551616 = s1 at *
      generalize hc1 : (lo64 s + u + 0) / 18446744073709551616 = c1 at *
      obtain ⟨hca1, hca2⟩ := hca
      have R2 := Lib.hid (run_add64i (hi64 s) v c1 g0 hv1 hca1 hca2)
      generalize hs2 : (hi64 s + v + c1) % 18446744073709551616 = s2 at *
      clear hs1 hc1 hs2
      go_wp2_with fail
      rw [R1.out]
      go_wp2_with fail
      refine (HSB.out _).mono ?_
      rintro e w' ⟨rfl, rfl⟩
      go_wp2_with fail
      rw [R2.out]
      go_wp2_with fail
      go_round
      case rel => exact ⟨k + 1, by omega, by go_num, by rw [HTT.out, HH.out], by rw [HTT.out, HL.out]⟩
      case measure => simp [intOf]; omega
    · obtain rfl : k = len := by omega
      have hsum : sumL (zs.take k) = sumL zs := by rw [List.take_of_length_le (by rw [HZ.out]; exact Nat.le_refl _)]
      have hbd := HS.out k (Nat.le_refl _)
      rw [hsum] at hbd
      rw [hsum]
      generalize hse : sumL zs = s at *
      have HSE := Lib.hid hse
      clear hsum hse
      have e1 : wrap64 (lo64 s) = (s + 9223372036854775808) % 18446744073709551616 - 9223372036854775808 := by unfold wrap64 lo64; omega
      obtain ⟨t, ht⟩ : ∃ t, t = (s + 9223372036854775808) % 18446744073709551616 - 9223372036854775808 := ⟨_, rfl⟩
      rw [← ht] at e1
      have hsb := w_signBits t (by omega) (by omega) _ rfl
      by_cases hin : -9223372036854775808 ≤ s ∧ s ≤ 9223372036854775807
      · have HI := Lib.hid (intRes_in s hin.1 hin.2)
        obtain rfl : t = s := by omega
        have e2 : (hi64 t != t / 18446744073709551616 % 18446744073709551616) = false := by simp [hi64]
        have HSB := Lib.hid hsb
        clear ht hsb hbd hin
        go_wp2_with fail
        refine (HSB.out _).mono ?_
        rintro e w' ⟨rfl, rfl⟩
        go_wp2
        go_ret2
        exact ⟨ret2 (by rw [HSE.out, HI.out]) (by rw [HSE.out, HI.out]), rfl⟩
      · have HI := Lib.hid (intRes_out s (by omega))
        have e2 : (hi64 s != t / 18446744073709551616 % 18446744073709551616) = true := by
          simp only [hi64, bne_iff_ne]; omega
        have HSB := Lib.hid hsb
        clear ht hsb hbd hin
        go_wp2_with fail
        refine (HSB.out _).mono ?_
        rintro e w' ⟨rfl, rfl⟩
        go_wp2
        go_ret2
        exact ⟨ret2 (by rw [HSE.out, HI.out]) (by rw [HSE.out, HI.out]), rfl⟩

set_option maxHeartbeats 400000 in
theorem w_Add (a b : Int) (a0 : -9223372036854775808 ≤ a) (a1 : a ≤ 9223372036854775807) (b0 : -9223372036854775808 ≤ b) (b1 : b ≤ 9223372036854775807) (w : World) :
    Calls Try.prog 21 #[.int .i64 a, .int .i64 b] w fun e w' => e = .returned (.tuple #[.int .i64 (intRes (a + b)).1, .int .i64 (intRes (a + b)).2]) ∧ Below w.heap.size w w' := by
  have hs : sumL [a, b] = a + b := by simp [sumL]
  go_enter Try.func21, Try.ntmps21
  go_wp2_with fail
  refine (w_Sum _ 2 2 [a, b] (by omega) _ ⟨rfl, ?_, .inr ⟨w.heap.size, 0, rfl, ?_⟩⟩).mono ?_
  · intro i hi
    match i, hi with
    | 0, _ => exact ⟨a0, a1⟩
    | 1, _ => exact ⟨b0, b1⟩
  · intro i hi
    match i, hi with
    | 0, _ => go_cell
    | 1, _ => go_cell
  rintro e w' ⟨rfl, rfl⟩
  go_wp2
  go_ret2
  exact ⟨ret2 rfl rfl, by go_grown⟩
end Go.Proofs.Ytmhpmljkmckafaa

/- Contracts of apportionref15's letter, digit, joins, sound, Upper. -/
import Derived.Test.YtpoahdfhhnlghaaBList
import Derived.Test.YtpoahdfhhnlghaaURow
import Derived.Test.YtpoahdfhhnlghaaTkD
import Derived.Laws.IdiomStrings
import Derived.Laws.BytesString
namespace Go.Proofs.Ytpoahdfhhnlghaa
set_option linter.unusedVariables false
set_option linter.unusedSimpArgs false
open Go.RowKit

/-- Bytes as a text. -/
theorem conv_nil (w : World) (a : Option Addr) (cap : Nat) : (convert 42 9 (.slice a 0 cap)).run Try.prog w = .ok (.string ⟨#[]⟩) w := by
  rw [run_convert_bytes_string w _ _ 5 a 0 cap Try.underlying42 Try.underlying5 Try.underlying9]
  rcases a with _ | a
  · rfl
  · simp [Conv.bytesToString, loadCells, loadCellsFrom]
    rfl
theorem conv_row {w : World} {a : Option Addr} {len cap : Nat} {L : List UInt8} (h : BReads w a len L) : (convert 42 9 (.slice a len cap)).run Try.prog w = .ok (.string ⟨L.toArray⟩) w := by
  obtain ⟨hL, h3⟩ := h
  rcases h3 with rfl | ⟨b, off, rfl, hc⟩
  · obtain rfl : L = [] := List.eq_nil_of_length_eq_zero hL
    exact conv_nil w a cap
  · have := run_convert_bytes_back (P := Try.prog) w 42 9 5 ⟨b, off, none⟩ cap L Try.underlying42 Try.underlying5 Try.underlying9 (fun j hj => by
      have e : (⟨b, off, none⟩ : Addr).add j = ⟨b, off + j, none⟩ := by unfold Addr.add; split <;> simp_all
      rw [e, hc j (by omega)]
      simp [byteAt, List.getD_eq_getElem?_getD, hj])
    rw [hL] at this
    exact this

/-- Kinds of bytes, by numbers. -/
def letN (n : Nat) : Bool := decide (65 ≤ n ∧ n ≤ 90) || decide (97 ≤ n ∧ n ≤ 122)
def digN (n : Nat) : Bool := decide (48 ≤ n ∧ n ≤ 57)
def joinN (n : Nat) : Bool := decide (n = 45 ∨ n = 47 ∨ n = 39 ∨ n = 46)
def sndN (n : Nat) : Bool := letN n || digN n
def upN (n : Nat) : Nat := if 97 ≤ n ∧ n ≤ 122 then n - 32 else n
theorem let_n (c : UInt8) : letB c = letN c.toNat := rfl
theorem dig_n (c : UInt8) : digB c = digN c.toNat := rfl
theorem join_n (c : UInt8) : joinB c = joinN c.toNat := rfl
theorem snd_n (c : UInt8) : sndB c = sndN c.toNat := rfl
theorem up_n (c : UInt8) : (upB c).toNat = upN c.toNat := up_nat c

theorem r_tkLetter (n : Nat) (w : World) : Calls Try.prog 46 #[.int .u8 (n : Int)] w fun e w' => e = .returned (.bool (letN n)) ∧ w' = w := by
  have h : (n < 65) ∨ (65 ≤ n ∧ n ≤ 90) ∨ (90 < n ∧ n < 97) ∨ (97 ≤ n ∧ n ≤ 122) ∨ (122 < n) := by omega
  rcases h with h | ⟨h, h2⟩ | ⟨h, h2⟩ | ⟨h, h2⟩ | h
  · obtain ⟨r, hr⟩ : ∃ r, letN n = r := ⟨_, rfl⟩
    have HR := Lib.hid (show r = false by rw [← hr]; unfold letN; simp; omega)
    rw [hr]; clear hr
    go_enter Try.func46, Try.ntmps46
    go_wp2
    go_ret
    exact ⟨by rw [HR.out]; first | rfl | (simp; omega), rfl⟩
  · obtain ⟨r, hr⟩ : ∃ r, letN n = r := ⟨_, rfl⟩
    have HR := Lib.hid (show r = true by rw [← hr]; unfold letN; simp; omega)
    rw [hr]; clear hr
    go_enter Try.func46, Try.ntmps46
    go_wp2
    go_ret
    exact ⟨by rw [HR.out]; first | rfl | (simp; omega), rfl⟩
  · obtain ⟨r, hr⟩ : ∃ r, letN n = r := ⟨_, rfl⟩
    have HR := Lib.hid (show r = false by rw [← hr]; unfold letN; simp; omega)
    rw [hr]; clear hr
    go_enter Try.func46, Try.ntmps46
    go_wp2
    go_ret
    exact ⟨by rw [HR.out]; first | rfl | (simp; omega), rfl⟩
  · obtain ⟨r, hr⟩ : ∃ r, letN n = r := ⟨_, rfl⟩
    have HR := Lib.hid (show r = true by rw [← hr]; unfold letN; simp; omega)
    rw [hr]; clear hr
    go_enter Try.func46, Try.ntmps46
    go_wp2
    go_ret
    exact ⟨by rw [HR.out]; first | rfl | (simp; omega), rfl⟩
  · obtain ⟨r, hr⟩ : ∃ r, letN n = r := ⟨_, rfl⟩
    have HR := Lib.hid (show r = false by rw [← hr]; unfold letN; simp; omega)
    rw [hr]; clear hr
    go_enter Try.func46, Try.ntmps46
    go_wp2
    go_ret
    exact ⟨by rw [HR.out]; first | rfl | (simp; omega), rfl⟩
theorem r_tkDigit (n : Nat) (w : World) : Calls Try.prog 47 #[.int .u8 (n : Int)] w fun e w' => e = .returned (.bool (digN n)) ∧ w' = w := by
  have h : (n < 48) ∨ (48 ≤ n ∧ n ≤ 57) ∨ (57 < n) := by omega
  rcases h with h | ⟨h, h2⟩ | h
  · obtain ⟨r, hr⟩ : ∃ r, digN n = r := ⟨_, rfl⟩
    have HR := Lib.hid (show r = false by rw [← hr]; unfold digN; simp; omega)
    rw [hr]; clear hr
    go_enter Try.func47, Try.ntmps47
    go_wp2
    go_ret
    exact ⟨by rw [HR.out]; first | rfl | (simp; omega), rfl⟩
  · obtain ⟨r, hr⟩ : ∃ r, digN n = r := ⟨_, rfl⟩
    have HR := Lib.hid (show r = true by rw [← hr]; unfold digN; simp; omega)
    rw [hr]; clear hr
    go_enter Try.func47, Try.ntmps47
    go_wp2
    go_ret
    exact ⟨by rw [HR.out]; first | rfl | (simp; omega), rfl⟩
  · obtain ⟨r, hr⟩ : ∃ r, digN n = r := ⟨_, rfl⟩
    have HR := Lib.hid (show r = false by rw [← hr]; unfold digN; simp; omega)
    rw [hr]; clear hr
    go_enter Try.func47, Try.ntmps47
    go_wp2
    go_ret
    exact ⟨by rw [HR.out]; first | rfl | (simp; omega), rfl⟩
theorem r_tkJoins (n : Nat) (w : World) : Calls Try.prog 45 #[.int .u8 (n : Int)] w fun e w' => e = .returned (.bool (joinN n)) ∧ w' = w := by
  by_cases a : n = 45
  · subst a
    go_enter Try.func45, Try.ntmps45
    go_wp2
    go_ret
    exact ⟨rfl, rfl⟩
  by_cases b : n = 47
  · subst b
    go_enter Try.func45, Try.ntmps45
    go_wp2
    go_ret
    exact ⟨rfl, rfl⟩
  by_cases c : n = 39
  · subst c
    go_enter Try.func45, Try.ntmps45
    go_wp2
    go_ret
    exact ⟨rfl, rfl⟩
  have a' : ((n : Int) == 45) = false := by rw [beq_eq_false_iff_ne]; omega
  have b' : ((n : Int) == 47) = false := by rw [beq_eq_false_iff_ne]; omega
  have c' : ((n : Int) == 39) = false := by rw [beq_eq_false_iff_ne]; omega
  obtain ⟨r, hr⟩ : ∃ r, joinN n = r := ⟨_, rfl⟩
  have HR := Lib.hid (show r = ((n : Int) == 46) by
    rw [← hr]; unfold joinN
    by_cases d : n = 46
    · subst d; rfl
    · rw [decide_eq_false (by omega)]; symm; rw [beq_eq_false_iff_ne]; omega)
  rw [hr]
  clear hr a b c
  go_enter Try.func45, Try.ntmps45
  go_wp2
  go_ret
  exact ⟨by rw [HR.out]; rfl, rfl⟩
theorem r_tkSound (n : Nat) (w : World) : Calls Try.prog 44 #[.int .u8 (n : Int)] w fun e w' => e = .returned (.bool (sndN n)) ∧ w' = w := by
  have HL := Lib.hid (fun w' => r_tkLetter n w')
  have HD := Lib.hid (fun w' => r_tkDigit n w')
  unfold sndN
  generalize letN n = a at *
  generalize digN n = b at *
  cases a with
  | true =>
    go_enter Try.func44, Try.ntmps44
    go_wp2_with fail
    refine (HL.out _).mono ?_; rintro e w' ⟨rfl, hw⟩; rw [hw]; clear hw
    go_wp2
    go_ret
    exact ⟨rfl, rfl⟩
  | false =>
    go_enter Try.func44, Try.ntmps44
    go_wp2_with fail
    refine (HL.out _).mono ?_; rintro e w' ⟨rfl, hw⟩; rw [hw]; clear hw
    go_wp2_with fail
    refine (HD.out _).mono ?_; rintro e w' ⟨rfl, hw⟩; rw [hw]; clear hw
    go_wp2
    go_ret
    exact ⟨by rw [Bool.false_or]; rfl, rfl⟩

/-- The reference's capital letters. -/
def UpAt (w : World) (L : List UInt8) (o i : Value) (wr : World) : Prop := ∃ k : Nat, i = .int .i64 (k : Int) ∧ k ≤ L.length ∧ BOwns wr w.heap.size o ((L.take k).map upB) ∧ Below w.heap.size w wr
theorem take_up {L : List UInt8} {k : Nat} (h : k < L.length) : (L.take (k + 1)).map upB = (L.take k).map upB ++ [upB (L.getD k 0)] := by
  rw [List.take_succ_eq_append_getElem h, List.map_append]
  simp [List.getD_eq_getElem?_getD, h]
set_option maxRecDepth 100000 in
set_option maxHeartbeats 1000000 in
theorem r_tkUpper (L : List UInt8) (w : World) (hl : L.length ≤ 1099511627776) :
    Calls Try.prog 15 #[.string ⟨L.toArray⟩] w fun e w' => e = .returned (.string ⟨(L.map upB).toArray⟩) ∧ Junk w w' := by
  go_enter Try.func15, Try.ntmps15
  go_wp2_with fail
  go_loopw [3, 4, 5] (fun o i _ wr => UpAt w L o i wr) (fun _ i _ _ => L.length - (intOf i).toNat)
  case atStart => exact ⟨0, rfl, Nat.zero_le _, bowns_nil _ _, Below.refl _ _⟩
  case round =>
    obtain ⟨k, rfl, hk, hown, hb⟩ := hrel
    have HO := Lib.hid hown; have HB := Lib.hid hb
    clear hown hb
    by_cases hlt : k < L.length
    · have HT := Lib.hid (take_up hlt)
      have hn : (L.getD k 0).toNat = byteAt L k := rfl
      have hu : (upB (L.getD k 0)).toNat = upN (byteAt L k) := up_n _
      have HBR := breads_one wr (upB (L.getD k 0))
      rw [hu] at HBR
      have HBR := Lib.hid HBR
      generalize upB (L.getD k 0) = z at *
      clear hn hu
      have h : (byteAt L k < 97) ∨ (97 ≤ byteAt L k ∧ byteAt L k ≤ 122) ∨ 122 < byteAt L k := by omega
      have hsz := HB.out.size
      have hln : ((L.take k).map upB).length = k := by simp; omega
      have HLN := Lib.hid hln
      have hB := byte_lt L k
      rcases h with h | ⟨h, h2⟩ | h
      · have e : upN (byteAt L k) = byteAt L k := by unfold upN; rw [if_neg (by omega)]
        rw [e] at HBR
        clear e hln
        generalize (L.take k).map upB = D at *
        go_wp2_with (at_builtin; refine wpList_bapp rfl _ _ rfl w.heap.size _ D rfl (HO.out.below (by (repeat' first | with_reducible (first | apply Below.refl | assumption | apply bw_a | apply bw_d | apply bw_n | apply bw_p | apply bw_c | apply bw_r) | go_size))) (some ⟨wr.heap.size, 0, none⟩) 1 1 [z] rfl (fun h => nomatch h) HBR.out (by have := HLN.out; simp; omega) (by simp; omega) ?_; intro v' w' hown hg)
        go_roundw
        case rel => exact ⟨k + 1, by go_num, by omega, by rw [HT.out]; exact hown, (HB.out.alloc hsz _).grown hg (by simp; omega) (fun k hk => HO.out.block k hk)⟩
        case measure => simp [intOf]; omega
      · have e : upN (byteAt L k) = byteAt L k - 32 := by unfold upN; rw [if_pos ⟨h, h2⟩]
        rw [e] at HBR
        have e1 : IntKind.u8.wrap ((byteAt L k : Int) - 32) = ((byteAt L k - 32 : Nat) : Int) := by simp [IntKind.wrap, IntKind.signed, IntKind.bits]; omega
        generalize ((byteAt L k - 32 : Nat) : Int) = y at *
        clear e hln
        generalize (L.take k).map upB = D at *
        go_wp2_with (at_builtin; refine wpList_bapp rfl _ _ rfl w.heap.size _ D rfl (HO.out.below (by (repeat' first | with_reducible (first | apply Below.refl | assumption | apply bw_a | apply bw_d | apply bw_n | apply bw_p | apply bw_c | apply bw_r) | go_size))) (some ⟨wr.heap.size, 0, none⟩) 1 1 [z] rfl (fun h => nomatch h) HBR.out (by have := HLN.out; simp; omega) (by simp; omega) ?_; intro v' w' hown hg)
        go_roundw
        case rel => exact ⟨k + 1, by go_num, by omega, by rw [HT.out]; exact hown, (HB.out.alloc hsz _).grown hg (by simp; omega) (fun k hk => HO.out.block k hk)⟩
        case measure => simp [intOf]; omega
      · have e : upN (byteAt L k) = byteAt L k := by unfold upN; rw [if_neg (by omega)]
        rw [e] at HBR
        clear e hln
        generalize (L.take k).map upB = D at *
        go_wp2_with (at_builtin; refine wpList_bapp rfl _ _ rfl w.heap.size _ D rfl (HO.out.below (by (repeat' first | with_reducible (first | apply Below.refl | assumption | apply bw_a | apply bw_d | apply bw_n | apply bw_p | apply bw_c | apply bw_r) | go_size))) (some ⟨wr.heap.size, 0, none⟩) 1 1 [z] rfl (fun h => nomatch h) HBR.out (by have := HLN.out; simp; omega) (by simp; omega) ?_; intro v' w' hown hg)
        go_roundw
        case rel => exact ⟨k + 1, by go_num, by omega, by rw [HT.out]; exact hown, (HB.out.alloc hsz _).grown hg (by simp; omega) (fun k hk => HO.out.block k hk)⟩
        case measure => simp [intOf]; omega
    · obtain rfl : k = L.length := by omega
      rw [List.take_length] at HO
      obtain ⟨a, cap, rfl, hR, _⟩ := breads_of_owns HO.out
      have HC := Lib.hid (fun W (h : Below wr.heap.size wr W) => conv_row (cap := cap) (hR.below h))
      obtain ⟨U, hU⟩ : ∃ U, L.map upB = U := ⟨_, rfl⟩
      have HU := Lib.hid hU
      rw [hU] at HC ⊢
      clear hR hU
      go_wp2_with fail
      rw [HC.out _ (by (repeat' first | with_reducible (first | apply Below.refl | assumption | apply bw_a | apply bw_d | apply bw_n | apply bw_p | apply bw_c | apply bw_r) | go_size))]
      simp only [Result.andThen]
      rw [Oper.upon_value]
      go_wp2
      go_ret
      exact ⟨by rw [HU.out]; rfl, junk_of_below HB.out⟩
end Go.Proofs.Ytpoahdfhhnlghaa

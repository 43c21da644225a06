/- Contracts of apportionkit's SameBytes, CopyBytes, Pick. -/
import Derived.Test.YtfapldajodobhaaOctU
import Derived.Laws.BytesString
namespace Go.Proofs.Ytfapldajodobhaa
set_option linter.unusedVariables false
set_option linter.unusedSimpArgs false
open Go.RowKit

theorem conv_none (w : World) (a : Option Addr) (cap : Nat) : (convert 22 9 (.slice a 0 cap)).run Try.prog w = .ok (.string ⟨#[]⟩) w := by
  rw [run_convert_bytes_string w _ _ 5 a 0 cap Try.underlying22 Try.underlying5 Try.underlying9]
  rcases a with _ | a
  · rfl
  · simp [Conv.bytesToString, loadCells, loadCellsFrom]
    rfl
theorem conv_in {w : World} {a : Option Addr} {len cap : Nat} {L : List UInt8} (h : BReads w a len L) : (convert 22 9 (.slice a len cap)).run Try.prog w = .ok (.string ⟨L.toArray⟩) w := by
  have h' := h
  obtain ⟨hL, h3⟩ := h
  rcases h3 with rfl | ⟨b, off, rfl, hc⟩
  · obtain rfl : L = [] := List.eq_nil_of_length_eq_zero hL
    exact conv_none w a cap
  · have := conv_any h' 0 len cap (by omega)
    rw [List.drop_zero, List.take_of_length_le (by omega)] at this
    exact this

theorem k_SameBytes (w : World) (a b : Option Addr) (n m ca cb : Nat) (L M : List UInt8) (hL : BReads w a n L) (hM : BReads w b m M) :
    Calls Try.prog 14 #[.slice a n ca, .slice b m cb] w fun e w' => e = .returned (.bool (decide (L = M))) ∧ Junk w w' := by
  have h1 := conv_in (cap := ca) hL
  have h2 := conv_in (cap := cb) hM
  clear hL hM
  go_enter Try.func14, Try.ntmps14
  go_wp2
  go_ret
  exact ⟨by rw [show (L == M) = decide (L = M) by by_cases h : L = M <;> simp [h]]; rfl, junk_of_below (by (repeat' (first | (with_reducible exact Below.refl _ _) | (with_reducible assumption) | (with_reducible refine Below.alloc ?_ ?_ _) | (with_reducible refine Below.drew ?_) | (with_reducible refine below_drewN ?_ _) | (with_reducible refine below_plus ?_ ?_ _ _) | (with_reducible refine Below.setCell ?_ ?_ _) | (with_reducible refine Below.setRow ?_ ?_ _) | go_size)))⟩

theorem k_Pick (w : World) (x n : Int) (hx : I64 x) (hn : I64 n) :
    Calls Try.prog 23 #[.int .i64 x, .int .i64 n] w fun e w' => e = .returned (.int .i64 (if n < 1 then 0 else x % n)) ∧ Junk w w' := by
  obtain ⟨x0, x1⟩ := hx
  obtain ⟨n0, n1⟩ := hn
  by_cases c1 : n < 1
  · rw [if_pos c1]
    clear x0 x1 n0 n1
    go_enter Try.func23, Try.ntmps23
    go_wp2
    go_ret
    exact ⟨rfl, junk_of_below (by (repeat' (first | (with_reducible exact Below.refl _ _) | (with_reducible assumption) | (with_reducible refine Below.alloc ?_ ?_ _) | (with_reducible refine Below.drew ?_) | (with_reducible refine below_drewN ?_ _) | (with_reducible refine below_plus ?_ ?_ _ _) | (with_reducible refine Below.setCell ?_ ?_ _) | (with_reducible refine Below.setRow ?_ ?_ _) | go_size)))⟩
  rw [if_neg c1]
  obtain ⟨m, hm⟩ : ∃ m, x.tmod n = m := ⟨_, rfl⟩
  obtain ⟨d, hd⟩ : ∃ d, x % n = d := ⟨_, rfl⟩
  have hnz : n ≠ 0 := by omega
  have hnz2 : (n == 0) = false := beq_eq_false_iff_ne.2 hnz
  have hd0 := Int.emod_nonneg x hnz
  have hd1 := Int.emod_lt_of_pos x (show 0 < n by omega)
  have ht : m = d ∨ (m < 0 ∧ m + n = d) := by
    rw [← hm, ← hd]
    rcases Int.lt_or_le x 0 with h | h
    · by_cases hz : x % n = 0
      · left
        have := Int.dvd_of_emod_eq_zero hz
        rw [hz, Int.tmod_eq_emod]; simp [this, hz]
      · right
        have hnd : ¬ n ∣ x := fun h => hz (Int.emod_eq_zero_of_dvd h)
        have : (n.natAbs : Int) = n := by omega
        rw [Int.tmod_eq_emod, if_neg (by omega), this]
        omega
    · left
      exact Int.tmod_eq_emod_of_nonneg h
  rw [hd] at hd0 hd1 ⊢
  have e1 : x % n = d := hd
  rcases ht with ht | ⟨ht1, ht2⟩
  · subst ht
    clear hd
    go_enter Try.func23, Try.ntmps23
    go_wp2
    go_ret
    exact ⟨rfl, junk_of_below (by (repeat' (first | (with_reducible exact Below.refl _ _) | (with_reducible assumption) | (with_reducible refine Below.alloc ?_ ?_ _) | (with_reducible refine Below.drew ?_) | (with_reducible refine below_drewN ?_ _) | (with_reducible refine below_plus ?_ ?_ _ _) | (with_reducible refine Below.setCell ?_ ?_ _) | (with_reducible refine Below.setRow ?_ ?_ _) | go_size)))⟩
  · have e2 : IntKind.i64.wrap (m + n) = m + n := by simp [IntKind.wrap, IntKind.signed, IntKind.bits]; omega
    clear hd e1
    go_enter Try.func23, Try.ntmps23
    go_wp2
    go_ret
    exact ⟨rfl, junk_of_below (by (repeat' (first | (with_reducible exact Below.refl _ _) | (with_reducible assumption) | (with_reducible refine Below.alloc ?_ ?_ _) | (with_reducible refine Below.drew ?_) | (with_reducible refine below_drewN ?_ _) | (with_reducible refine below_plus ?_ ?_ _ _) | (with_reducible refine Below.setCell ?_ ?_ _) | (with_reducible refine Below.setRow ?_ ?_ _) | go_size)))⟩

theorem k_CopyBytes (w : World) (a : Option Addr) (len cap : Nat) (L : List UInt8) (h : BIn w a len L cap) : Calls Try.prog 25 #[.slice a len cap] w (PutRes w L) := by
  have HR := Lib.hid h.reads
  have HN := Lib.hid h.none
  have hs := h.small
  clear h
  go_enter Try.func25, Try.ntmps25
  go_wp2_with (at_builtin; refine wpList_bapp rfl _ _ rfl w.heap.size _ [] rfl (bowns_empty w) a len cap L rfl HN.out (HR.out.below ((Below.refl _ _).alloc (Nat.le_refl _) _)) (by simp; omega) (by simp) ?_; intro v' w' hown hg)
  go_ret
  exact ⟨_, rfl, hown, junk_of_below (((Below.refl _ _).alloc (Nat.le_refl _) _).grown hg (by simp) (fun k hk => (bowns_empty w).block k hk))⟩

/-- What a slice of the call's own is, for one that reads it. -/
theorem bin_of_owns {w : World} {base : Nat} {v : Value} {L : List UInt8} (h : BOwns w base v L) (hl : L.length ≤ 1099511627776) : ∃ a cap, v = .slice a L.length cap ∧ BIn w a L.length L cap := by
  obtain ⟨a, cap, e, hr, hn⟩ := breads_of_owns h
  obtain ⟨_, h'⟩ := h
  refine ⟨a, cap, e, hr, hn, hl, ?_⟩
  rcases h' with ⟨hv, h0⟩ | ⟨g, cap', cur, hv, _, _, hnc, _⟩
  · omega
  · rw [e] at hv
    injection hv with _ _ h3
    omega

/-- 'append(append(CopyBytes(ahead), a...), behind...)' and the like: a slice of bytes that reads as L, made by the call. -/
theorem breads_here {w : World} {base : Nat} {a : Option Addr} {len cap : Nat} {L : List UInt8} (h : BOwns w base (.slice a len cap) L) : BReads w a len L := by
  obtain ⟨a', cap', e, hr, _⟩ := breads_of_owns h
  injection e with e1 e2 e3
  subst e1; subst e2
  exact hr
end Go.Proofs.Ytfapldajodobhaa

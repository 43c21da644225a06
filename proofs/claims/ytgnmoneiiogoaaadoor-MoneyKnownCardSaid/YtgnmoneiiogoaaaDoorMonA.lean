/- Contracts of apportionref02's Check, Text and digit. Conditions: the number is an int; strconv's table is as laid. -/
import Derived.Test.YtgnmoneiiogoaaaDoorTab
import Derived.Test.YtgnmoneiiogoaaaDoorMonC
namespace Go.Proofs.YtgnmoneiiogoaaaDoor
set_option linter.unusedVariables false
set_option linter.unusedSimpArgs false
open Go.RowKit

/-- The text of an amount. -/
def cents2 (c : Nat) : List UInt8 := [UInt8.ofNat (48 + c / 10), UInt8.ofNat (48 + c % 10)]
def amtText (v : Int) : List UInt8 := (if v < 0 then [45] else []) ++ Lib.decDigits (v.natAbs / 100) ++ [46] ++ cents2 (v.natAbs % 100)

theorem dec_get (c : Nat) (h : c < 100) : ∃ x y, cents2 c = [x, y] ∧ ((c < 10 ∧ x = 48 ∧ Lib.decDigits c = [y]) ∨ (10 ≤ c ∧ Lib.decDigits c = [x, y])) := by
  refine ⟨_, _, rfl, ?_⟩
  by_cases h1 : c < 10
  · refine .inl ⟨h1, ?_, ?_⟩
    · rw [show c / 10 = 0 by omega]; rfl
    · rw [dec_lt10 c h1, show c % 10 = c by omega]
  · exact .inr ⟨by omega, dec_lt100 c (by omega) h⟩

theorem dec_len (u : Nat) (k : Nat) (h : u < 10 ^ k) (hk : 0 < k) : (Lib.decDigits u).length ≤ k := by
  induction k generalizing u with
  | zero => omega
  | succ k ih =>
    by_cases h1 : u < 10
    · rw [dec_lt10 u h1]; simp
    · rw [Lib.decDigits, dif_neg h1]
      have hk1 : 0 < k := by
        rcases k with _ | k
        · simp at h; omega
        · omega
      have := ih (u / 10) (by rw [Nat.pow_succ] at h; omega) hk1
      simp; omega

theorem ba_app (a b : Array UInt8) : (⟨a⟩ : ByteArray) ++ ⟨b⟩ = ⟨a ++ b⟩ := by
  apply ByteArray.ext
  simp [ByteArray.data_append]

theorem ret_str2 {a b : ByteArray} {k : IntKind} {z : Int} (h : a = b) : Ending.returned (.tuple #[.string a, .int k z]) = .returned (.tuple #[.string b, .int k z]) := by rw [h]

/-- The text's walk, from the size on. -/
theorem m_Text_core (v : Int) (n : Nat) (neg : Bool) (hv : v = if neg then -(n : Int) else n) (hneg : neg = true → 0 < n) (h1 : n ≤ 1099511627775) (w : World) (ht : Hid (Tab w)) (X Y : UInt8) (D D2 : List UInt8)
    (HC : Hid (∀ w, Calls Tryd.prog 20 #[.int .i64 v] w fun e w' => e = .returned (.int .i64 0) ∧ w = w'))
    (hD : Hid (Lib.itoa ((n / 100 : Nat) : Int) = D)) (hd : D.length ≤ 20) (hE : Hid (Lib.itoa ((n % 100 : Nat) : Int) = D2)) (hx : (X = 48 ∧ D2 = [Y]) ∨ D2 = [X, Y]) :
    Calls Tryd.prog 9 #[.int .i64 v] w fun e w' => e = .returned (.tuple #[.string ⟨((if neg then [45] else []) ++ D ++ [46] ++ [X, Y]).toArray⟩, .int .i64 0]) ∧ Junk w w' := by
  have I1 := Lib.hid (s_Itoa ((n % 100 : Nat) : Int) (by omega) (by omega))
  have I2 := Lib.hid (s_Itoa ((n / 100 : Nat) : Int) (by omega) (by omega))
  rw [hE.out] at I1
  rw [hD.out] at I2
  cases neg with
  | true =>
    have hn := hneg rfl
    simp only [if_true] at hv
    subst hv
    go_enter Tryd.func9, Tryd.ntmps9
    go_wp2_with fail
    refine (HC.out _).mono ?_; rintro e w' ⟨rfl, rfl⟩
    go_wp2_with fail
    refine (I1.out _ ht.out).mono ?_; rintro e w' ⟨rfl, J1, d1, rfl⟩
    rcases hx with ⟨rfl, rfl⟩ | rfl
    · go_wp2_with fail
      refine (I2.out _ (ht.out.plus _ _)).mono ?_; rintro e w' ⟨rfl, J2, d2, rfl⟩
      go_wp2_with fail
      go_ret2
      exact ⟨ret_str2 (by simp only [ba_app]; simp), junk_of_below (by (repeat' (first | (with_reducible exact Below.refl _ _) | (with_reducible assumption) | (with_reducible refine Below.alloc ?_ ?_ _) | (with_reducible refine Below.drew ?_) | (with_reducible refine below_drewN ?_ _) | (with_reducible refine below_plus ?_ ?_ _ _) | (with_reducible refine Below.setCell ?_ ?_ _) | (with_reducible refine Below.setRow ?_ ?_ _) | go_size)))⟩
    · go_wp2_with fail
      refine (I2.out _ (ht.out.plus _ _)).mono ?_; rintro e w' ⟨rfl, J2, d2, rfl⟩
      go_wp2_with fail
      go_ret2
      exact ⟨ret_str2 (by simp only [ba_app]; simp), junk_of_below (by (repeat' (first | (with_reducible exact Below.refl _ _) | (with_reducible assumption) | (with_reducible refine Below.alloc ?_ ?_ _) | (with_reducible refine Below.drew ?_) | (with_reducible refine below_drewN ?_ _) | (with_reducible refine below_plus ?_ ?_ _ _) | (with_reducible refine Below.setCell ?_ ?_ _) | (with_reducible refine Below.setRow ?_ ?_ _) | go_size)))⟩
  | false =>
    simp only [Bool.false_eq_true, if_false] at hv
    subst hv
    go_enter Tryd.func9, Tryd.ntmps9
    go_wp2_with fail
    refine (HC.out _).mono ?_; rintro e w' ⟨rfl, rfl⟩
    go_wp2_with fail
    refine (I1.out _ ht.out).mono ?_; rintro e w' ⟨rfl, J1, d1, rfl⟩
    rcases hx with ⟨rfl, rfl⟩ | rfl
    · go_wp2_with fail
      refine (I2.out _ (ht.out.plus _ _)).mono ?_; rintro e w' ⟨rfl, J2, d2, rfl⟩
      go_wp2_with fail
      go_ret2
      exact ⟨ret_str2 (by simp only [ba_app]; simp), junk_of_below (by (repeat' (first | (with_reducible exact Below.refl _ _) | (with_reducible assumption) | (with_reducible refine Below.alloc ?_ ?_ _) | (with_reducible refine Below.drew ?_) | (with_reducible refine below_drewN ?_ _) | (with_reducible refine below_plus ?_ ?_ _ _) | (with_reducible refine Below.setCell ?_ ?_ _) | (with_reducible refine Below.setRow ?_ ?_ _) | go_size)))⟩
    · go_wp2_with fail
      refine (I2.out _ (ht.out.plus _ _)).mono ?_; rintro e w' ⟨rfl, J2, d2, rfl⟩
      go_wp2_with fail
      go_ret2
      exact ⟨ret_str2 (by simp only [ba_app]; simp), junk_of_below (by (repeat' (first | (with_reducible exact Below.refl _ _) | (with_reducible assumption) | (with_reducible refine Below.alloc ?_ ?_ _) | (with_reducible refine Below.drew ?_) | (with_reducible refine below_drewN ?_ _) | (with_reducible refine below_plus ?_ ?_ _ _) | (with_reducible refine Below.setCell ?_ ?_ _) | (with_reducible refine Below.setRow ?_ ?_ _) | go_size)))⟩

theorem m_Text (v : Int) (h0 : -1099511627775 ≤ v) (h1 : v ≤ 1099511627775) (w : World) (ht : Tab w) :
    Calls Tryd.prog 9 #[.int .i64 v] w fun e w' => e = .returned (.tuple #[.string ⟨(amtText v).toArray⟩, .int .i64 0]) ∧ Junk w w' := by
  have hc : amtErr v = 0 := if_pos ⟨h0, h1⟩
  have HC := m_Check v
  rw [hc] at HC
  obtain ⟨X, Y, hxy, hX⟩ := dec_get (v.natAbs % 100) (by omega)
  have hm := m_Text_core v v.natAbs (decide (v < 0)) (by by_cases hv : v < 0 <;> simp [hv] <;> omega) (by simp; omega) (by omega) w (Lib.hid ht) X Y _ _ (Lib.hid HC) (Lib.hid rfl) (by rw [itoa_nat]; exact dec_len _ 20 (by omega) (by omega)) (Lib.hid rfl)
    (by rw [itoa_nat]; rcases hX with h | h
        · exact .inl h.2
        · exact .inr h.2)
  unfold amtText
  rw [hxy, ← itoa_nat]
  simpa using hm

theorem m_Text_out (v : Int) (h : amtErr v = 5) (w : World) :
    Calls Tryd.prog 9 #[.int .i64 v] w fun e w' => e = .returned (.tuple #[.string ⟨#[]⟩, .int .i64 5]) ∧ Junk w w' := by
  have HC := m_Check v
  rw [h] at HC
  have HC := Lib.hid HC; clear h
  go_enter Tryd.func9, Tryd.ntmps9
  go_wp2_with fail
  refine (HC.out _).mono ?_; rintro e w' ⟨rfl, rfl⟩
  go_wp2_with fail
  go_ret2
  exact ⟨rfl, junk_of_below (by (repeat' (first | (with_reducible exact Below.refl _ _) | (with_reducible assumption) | (with_reducible refine Below.alloc ?_ ?_ _) | (with_reducible refine Below.drew ?_) | (with_reducible refine below_drewN ?_ _) | (with_reducible refine below_plus ?_ ?_ _ _) | (with_reducible refine Below.setCell ?_ ?_ _) | (with_reducible refine Below.setRow ?_ ?_ _) | go_size)))⟩
end Go.Proofs.YtgnmoneiiogoaaaDoor

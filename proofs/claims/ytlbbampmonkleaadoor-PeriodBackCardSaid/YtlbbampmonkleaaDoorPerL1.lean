/- The laws' of, text, fault, awake; the laws PeriodSpans, PeriodTexts. Condition: civil's and strconv's tables are as laid. -/
import Derived.Test.YtlbbampmonkleaaDoorPerT2
import Derived.Test.YtlbbampmonkleaaDoorPerP4
namespace Go.Proofs.YtlbbampmonkleaaDoor
set_option linter.unusedVariables false
set_option linter.unusedSimpArgs false
open Go.RowKit

/-- Both tables are as laid. -/
def Tabs (w : World) : Prop := CTab w ∧ Tab w
theorem Tabs.below {w w' : World} (h : Tabs w) (hb : Below w.heap.size w w') : Tabs w' := ⟨h.1.below hb, h.2.below hb⟩

theorem l_of (k v n : Int) (HO : Hid (∀ w, Tabs w → Calls Tryd.prog 9 #[.int .i64 k, .int .i64 v] w fun e w' => e = .returned (.tuple #[.int .i64 n, .int .i64 0]) ∧ Junk w w')) (w : World) (ht : Tabs w) :
    Calls Tryd.prog 20 #[.int .i64 k, .int .i64 v, .int .i64 n] w fun e w' => e = .returned (.bool true) ∧ Junk w w' := by
  have HT := Lib.hid ht
  clear ht
  go_enter Tryd.func20, Tryd.ntmps20
  go_wp2_with fail
  refine (HO.out _ HT.out).mono ?_; rintro e w' ⟨rfl, J, dr, rfl⟩
  go_wp2
  go_ret
  exact ⟨by simp, junk_of_below (by (repeat' (first | (with_reducible exact Below.refl _ _) | (with_reducible assumption) | (with_reducible refine Below.alloc ?_ ?_ _) | (with_reducible refine Below.drew ?_) | (with_reducible refine below_drewN ?_ _) | (with_reducible refine below_plus ?_ ?_ _ _) | (with_reducible refine Below.setCell ?_ ?_ _) | (with_reducible refine Below.setRow ?_ ?_ _) | go_size)))⟩

theorem l_text (k n : Int) (s : ByteArray) (HO : Hid (∀ w, Tabs w → Calls Tryd.prog 16 #[.int .i64 k, .int .i64 n] w fun e w' => e = .returned (.tuple #[.string s, .int .i64 0]) ∧ Junk w w')) (w : World) (ht : Tabs w) :
    Calls Tryd.prog 21 #[.int .i64 k, .int .i64 n, .string s] w fun e w' => e = .returned (.bool true) ∧ Junk w w' := by
  have HT := Lib.hid ht
  clear ht
  go_enter Tryd.func21, Tryd.ntmps21
  go_wp2_with fail
  refine (HO.out _ HT.out).mono ?_; rintro e w' ⟨rfl, J, dr, rfl⟩
  go_wp2
  go_ret
  exact ⟨by simp, junk_of_below (by (repeat' (first | (with_reducible exact Below.refl _ _) | (with_reducible assumption) | (with_reducible refine Below.alloc ?_ ?_ _) | (with_reducible refine Below.drew ?_) | (with_reducible refine below_drewN ?_ _) | (with_reducible refine below_plus ?_ ?_ _ _) | (with_reducible refine Below.setCell ?_ ?_ _) | (with_reducible refine Below.setRow ?_ ?_ _) | go_size)))⟩

theorem l_fault (s : ByteArray) (e at' : Int) (HO : Hid (∀ w, Calls Tryd.prog 18 #[.string s] w fun e1 w' => e1 = .returned (.tuple #[.int .i64 0, .int .i64 0, .agg #[.int .i64 e, .int .i64 at']]) ∧ Junk w w')) (w : World) :
    Calls Tryd.prog 22 #[.string s, .int .i64 e, .int .i64 at'] w fun e w' => e = .returned (.bool true) ∧ Junk w w' := by
  go_enter Tryd.func22, Tryd.ntmps22
  go_wp2_with fail
  refine (HO.out _).mono ?_; rintro e w' ⟨rfl, J, dr, rfl⟩
  go_wp2
  go_ret
  exact ⟨by simp, junk_of_below (by (repeat' (first | (with_reducible exact Below.refl _ _) | (with_reducible assumption) | (with_reducible refine Below.alloc ?_ ?_ _) | (with_reducible refine Below.drew ?_) | (with_reducible refine below_drewN ?_ _) | (with_reducible refine below_plus ?_ ?_ _ _) | (with_reducible refine Below.setCell ?_ ?_ _) | (with_reducible refine Below.setRow ?_ ?_ _) | go_size)))⟩

theorem v_feb : Valid 2024 2 29 := by unfold Valid; decide
theorem d_feb : dayOf 2024 2 29 = 738944 := by decide

/-- What the examples of Of answer. -/
theorem of_feb (k n : Int) (hk : 1 ≤ k ∧ k ≤ 4) (hn : (12 * (2024 - 1) + 2 - 1 : Int) / mon k = n) : ∀ w, Tabs w → Calls Tryd.prog 9 #[.int .i64 k, .int .i64 738944] w fun e w' => e = .returned (.tuple #[.int .i64 n, .int .i64 0]) ∧ Junk w w' := by
  intro w ht
  have := n_Of k 738944 2024 2 29 hk v_feb d_feb w ht.1
  rwa [hn] at this

theorem text_at (k n : Int) (y m : Nat) (s : List UInt8) (h : InCal k n) (hy : (y : Int) = n * mon k / 12 + 1) (hm : (m : Int) = n * mon k % 12 + 1) (hs : tx k y m = s) : ∀ w, Tabs w → Calls Tryd.prog 16 #[.int .i64 k, .int .i64 n] w fun e w' => e = .returned (.tuple #[.string ⟨s.toArray⟩, .int .i64 0]) ∧ Junk w w' := by
  intro w ht
  have := n_Text k n h y m hy hm w ht.2
  rwa [hs] at this

theorem parse_at (L : List UInt8) (hl : L.length ≤ 1000) (a b c d : Int) (h : parseP L = (a, b, c, d)) : ∀ w, Calls Tryd.prog 18 #[.string ⟨L.toArray⟩] w fun e w' => e = .returned (.tuple #[.int .i64 a, .int .i64 b, .agg #[.int .i64 c, .int .i64 d]]) ∧ Junk w w' :=
  fun w => n_Parse L hl (a, b, c, d) (Lib.hid h) w

instance (k p : Int) : Decidable (InCal k p) := inferInstanceAs (Decidable (_ ∧ _ ∧ _))

set_option maxRecDepth 100000 in
set_option maxHeartbeats 1000000 in
theorem awake_ok (w : World) (ht : Tabs w) : Calls Tryd.prog 15 #[] w fun e w' => e = .returned (.bool true) ∧ Junk w w' := by
  have HT := Lib.hid ht
  have H1 := Lib.hid (l_of 1 738944 24277 (Lib.hid (of_feb 1 24277 (by omega) (by decide))))
  have H2 := Lib.hid (l_of 2 738944 8092 (Lib.hid (of_feb 2 8092 (by omega) (by decide))))
  have H3 := Lib.hid (l_text 1 24277 _ (Lib.hid (text_at 1 24277 2024 2 [50, 48, 50, 52, 45, 77, 48, 50] (by decide) (by decide) (by decide) (by decide))))
  have H4 := Lib.hid (l_fault ⟨#[50, 48, 50, 52, 45, 81, 53]⟩ 4 6 (Lib.hid (parse_at [50, 48, 50, 52, 45, 81, 53] (by decide) 0 0 4 6 (by decide))))
  clear ht
  go_enter Tryd.func15, Tryd.ntmps15
  go_wp2_with fail
  refine (H1.out _ HT.out).mono ?_; rintro e w' ⟨rfl, J, dr, rfl⟩
  go_wp2_with fail
  refine (H2.out _ (HT.out.below (by (repeat' (first | (with_reducible exact Below.refl _ _) | (with_reducible assumption) | (with_reducible refine Below.alloc ?_ ?_ _) | (with_reducible refine Below.drew ?_) | (with_reducible refine below_drewN ?_ _) | (with_reducible refine below_plus ?_ ?_ _ _) | (with_reducible refine Below.setCell ?_ ?_ _) | (with_reducible refine Below.setRow ?_ ?_ _) | go_size))))).mono ?_; rintro e w' ⟨rfl, J2, dr2, rfl⟩
  go_wp2_with fail
  refine (H3.out _ (HT.out.below (by (repeat' (first | (with_reducible exact Below.refl _ _) | (with_reducible assumption) | (with_reducible refine Below.alloc ?_ ?_ _) | (with_reducible refine Below.drew ?_) | (with_reducible refine below_drewN ?_ _) | (with_reducible refine below_plus ?_ ?_ _ _) | (with_reducible refine Below.setCell ?_ ?_ _) | (with_reducible refine Below.setRow ?_ ?_ _) | go_size))))).mono ?_; rintro e w' ⟨rfl, J3, dr3, rfl⟩
  go_wp2_with fail
  refine (H4.out _).mono ?_; rintro e w' ⟨rfl, J4, dr4, rfl⟩
  go_wp2
  go_ret
  exact ⟨by simp, junk_of_below (by (repeat' (first | (with_reducible exact Below.refl _ _) | (with_reducible assumption) | (with_reducible refine Below.alloc ?_ ?_ _) | (with_reducible refine Below.drew ?_) | (with_reducible refine below_drewN ?_ _) | (with_reducible refine below_plus ?_ ?_ _ _) | (with_reducible refine Below.setCell ?_ ?_ _) | (with_reducible refine Below.setRow ?_ ?_ _) | go_size)))⟩
end Go.Proofs.YtlbbampmonkleaaDoor

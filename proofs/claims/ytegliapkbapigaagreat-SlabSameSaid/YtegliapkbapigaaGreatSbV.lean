/- The law SlabSame: the walk. -/
import Derived.Test.YtegliapkbapigaaGreatSbT
import Derived.Test.YtegliapkbapigaaGreatSbMath
import Derived.Test.YtegliapkbapigaaGreatCrE
namespace Go.Proofs.YtegliapkbapigaaGreat
set_option linter.unusedVariables false
set_option linter.unusedSimpArgs false
open Go.RowKit

theorem k_PickS (w : World) (x n : Int) (hx : -9223372036854775808 ≤ x ∧ x ≤ 9223372036854775807) (hn : -9223372036854775808 ≤ n ∧ n ≤ 9223372036854775807) :
    Calls Tryz.prog 29 #[.int .i64 x, .int .i64 n] w fun e w' => e = .returned (.int .i64 (if n < 1 then 0 else x % n)) ∧ Junk w w' := by
  obtain ⟨x0, x1⟩ := hx
  obtain ⟨n0, n1⟩ := hn
  by_cases c1 : n < 1
  · rw [if_pos c1]
    clear x0 x1 n0 n1
    go_enter Tryz.func29, Tryz.ntmps29
    go_wp2
    go_ret
    exact ⟨rfl, junk_of_below (by (repeat' (first | (with_reducible exact Below.refl _ _) | (with_reducible assumption) | (with_reducible refine Below.alloc ?_ ?_ _) | (with_reducible refine Below.drew ?_) | (with_reducible refine below_drewN ?_ _) | (with_reducible refine below_plus ?_ ?_ _ _) | (with_reducible refine Below.setCell ?_ ?_ _) | (with_reducible refine Below.setRow ?_ ?_ _) | go_size)))⟩
  rw [if_neg c1]
  obtain ⟨m, hm⟩ : ∃ m, x.tmod n = m := ⟨_, rfl⟩
  obtain ⟨d, hd⟩ : ∃ d, x % n = d := ⟨_, rfl⟩
  have hnz : n ≠ 0 := by omega
  have hnz2 : (n == 0) = false := beq_eq_false_iff_ne.2 hnz
  have hd0 := Int.emod_nonneg x hnz
  have hd1 := Int.emod_lt_of_pos x (show 0 < n by omega)
  have ht : m = d ∨ (m < 0 ∧ m + n = d) := by
    rw [← hm, ← hd]
    rcases Int.lt_or_le x 0 with h | h
    · by_cases hz : x % n = 0
      · left
        have := Int.dvd_of_emod_eq_zero hz
        rw [hz, Int.tmod_eq_emod]; simp [this, hz]
      · right
        have hnd : ¬ n ∣ x := fun h => hz (Int.emod_eq_zero_of_dvd h)
        have : (n.natAbs : Int) = n := by omega
        rw [Int.tmod_eq_emod, if_neg (by omega), this]
        omega
    · left
      exact Int.tmod_eq_emod_of_nonneg h
  rw [hd] at hd0 hd1 ⊢
  have e1 : x % n = d := hd
  rcases ht with ht | ⟨ht1, ht2⟩
  · subst ht
    clear hd
    go_enter Tryz.func29, Tryz.ntmps29
    go_wp2
    go_ret
    exact ⟨rfl, junk_of_below (by (repeat' (first | (with_reducible exact Below.refl _ _) | (with_reducible assumption) | (with_reducible refine Below.alloc ?_ ?_ _) | (with_reducible refine Below.drew ?_) | (with_reducible refine below_drewN ?_ _) | (with_reducible refine below_plus ?_ ?_ _ _) | (with_reducible refine Below.setCell ?_ ?_ _) | (with_reducible refine Below.setRow ?_ ?_ _) | go_size)))⟩
  · have e2 : IntKind.i64.wrap (m + n) = m + n := by simp [IntKind.wrap, IntKind.signed, IntKind.bits]; omega
    clear hd e1
    go_enter Tryz.func29, Tryz.ntmps29
    go_wp2
    go_ret
    exact ⟨rfl, junk_of_below (by (repeat' (first | (with_reducible exact Below.refl _ _) | (with_reducible assumption) | (with_reducible refine Below.alloc ?_ ?_ _) | (with_reducible refine Below.drew ?_) | (with_reducible refine below_drewN ?_ _) | (with_reducible refine below_plus ?_ ?_ _ _) | (with_reducible refine Below.setCell ?_ ?_ _) | (with_reducible refine Below.setRow ?_ ?_ _) | go_size)))⟩
/-- By how many places. -/
theorem n_sbPick (z : Int) (hz : -9223372036854775808 ≤ z ∧ z ≤ 9223372036854775807) (n : Nat) (h0 : 0 < n) (hn : n ≤ 100000) : ∃ b : Nat, (b : Int) = z % (n : Int) ∧ b < n ∧ ∀ W, Calls Tryz.prog 29 #[.int .i64 z, .int .i64 (n : Int)] W fun e w' => e = .returned (.int .i64 (b : Int)) ∧ Junk W w' := by
  have h1 := Int.emod_nonneg z (b := (n : Int)) (by omega)
  have h2 := Int.emod_lt_of_pos z (b := (n : Int)) (by omega)
  have e : (((z % (n : Int)).toNat : Nat) : Int) = z % (n : Int) := Int.toNat_of_nonneg h1
  refine ⟨(z % (n : Int)).toNat, e, by omega, fun W => ?_⟩
  have := k_PickS W z (n : Int) hz ⟨by omega, by omega⟩
  rw [if_neg (by omega)] at this
  rw [e]
  exact this
set_option maxRecDepth 100000 in
set_option maxHeartbeats 2000000 in
theorem same_big (w : World) (a : Option Addr) (n ca : Nat) (R : List (List Pt)) (hR : GRC w a n ca R) (hs : n ≤ 4611686018427387903) (hl : ∀ K ∈ R, K.length ≤ 8796093022208) (pa : Option Addr) (pn pc : Nat) (z : Int) (h : (decide (22 < R.length) || decide (120 < allN R)) = true ∨ 30 < pn) :
    Calls Tryz.prog 8 #[.agg #[.slice a n ca], .slice pa pn pc, .int .i64 z] w fun e w' => e = .returned (.bool true) ∧ Junk w w' := by
  have HAw := Lib.hid l_sbAwake
  have HR := Lib.hid hR
  have HL := Lib.hid (fun w' h => k_BigRegion 120 (by decide) w' a n ca R h hs hl)
  cases hb : (decide (22 < R.length) || decide (120 < allN R)) with
  | true =>
    rw [hb] at HL
    clear hR h hb
    go_enter Tryz.func8, Tryz.ntmps8
    go_wp2_with (first | (go_at_call 10; refine (HAw.out _).mono ?_; rintro e w1 ⟨rfl, J1, d1, rfl⟩) | (go_at_call 9; refine (HL.out _ (HR.out.below (by ((try simp only [← Array.append_assoc]); repeat' (first | (with_reducible exact Below.refl _ _) | (with_reducible assumption) | (with_reducible refine Below.alloc ?_ ?_ _) | (with_reducible refine Below.drew ?_) | (with_reducible refine below_drewN ?_ _) | (with_reducible exact below_d _ _ _ _ _) | (with_reducible refine below_snoc _ _ ?_ ?_) | (with_reducible refine below_plus ?_ ?_ _ _) | (with_reducible refine Below.setCell ?_ ?_ _) | (with_reducible refine Below.setRow ?_ ?_ _) | go_size))))).mono ?_; rintro e w1 ⟨rfl, J2, d2, rfl⟩))
    go_ret
    exact ⟨rfl, junk_of_below (by (repeat' (first | (with_reducible exact Below.refl _ _) | (with_reducible assumption) | (with_reducible refine Below.alloc ?_ ?_ _) | (with_reducible refine Below.drew ?_) | (with_reducible refine below_drewN ?_ _) | (with_reducible refine below_plus ?_ ?_ _ _) | (with_reducible refine Below.setCell ?_ ?_ _) | (with_reducible refine Below.setRow ?_ ?_ _) | go_size)))⟩
  | false =>
    rw [hb] at HL h
    have hp : 30 < pn := by rcases h with h | h; cases h; exact h
    have i1 : (pn : Int) > 30 := by omega
    clear hR h hb hp
    go_enter Tryz.func8, Tryz.ntmps8
    go_wp2_with (first | (go_at_call 10; refine (HAw.out _).mono ?_; rintro e w1 ⟨rfl, J1, d1, rfl⟩) | (go_at_call 9; refine (HL.out _ (HR.out.below (by ((try simp only [← Array.append_assoc]); repeat' (first | (with_reducible exact Below.refl _ _) | (with_reducible assumption) | (with_reducible refine Below.alloc ?_ ?_ _) | (with_reducible refine Below.drew ?_) | (with_reducible refine below_drewN ?_ _) | (with_reducible exact below_d _ _ _ _ _) | (with_reducible refine below_snoc _ _ ?_ ?_) | (with_reducible refine below_plus ?_ ?_ _ _) | (with_reducible refine Below.setCell ?_ ?_ _) | (with_reducible refine Below.setRow ?_ ?_ _) | go_size))))).mono ?_; rintro e w1 ⟨rfl, J2, d2, rfl⟩))
    go_ret
    exact ⟨rfl, junk_of_below (by (repeat' (first | (with_reducible exact Below.refl _ _) | (with_reducible assumption) | (with_reducible refine Below.alloc ?_ ?_ _) | (with_reducible refine Below.drew ?_) | (with_reducible refine below_drewN ?_ _) | (with_reducible refine below_plus ?_ ?_ _ _) | (with_reducible refine Below.setCell ?_ ?_ _) | (with_reducible refine Below.setRow ?_ ?_ _) | go_size)))⟩
set_option maxRecDepth 100000 in
set_option maxHeartbeats 4000000 in
theorem same_bad (w : World) (a : Option Addr) (n ca : Nat) (R : List (List Pt)) (hR : GRC w a n ca R) (hs : n ≤ 1000) (hl : ∀ K ∈ R, K.length ≤ 100000) (pa : Option Addr) (pn pc : Nat) (z : Int) (hp : pn ≤ 30) (h : (decide (22 < R.length) || decide (120 < allN R)) = false) (hbad : (checkR R).1 ≠ 0) :
    Calls Tryz.prog 8 #[.agg #[.slice a n ca], .slice pa pn pc, .int .i64 z] w fun e w' => e = .returned (.bool true) ∧ Junk w w' := by
  have HAw := Lib.hid l_sbAwake
  have HR := Lib.hid hR
  have HL := Lib.hid (fun w' h => k_BigRegion 120 (by decide) w' a n ca R h (by omega) (fun K hK => by have := hl K hK; omega))
  rw [h] at HL
  obtain ⟨⟨x, y⟩, hxy⟩ : ∃ z, checkR R = z := ⟨_, rfl⟩
  rw [hxy] at hbad
  simp only at hbad
  have HBd := Lib.hid (fun w' h => build_bad w' a n ca R h hs hl x y hxy hbad)
  have e1 : (x != 0) = true := by simpa using hbad
  have e2 : (x == 0) = false := by simpa using hbad
  have i1 : ¬ (pn : Int) > 30 := by omega
  clear hR h hxy hbad hl hp
  go_enter Tryz.func8, Tryz.ntmps8
  go_wp2_with (first
    | (go_at_call 10; refine (HAw.out _).mono ?_; rintro e w1 ⟨rfl, J1, d1, rfl⟩)
    | (go_at_call 9; refine (HL.out _ (HR.out.below (by ((try simp only [← Array.append_assoc]); repeat' (first | (with_reducible exact Below.refl _ _) | (with_reducible assumption) | (with_reducible refine Below.alloc ?_ ?_ _) | (with_reducible refine Below.drew ?_) | (with_reducible refine below_drewN ?_ _) | (with_reducible exact below_d _ _ _ _ _) | (with_reducible refine below_snoc _ _ ?_ ?_) | (with_reducible refine below_plus ?_ ?_ _ _) | (with_reducible refine Below.setCell ?_ ?_ _) | (with_reducible refine Below.setRow ?_ ?_ _) | go_size))))).mono ?_; rintro e w1 ⟨rfl, J2, d2, rfl⟩)
    | (go_at_call 12; (with_reducible refine (HBd.out _ (HR.out.below (by ((try simp only [← Array.append_assoc]); repeat' (first | (with_reducible exact Below.refl _ _) | (with_reducible assumption) | (with_reducible refine Below.alloc ?_ ?_ _) | (with_reducible refine Below.drew ?_) | (with_reducible refine below_drewN ?_ _) | (with_reducible exact below_d _ _ _ _ _) | (with_reducible refine below_snoc _ _ ?_ ?_) | (with_reducible refine below_plus ?_ ?_ _ _) | (with_reducible refine Below.setCell ?_ ?_ _) | (with_reducible refine Below.setRow ?_ ?_ _) | go_size))))).mono ?_); rintro e w1 ⟨rfl, J3, d3, rfl⟩))
  go_ret
  exact ⟨rfl, junk_of_below (by (repeat' (first | (with_reducible exact Below.refl _ _) | (with_reducible assumption) | (with_reducible refine Below.alloc ?_ ?_ _) | (with_reducible refine Below.drew ?_) | (with_reducible refine below_drewN ?_ _) | (with_reducible refine below_plus ?_ ?_ _ _) | (with_reducible refine Below.setCell ?_ ?_ _) | (with_reducible refine Below.setRow ?_ ?_ _) | go_size)))⟩
/-- A region in a block of its own. -/
def GBlk (w : World) (g : Nat) (v : Value) : Prop := w.heap[g]? = some (.cells #[v] 24 (0, 0))
section
variable {w w' : World} {g : Nat} {v : Value}
theorem GBlk.cell (h : GBlk w g v) : w.cell? ⟨g, 0, none⟩ = some v := cell_of_row w g 0 _ _ _ h
theorem GBlk.frozen (h : GBlk w g v) : w.frozen? ⟨g, 0, none⟩ = false := by unfold GBlk at h; simp [World.frozen?, h]
theorem GBlk.below (h : GBlk w g v) (hb : Below w.heap.size w w') : GBlk w' g v := (hb.block g (heap_lt h)).trans h
theorem GBlk.grown {row : Option Nat} (h : GBlk w g v) (hg : w.grownBy w' row) (hne : row ≠ some g) : GBlk w' g v := (hg.block g (heap_lt h) (fun e => hne e.symm)).trans h
theorem GBlk.set (h : GBlk w g v) (u : Value) : GBlk (w.setCell ⟨g, 0, none⟩ u) g u := by
  obtain ⟨hlt, hk⟩ := Array.getElem?_eq_some_iff.1 h
  show (w.heap.modify g _)[g]? = _
  rw [Array.getElem?_eq_getElem (by rw [Array.size_modify]; exact hlt), Array.getElem_modify_self, hk]
  rfl
end
/-- Between two rounds: the first rings, turned about. -/
def SmO (W : World) (hb : Nat) (T : List (List Pt)) (m : Nat) (x : Value) (wr : World) : Prop := ∃ (k : Nat) (v : Value) (ps : List (Value × List Pt)), x = .int .i64 (k : Int) ∧ k ≤ m ∧ GBlk wr hb v ∧ GOwn wr (hb + 1) v ps ∧ ps.map (·.2) = T.take k ∧ Below hb W wr
/-- Between two inner rounds: the first points. -/
def SmI (W : World) (K : List Pt) (v x : Value) (wr : World) : Prop := ∃ k : Nat, x = .int .i64 (k : Int) ∧ k ≤ K.length ∧ wr.ownsRow W.heap.size 40 2 v k (pcells (K.take k)) ∧ Below W.heap.size W wr
set_option maxRecDepth 100000 in
set_option maxHeartbeats 8000000 in
theorem same_fine (w : World) (a : Option Addr) (n ca : Nat) (R : List (List Pt)) (hR : GRC w a n ca R) (hs : n ≤ 1000) (hf : regFine R) (pa : Option Addr) (pn pc : Nat) (P : List Pt) (hP : PRC w pa pn pc P) (hp : pn ≤ 30) (z : Int) (hz : -9223372036854775808 ≤ z ∧ z ≤ 9223372036854775807) (h : (decide (22 < R.length) || decide (120 < allN R)) = false) :
    Calls Tryz.prog 8 #[.agg #[.slice a n ca], .slice pa pn pc, .int .i64 z] w fun e w' => e = .returned (.bool true) ∧ Junk w w' := by
  have hl : ∀ K ∈ R, K.length ≤ 100000 := fun K hK => by have := ring_leR hK; have := hf.many; omega
  have hn0 : 0 < n := by rw [← hR.len]; exact hf.few
  have hn20 : n ≤ 20 := by rw [← hR.len]; exact hf.long
  have HAw := Lib.hid l_sbAwake
  have HR := Lib.hid hR
  have HPr := Lib.hid hP
  have HRl := Lib.hid hR.len
  have HL := Lib.hid (fun w' h => k_BigRegion 120 (by decide) w' a n ca R h (by omega) (fun K hK => by have := hl K hK; omega))
  rw [h] at HL
  have HBd := Lib.hid (fun w' h => n_sbBuild w' a n ca R h hs hf (fine_fit2 hf))
  obtain ⟨s, hsz, hsn, hPk⟩ := n_sbPick z hz n hn0 (by omega)
  have hsR : s < R.length := by rw [hR.len]; exact hsn
  have hfA : regFine (abtR z s R) := (abtR_fine hsR).2 hf
  have HBd2 := Lib.hid (fun w' x c h => n_sbBuild w' x n c (abtR z s R) h hs hfA (fine_fit2 hfA))
  obtain ⟨m, hm, hm0⟩ : ∃ m, (hgtL R).length = m + 1 ∧ 0 < m := ⟨(hgtL R).length - 1, by have := hgtL_len hf; omega, by have := hgtL_len hf; omega⟩
  have HLe := Lib.hid (fun (B T sb : Nat) (W : World) (hW : SlabB W B T sb R) => len_is R m (by omega) W B T sb hW)
  have HLe2 := Lib.hid (fun (B T sb : Nat) (W : World) (hW : SlabB W B T sb (abtR z s R)) => len_is (abtR z s R) m (by rw [abtR_hgt hsR]; omega) W B T sb hW)
  have HMo := Lib.hid (fun (B T sb : Nat) (W : World) (hW : SlabB W B T sb R) => most_lit R (mostK R m) (by rw [hm]; rfl) W B T sb hW)
  have HMo2 := Lib.hid (fun (B T sb : Nat) (W : World) (hW : SlabB W B T sb (abtR z s R)) => most_lit (abtR z s R) (mostK R m) (by rw [abtR_hgt hsR, hm, abtR_most hsR]; rfl) W B T sb hW)
  have HI := Lib.hid (fun (B T sb : Nat) (W : World) (px py : Int) (hW : SlabB W B T sb R) => n_slIn hW px py)
  have HI2 := Lib.hid (fun (B T sb : Nat) (W : World) (px py : Int) (hW : SlabB W B T sb (abtR z s R)) => show Calls Tryz.prog 16 #[.pointer (some ⟨sb, 0, none⟩), pt px py] W fun e w' => e = .returned (.bool (regQ (px, py) R)) ∧ Junk W w' by rw [← abtR_in (z := z) hsR]; exact n_slIn hW px py)
  have HI3 := Lib.hid (fun (W : World) (px py : Int) (hW : GRC W a n ca R) => c_reIn px py W a n ca R hW hs hl)
  have HCr := Lib.hid (fun (B T sb : Nat) (W : World) (px py : Int) (hW : SlabB W B T sb R) => n_slCross hW px py)
  have HStep := Lib.hid (fun k (hk : k < R.length) => abtR_step (z := z) (s := s) hk)
  have HRing := Lib.hid (show ∀ K ∈ R, 0 < K.length ∧ K.length ≤ 400 from fun K hK => ⟨by have := (hf.each K hK).few; omega, by have := ring_leR hK; have := hf.many; omega⟩)
  have HAl := Lib.hid (abtR_len z s R)
  have HPk := Lib.hid hPk
  have i1 : ¬ (pn : Int) > 30 := by omega
  generalize mostK R m = M at *
  clear hR h hP hm hPk hfA hsR hf hl hsz
  go_enter Tryz.func8, Tryz.ntmps8
  go_wp2_with (first
    | (go_at_call 10; refine (HAw.out _).mono ?_; rintro e w1 ⟨rfl, J1, d1, rfl⟩)
    | (go_at_call 9; refine (HL.out _ (HR.out.below (by ((try simp only [← Array.append_assoc]); repeat' (first | (with_reducible exact Below.refl _ _) | (with_reducible assumption) | (with_reducible refine Below.alloc ?_ ?_ _) | (with_reducible refine Below.drew ?_) | (with_reducible refine below_drewN ?_ _) | (with_reducible exact below_d _ _ _ _ _) | (with_reducible refine below_snoc _ _ ?_ ?_) | (with_reducible refine below_plus ?_ ?_ _ _) | (with_reducible refine Below.setCell ?_ ?_ _) | (with_reducible refine Below.setRow ?_ ?_ _) | go_size))))).mono ?_; rintro e w1 ⟨rfl, J2, d2, rfl⟩)
    | (go_at_call 12; (with_reducible refine (HBd.out _ (HR.out.below (by ((try simp only [← Array.append_assoc]); repeat' (first | (with_reducible exact Below.refl _ _) | (with_reducible assumption) | (with_reducible refine Below.alloc ?_ ?_ _) | (with_reducible refine Below.drew ?_) | (with_reducible refine below_drewN ?_ _) | (with_reducible exact below_d _ _ _ _ _) | (with_reducible refine below_snoc _ _ ?_ ?_) | (with_reducible refine below_plus ?_ ?_ _ _) | (with_reducible refine Below.setCell ?_ ?_ _) | (with_reducible refine Below.setRow ?_ ?_ _) | go_size))))).mono ?_); rintro e w1 ⟨⟨sb, rfl, ht⟩, J3, d3, rfl⟩; (try simp only [plus_plus, Array.append_assoc] at ht); obtain ⟨B, T, ht⟩ : ∃ B T, SlabB _ B T sb R := ⟨_, _, ht⟩; have HT := Lib.hid ht; clear ht))
  obtain ⟨fb, hfb⟩ : ∃ f, w.heap.size + 1 + (J1.size + (J2.size + J3.size)) = f := ⟨_, rfl⟩
  obtain ⟨hb, hhb⟩ : ∃ f, fb + 1 = f := ⟨_, rfl⟩
  obtain ⟨V, hV⟩ : ∃ V, ((((w.alloc (Obj.cells #[Value.slice a n ca] 24)).plus (J1 ++ (J2 ++ J3)) d3).alloc (Obj.cells #[Value.int IntKind.i64 0, Value.int IntKind.i64 0] 32)).alloc (Obj.cells #[Value.slice none 0 0] 24)) = V := ⟨_, rfl⟩
  have r0 : V.cell? ⟨w.heap.size, 0, none⟩ = some (.slice a n ca) := by rw [← hV]; simp [go_sem]
  have hj : Below w.heap.size w V := by rw [← hV]; ((try simp only [← Array.append_assoc]); repeat' (first | (with_reducible exact Below.refl _ _) | (with_reducible assumption) | (with_reducible refine Below.alloc ?_ ?_ _) | (with_reducible refine Below.drew ?_) | (with_reducible refine below_drewN ?_ _) | (with_reducible exact below_d _ _ _ _ _) | (with_reducible refine below_snoc _ _ ?_ ?_) | (with_reducible refine below_plus ?_ ?_ _ _) | (with_reducible refine Below.setCell ?_ ?_ _) | (with_reducible refine Below.setRow ?_ ?_ _) | go_size))
  have HJ := Lib.hid hj
  have hT : SlabB V B T sb R := by rw [← hV]; exact HT.out.below (by ((try simp only [← Array.append_assoc]); repeat' (first | (with_reducible exact Below.refl _ _) | (with_reducible assumption) | (with_reducible refine Below.alloc ?_ ?_ _) | (with_reducible refine Below.drew ?_) | (with_reducible refine below_drewN ?_ _) | (with_reducible exact below_d _ _ _ _ _) | (with_reducible refine below_snoc _ _ ?_ ?_) | (with_reducible refine below_plus ?_ ?_ _ _) | (with_reducible refine Below.setCell ?_ ?_ _) | (with_reducible refine Below.setRow ?_ ?_ _) | go_size)))
  have hTb : T ≤ fb := by
    have h1 := HT.out.size
    rw [← hfb]
    simp at h1
    omega
  have HTV := Lib.hid hT
  have HTB := Lib.hid hTb
  have HRV := Lib.hid (HR.out.below (show Below w.heap.size w V from HJ.out))
  have HPV := Lib.hid (HPr.out.below (show Below w.heap.size w V from HJ.out))
  have hg : GBlk V hb (.slice none 0 0) := by
    have e : hb = (((w.alloc (Obj.cells #[Value.slice a n ca] 24)).plus (J1 ++ (J2 ++ J3)) d3).alloc (Obj.cells #[Value.int IntKind.i64 0, Value.int IntKind.i64 0] 32)).heap.size := by rw [← hhb, ← hfb]; simp; try omega
    rw [← hV, e]
    exact World.alloc_heap_new _ _
  have hsz : V.heap.size = hb + 1 ∧ w.heap.size < hb ∧ fb < hb := by rw [← hV, ← hhb, ← hfb]; simp; omega
  have HGB := Lib.hid hg
  have HSz := Lib.hid hsz
  have hwb := hsz.2.1
  have hfh := hsz.2.2
  rw [hV]
  simp only [hfb, hhb]
  clear hV hfb hhb hj hT hTb hg hsz HT HBd HL
  have HBw := Lib.hid (fun W' (hB : Below hb V W') => show Below w.heap.size w W' from HJ.out.trans (hB.mono (by omega)))
  go_loopw [11] (fun x wr => SmO V hb (abtR z s R) n x wr) (fun x _ => n - (intOf x).toNat)
  case atStart => exact ⟨0, _, [], rfl, by omega, HGB.out, gown_nil _ _, rfl, Below.refl _ _⟩
  case round =>
    obtain ⟨k, v, ps, rfl, k1, hG, hO, hps, hB⟩ := hrel
    have HG := Lib.hid hG
    have HO := Lib.hid hO
    have HPs := Lib.hid hps
    have HB := Lib.hid hB
    have hbw := HBw.out wr hB
    have q0 : wr.cell? ⟨w.heap.size, 0, none⟩ = some (.slice a n ca) := (World.cell?_of_block (a := ⟨w.heap.size, 0, none⟩) (hB.block w.heap.size hwb)).trans r0
    have l0 := World.block_lt_of_cell? _ _ q0
    by_cases hlt : k < n
    · rcases HR.out.cells with h | ⟨b, o, rfl, hc⟩
      · omega
      obtain ⟨t, htn, et⟩ : ∃ t : Nat, t < n ∧ (k + s) % n = t := ⟨_, Nat.mod_lt _ hn0, rfl⟩
      obtain ⟨y, mm, c, p1, hpK⟩ := hc t htn
      have hkR : k < R.length := by rw [HRl.out]; exact hlt
      have htR : t < R.length := by rw [HRl.out]; exact htn
      have hst := HStep.out k hkR
      rw [HRl.out, et] at hst
      obtain ⟨hr0, hr1⟩ := HRing.out _ (ring_inR htR)
      have q1 := (World.cell?_of_block (hbw.block _ (World.block_lt_of_cell? _ _ p1))).trans p1
      have l1 := World.block_lt_of_cell? _ _ q1
      have hKl := hpK.rd.1
      generalize R.getD t [] = K at *
      rw [hKl] at hr0 hr1
      obtain ⟨b2, hb2z, hb2n, hPk2⟩ := n_sbPick z hz mm hr0 (by omega)
      rw [← hKl] at hb2z
      have HSt := Lib.hid (fun j (hj : j < K.length) => byF_step hb2z hj)
      have HKb := Lib.hid (show (byF z K).length = mm by rw [byF_len]; exact hKl)
      have HPk2 := Lib.hid hPk2
      have HKl := Lib.hid hKl
      have HPK := Lib.hid hpK
      have HSt2 := Lib.hid hst
      have w1 : IntKind.i64.wrap ((k : Int) + (s : Int)) = ((k + s : Nat) : Int) := by simp [IntKind.wrap, IntKind.signed, IntKind.bits]; omega
      have w2 : ((k + s : Nat) : Int).tmod (n : Int) = (t : Int) := by rw [Int.tmod_eq_emod_of_nonneg (by omega), ← et]; push_cast; rfl
      have w2' : ((k : Int) + (s : Int)).tmod (n : Int) = (t : Int) := by rw [← w2]; push_cast; rfl
      have w4 : ((k + s : Nat) : Int) % (n : Int) = (t : Int) := by rw [← et]; push_cast; rfl
      have w4' : ((k : Int) + (s : Int)) % (n : Int) = (t : Int) := by rw [← et]; push_cast; rfl
      have w3 : ¬ n = 0 := by omega
      have i2 : (t : Int) < (n : Int) := by omega
      have i3 : (k : Int) < (n : Int) := by omega
      obtain ⟨wo, rfl⟩ : ∃ wo : World, wo = wr := ⟨_, rfl⟩
      have HBw2 := Lib.hid hbw
      clear hc p1 hpK hst hb2z hPk2 hKl hG hO hps hB hbw et
      go_upto_region 11 with fail
      refine region_quiet_all (C := Cls wo) (by kernel_rfl) (by kernel_rfl) (by first | exact cls_drawn _ | exact ⟨#[], _, (plus_nil _).symm⟩) ?_
      repeat (first | (refine qw_skip (by rfl) ?_; simp only [Act.put, List.setIfInBounds_toArray, List.set_cons_succ, List.set_cons_zero]) | (refine qw_want (by rfl) (fun K hK => ?_); go_simp; first | (refine hK _ ?_; clear hK K) | (apply Exists.intro; refine ⟨?_, hK _ ?_⟩; (rintro w3_ ⟨J3_, d3_, rfl⟩; first | (with_reducible exact rfl) | (go_simp; with_reducible exact rfl) | (go_simp; (first | (with_reducible refine (HPk.out _).mono ?_)); rintro e_ w_ ⟨rfl, J4_, d4_, rfl⟩; exact ⟨rfl, J3_ ++ J4_, d4_, by simp only [plus_plus, Array.append_assoc]⟩)); clear hK K)))
      refine qw_nil ?_
      rintro w4 ⟨J9, d9, rfl⟩
      go_wp2_with fail
      obtain ⟨W1, hW1⟩ : ∃ W1, wo.plus J9 d9 = W1 := ⟨_, rfl⟩
      have hoW : Below wo.heap.size wo W1 := by rw [← hW1]; ((try simp only [← Array.append_assoc]); repeat' (first | (with_reducible exact Below.refl _ _) | (with_reducible assumption) | (with_reducible refine Below.alloc ?_ ?_ _) | (with_reducible refine Below.drew ?_) | (with_reducible refine below_drewN ?_ _) | (with_reducible exact below_d _ _ _ _ _) | (with_reducible refine below_snoc _ _ ?_ ?_) | (with_reducible refine below_plus ?_ ?_ _ _) | (with_reducible refine Below.setCell ?_ ?_ _) | (with_reducible refine Below.setRow ?_ ?_ _) | go_size))
      have HoW := Lib.hid hoW
      have hz1 := hoW.size
      rcases HPK.out.rd.2 with h | ⟨g0, f0, rfl, hpc⟩
      · omega
      have HPC := Lib.hid hpc
      have HG1 := Lib.hid (HG.out.below hoW)
      rw [hW1]
      clear hW1 hoW hpc
      go_loopw [13, 14] (fun v x wr => SmI W1 (byF z K) v x wr) (fun _ x _ => mm - (intOf x).toNat)
      case atStart => exact ⟨0, rfl, by omega, ⟨rfl, .inl ⟨rfl, rfl⟩⟩, Below.refl _ _⟩
      case round =>
        obtain ⟨j, rfl, j1, hown, hB2⟩ := hrel
        rw [HKb.out] at j1
        have hz2 := hB2.size
        have HB2 := Lib.hid hB2
        have HOW := Lib.hid hown
        clear hown
        by_cases hjt : j < mm
        · have hjK : j < K.length := by rw [HKl.out]; exact hjt
          have hst := HSt.out j hjK
          rw [HKl.out] at hst
          obtain ⟨t2, ht2, et2⟩ : ∃ t2 : Nat, t2 < mm ∧ (mm - 1 - j + b2) % mm = t2 := ⟨_, Nat.mod_lt _ (by omega), rfl⟩
          rw [et2] at hst
          obtain ⟨u1, u2⟩ := HPC.out t2 ht2
          have lg := World.block_lt_of_cell? _ _ u1
          have hall : Below w.heap.size w wr := HBw2.out.trans ((HoW.out.mono HBw2.out.size).trans (hB2.mono (by have := HBw2.out.size; omega)))
          have v1 := (World.cell?_of_block (a := ⟨g0, f0 + t2 * 2, none⟩) (hall.block g0 lg)).trans u1
          have v2 := (World.cell?_of_block (a := ⟨g0, f0 + t2 * 2 + 1, none⟩) (hall.block g0 lg)).trans u2
          obtain ⟨⟨px, py⟩, hpz⟩ : ∃ q, K.getD t2 (0, 0) = q := ⟨_, rfl⟩
          rw [hpz] at v1 v2 hst
          simp only at v1 v2
          have lg2 := World.block_lt_of_cell? _ _ v1
          have HS3 := Lib.hid hst
          generalize (byF z K).take j = L at *
          have x1 : IntKind.i64.wrap ((mm : Int) - 1) = ((mm - 1 : Nat) : Int) := by simp [IntKind.wrap, IntKind.signed, IntKind.bits]; omega
          have x2 : IntKind.i64.wrap (((mm - 1 : Nat) : Int) - (j : Int)) = ((mm - 1 - j : Nat) : Int) := by simp [IntKind.wrap, IntKind.signed, IntKind.bits]; omega
          have x3 : IntKind.i64.wrap (((mm - 1 - j : Nat) : Int) + (b2 : Int)) = ((mm - 1 - j + b2 : Nat) : Int) := by simp [IntKind.wrap, IntKind.signed, IntKind.bits]; omega
          have x4 : ((mm - 1 - j + b2 : Nat) : Int).tmod (mm : Int) = (t2 : Int) := by rw [Int.tmod_eq_emod_of_nonneg (by omega), ← et2]; push_cast; rfl
          have x4' : (((mm - 1 - j : Nat) : Int) + (b2 : Int)).tmod (mm : Int) = (t2 : Int) := by rw [← x4]; push_cast; rfl
          have x6 : ((mm - 1 - j + b2 : Nat) : Int) % (mm : Int) = (t2 : Int) := by rw [← et2]; push_cast; rfl
          have x6' : (((mm - 1 - j : Nat) : Int) + (b2 : Int)) % (mm : Int) = (t2 : Int) := by rw [← et2]; push_cast; rfl
          have x5 : ¬ mm = 0 := by omega
          have i4 : (t2 : Int) < (mm : Int) := by omega
          have i5 : (j : Int) < (mm : Int) := by omega
          obtain ⟨wi, rfl⟩ : ∃ wi : World, wi = wr := ⟨_, rfl⟩
          clear hst u1 u2 hall hpz hB2 et2
          go_wp2_with (first
            | (go_at_call 29; (with_reducible refine (HPk2.out _).mono ?_); rintro e w1 ⟨rfl, J5, d5, rfl⟩)
            | (at_builtin; refine wpList_papp rfl (.tmp 65) (.tmp 82) rfl W1.heap.size _ j L rfl (powns_below HOW.out (by ((try simp only [← Array.append_assoc]); repeat' (first | (with_reducible exact Below.refl _ _) | (with_reducible assumption) | (with_reducible refine Below.alloc ?_ ?_ _) | (with_reducible refine Below.drew ?_) | (with_reducible refine below_drewN ?_ _) | (with_reducible exact below_d _ _ _ _ _) | (with_reducible refine below_snoc _ _ ?_ ?_) | (with_reducible refine below_plus ?_ ?_ _ _) | (with_reducible refine Below.setCell ?_ ?_ _) | (with_reducible refine Below.setRow ?_ ?_ _) | go_size)))) _ px py rfl (by simp [go_sem]) (by simp [go_sem]) (by omega) (by simp; omega) ?_; intro v' w' hown' hg'; have HO' := Lib.hid hown'; have HBg := Lib.hid (grown_below (B := W1.heap.size) (a := W1) (HB2.out.trans (by ((try simp only [← Array.append_assoc]); repeat' (first | (with_reducible exact Below.refl _ _) | (with_reducible assumption) | (with_reducible refine Below.alloc ?_ ?_ _) | (with_reducible refine Below.drew ?_) | (with_reducible refine below_drewN ?_ _) | (with_reducible exact below_d _ _ _ _ _) | (with_reducible refine below_snoc _ _ ?_ ?_) | (with_reducible refine below_plus ?_ ?_ _ _) | (with_reducible refine Below.setCell ?_ ?_ _) | (with_reducible refine Below.setRow ?_ ?_ _) | go_size)))) hg' (by simp; omega) (powns_block HOW.out)); clear hown' hg'))
          go_roundw
          case rel => exact ⟨j + 1, by go_num, by rw [HKb.out]; omega, by rw [HS3.out]; exact HO'.out, HBg.out⟩
          case measure => simp [intOf]; omega
        · obtain rfl : j = mm := by omega
          have i5 : ¬ (j : Int) < (j : Int) := by omega
          have hown := HOW.out
          rw [List.take_of_length_le (by rw [HKb.out]; omega)] at hown
          obtain ⟨ma, mc, rfl, _⟩ := prc_owns hown
          have HOWL := Lib.hid (show wr.ownsRow W1.heap.size 40 2 (.slice ma j mc) (byF z K).length (pcells (byF z K)) by rw [HKb.out]; exact hown)
          have hO3 : GOwn wr (hb + 1) v ps := (HO.out.below HoW.out).below hB2
          have hG3 : GBlk wr hb v := HG1.out.below hB2
          obtain ⟨va, vc, rfl, _⟩ := HO.out.grc
          have HO3 := Lib.hid hO3
          have HG3 := Lib.hid hG3
          have c0 := hG3.cell
          have lc := heap_lt hG3
          have hw1 : hb < W1.heap.size := heap_lt HG1.out
          have hwo : hb < wo.heap.size := heap_lt HG.out
          have HVr := Lib.hid (show Below hb V wr from HB.out.trans ((HoW.out.mono (by omega)).trans (hB2.mono (by omega))))
          have hpl : ps.length ≤ 100 := by
            have := congrArg List.length HPs.out
            rw [List.length_map, List.length_take] at this
            omega
          have q5 : wr.cell? ⟨w.heap.size, 0, none⟩ = some (.slice (some ⟨b, o, none⟩) n ca) := (World.cell?_of_block (a := ⟨w.heap.size, 0, none⟩) (HVr.out.block w.heap.size hwb)).trans r0
          obtain ⟨wi, rfl⟩ : ∃ wi : World, wi = wr := ⟨_, rfl⟩
          clear hown hO3 hG3 hB2
          go_wp2_with (at_builtin; refine wpList_gapp rfl (.tmp 85) (.tmp 87) rfl (hb + 1) _ ps rfl (HO3.out.below (by ((try simp only [← Array.append_assoc]); repeat' (first | (with_reducible exact Below.refl _ _) | (with_reducible assumption) | (with_reducible refine Below.alloc ?_ ?_ _) | (with_reducible refine Below.drew ?_) | (with_reducible refine below_drewN ?_ _) | (with_reducible exact below_d _ _ _ _ _) | (with_reducible refine below_snoc _ _ ?_ ?_) | (with_reducible refine below_plus ?_ ?_ _ _) | (with_reducible refine Below.setCell ?_ ?_ _) | (with_reducible refine Below.setRow ?_ ?_ _) | go_size)))) _ (.slice ma j mc) (byF z K) rfl (by simp [go_sem]) (gown_base (powns_below HOWL.out (by ((try simp only [← Array.append_assoc]); repeat' (first | (with_reducible exact Below.refl _ _) | (with_reducible assumption) | (with_reducible refine Below.alloc ?_ ?_ _) | (with_reducible refine Below.drew ?_) | (with_reducible refine below_drewN ?_ _) | (with_reducible exact below_d _ _ _ _ _) | (with_reducible refine below_snoc _ _ ?_ ?_) | (with_reducible refine below_plus ?_ ?_ _ _) | (with_reducible refine Below.setCell ?_ ?_ _) | (with_reducible refine Below.setRow ?_ ?_ _) | go_size)))) (by omega)) (by omega) (by simp; omega) ?_; intro v' w' hown' hg'; obtain ⟨va', vc', rfl, _⟩ := hown'.grc; simp only [List.length_append, List.length_cons, List.length_nil, Nat.zero_add] at hown'; have HO' := Lib.hid hown'; have HG' := Lib.hid (GBlk.grown (HG3.out.below (by ((try simp only [← Array.append_assoc]); repeat' (first | (with_reducible exact Below.refl _ _) | (with_reducible assumption) | (with_reducible refine Below.alloc ?_ ?_ _) | (with_reducible refine Below.drew ?_) | (with_reducible refine below_drewN ?_ _) | (with_reducible exact below_d _ _ _ _ _) | (with_reducible refine below_snoc _ _ ?_ ?_) | (with_reducible refine below_plus ?_ ?_ _ _) | (with_reducible refine Below.setCell ?_ ?_ _) | (with_reducible refine Below.setRow ?_ ?_ _) | go_size)))) hg' (fun e => by have := (gown_block HO3.out.row hb e).1; omega)); have HBg := Lib.hid (grown_below (B := hb) (a := V) (HVr.out.trans (by ((try simp only [← Array.append_assoc]); repeat' (first | (with_reducible exact Below.refl _ _) | (with_reducible assumption) | (with_reducible refine Below.alloc ?_ ?_ _) | (with_reducible refine Below.drew ?_) | (with_reducible refine below_drewN ?_ _) | (with_reducible exact below_d _ _ _ _ _) | (with_reducible refine below_snoc _ _ ?_ ?_) | (with_reducible refine below_plus ?_ ?_ _ _) | (with_reducible refine Below.setCell ?_ ?_ _) | (with_reducible refine Below.setRow ?_ ?_ _) | go_size)))) hg' (by simp; omega) (fun g hg => by have := (gown_block HO3.out.row g hg).1; omega)); have c0' := HG'.out.cell; have f0' := HG'.out.frozen; have lc' := heap_lt HG'.out; clear hown' hg')
          go_roundw
          case rel => exact ⟨k + 1, _, ps ++ [(.slice ma j mc, byF z K)], by go_num, by omega, HG'.out.set _, HO'.out.set (show hb < hb + 1 by omega) _, by rw [List.map_append, HPs.out, HSt2.out]; rfl, HBg.out.setCell (Nat.le_refl _) _⟩
          case measure => simp [intOf]; omega
    · obtain rfl : k = n := by omega
      have i3 : ¬ (k : Int) < (k : Int) := by omega
      have hps := HPs.out
      rw [List.take_of_length_le (by rw [HAl.out, HRl.out]; omega)] at hps
      obtain ⟨va, vc, rfl, hgr⟩ := HO.out.grc
      rw [hps] at hgr
      have hpl : ps.length = k := by
        have := congrArg List.length hps
        rw [List.length_map, HAl.out, HRl.out] at this
        exact this
      rw [hpl] at hgr
      have hGc := HG.out.cell
      rw [hpl] at hGc
      have HGr := Lib.hid hgr
      have lc := heap_lt HG.out
      have HT2 := Lib.hid (show SlabB wr B T sb R from by
        have h1 := HTV.out
        have h2 := HTB.out
        refine h1.only (fun j _ hj => hB.block j (by omega)) ?_
        omega)
      have HBw3 := Lib.hid hbw
      obtain ⟨wo, rfl⟩ : ∃ wo : World, wo = wr := ⟨_, rfl⟩
      clear hps hgr hpl hbw hO hG hB HG HO HPs HB
      go_wp2_with (first
        | (go_at_call 12; (refine (HBd2.out _ _ _ (HGr.out.below (by ((try simp only [← Array.append_assoc]); repeat' (first | (with_reducible exact Below.refl _ _) | (with_reducible assumption) | (with_reducible refine Below.alloc ?_ ?_ _) | (with_reducible refine Below.drew ?_) | (with_reducible refine below_drewN ?_ _) | (with_reducible exact below_d _ _ _ _ _) | (with_reducible refine below_snoc _ _ ?_ ?_) | (with_reducible refine below_plus ?_ ?_ _ _) | (with_reducible refine Below.setCell ?_ ?_ _) | (with_reducible refine Below.setRow ?_ ?_ _) | go_size))))).mono ?_); rintro e w1 ⟨⟨sb2, rfl, ht⟩, J4, d4, rfl⟩; (try simp only [plus_plus, Array.append_assoc] at ht); obtain ⟨B2, T2, ht⟩ : ∃ B2 T2, SlabB _ B2 T2 sb2 (abtR z s R) := ⟨_, _, ht⟩; have HT3 := Lib.hid ht; clear ht)
        | (go_at_call 21; (with_reducible refine (HLe.out B T sb _ ?_).mono ?_); (exact HT2.out.below (by ((try simp only [← Array.append_assoc]); repeat' (first | (with_reducible exact Below.refl _ _) | (with_reducible assumption) | (with_reducible refine Below.alloc ?_ ?_ _) | (with_reducible refine Below.drew ?_) | (with_reducible refine below_drewN ?_ _) | (with_reducible exact below_d _ _ _ _ _) | (with_reducible refine below_snoc _ _ ?_ ?_) | (with_reducible refine below_plus ?_ ?_ _ _) | (with_reducible refine Below.setCell ?_ ?_ _) | (with_reducible refine Below.setRow ?_ ?_ _) | go_size)))); rintro e w1 ⟨rfl, hw⟩; rw [hw]; clear hw)
        | (go_at_call 21; (with_reducible refine (HLe2.out B2 T2 sb2 _ ?_).mono ?_); (exact HT3.out.below (by ((try simp only [← Array.append_assoc]); repeat' (first | (with_reducible exact Below.refl _ _) | (with_reducible assumption) | (with_reducible refine Below.alloc ?_ ?_ _) | (with_reducible refine Below.drew ?_) | (with_reducible refine below_drewN ?_ _) | (with_reducible exact below_d _ _ _ _ _) | (with_reducible refine below_snoc _ _ ?_ ?_) | (with_reducible refine below_plus ?_ ?_ _ _) | (with_reducible refine Below.setCell ?_ ?_ _) | (with_reducible refine Below.setRow ?_ ?_ _) | go_size)))); rintro e w1 ⟨rfl, hw⟩; rw [hw]; clear hw)
        | (go_at_call 24; (with_reducible refine (HMo.out B T sb _ ?_).mono ?_); (exact HT2.out.below (by ((try simp only [← Array.append_assoc]); repeat' (first | (with_reducible exact Below.refl _ _) | (with_reducible assumption) | (with_reducible refine Below.alloc ?_ ?_ _) | (with_reducible refine Below.drew ?_) | (with_reducible refine below_drewN ?_ _) | (with_reducible exact below_d _ _ _ _ _) | (with_reducible refine below_snoc _ _ ?_ ?_) | (with_reducible refine below_plus ?_ ?_ _ _) | (with_reducible refine Below.setCell ?_ ?_ _) | (with_reducible refine Below.setRow ?_ ?_ _) | go_size)))); rintro e w1 ⟨rfl, J5, d5, rfl⟩)
        | (go_at_call 24; (with_reducible refine (HMo2.out B2 T2 sb2 _ ?_).mono ?_); (exact HT3.out.below (by ((try simp only [← Array.append_assoc]); repeat' (first | (with_reducible exact Below.refl _ _) | (with_reducible assumption) | (with_reducible refine Below.alloc ?_ ?_ _) | (with_reducible refine Below.drew ?_) | (with_reducible refine below_drewN ?_ _) | (with_reducible exact below_d _ _ _ _ _) | (with_reducible refine below_snoc _ _ ?_ ?_) | (with_reducible refine below_plus ?_ ?_ _ _) | (with_reducible refine Below.setCell ?_ ?_ _) | (with_reducible refine Below.setRow ?_ ?_ _) | go_size)))); rintro e w1 ⟨rfl, J6, d6, rfl⟩))
      obtain ⟨V2, hV2⟩ : ∃ V2, (((wo.plus J4 d4).alloc (Obj.cells #[Value.int IntKind.i64 0, Value.int IntKind.i64 0] 32)).plus (J5 ++ J6) d6) = V2 := ⟨_, rfl⟩
      have hoV : Below wo.heap.size wo V2 := by rw [← hV2]; ((try simp only [← Array.append_assoc]); repeat' (first | (with_reducible exact Below.refl _ _) | (with_reducible assumption) | (with_reducible refine Below.alloc ?_ ?_ _) | (with_reducible refine Below.drew ?_) | (with_reducible refine below_drewN ?_ _) | (with_reducible exact below_d _ _ _ _ _) | (with_reducible refine below_snoc _ _ ?_ ?_) | (with_reducible refine below_plus ?_ ?_ _ _) | (with_reducible refine Below.setCell ?_ ?_ _) | (with_reducible refine Below.setRow ?_ ?_ _) | go_size))
      have HT4 := Lib.hid (HT2.out.below hoV)
      have HT5 := Lib.hid (show SlabB V2 B2 T2 sb2 (abtR z s R) by rw [← hV2]; exact HT3.out.below (by ((try simp only [← Array.append_assoc]); repeat' (first | (with_reducible exact Below.refl _ _) | (with_reducible assumption) | (with_reducible refine Below.alloc ?_ ?_ _) | (with_reducible refine Below.drew ?_) | (with_reducible refine below_drewN ?_ _) | (with_reducible exact below_d _ _ _ _ _) | (with_reducible refine below_snoc _ _ ?_ ?_) | (with_reducible refine below_plus ?_ ?_ _ _) | (with_reducible refine Below.setCell ?_ ?_ _) | (with_reducible refine Below.setRow ?_ ?_ _) | go_size))))
      have HB4 := Lib.hid (HBw3.out.trans (hoV.mono HBw3.out.size))
      have HR4 := Lib.hid (HR.out.below HB4.out)
      have HP4 := Lib.hid (HPr.out.below HB4.out)
      have q4 : V2.cell? ⟨w.heap.size, 0, none⟩ = some (.slice a k ca) := (World.cell?_of_block (a := ⟨w.heap.size, 0, none⟩) (hoV.block w.heap.size l0)).trans q0
      have l4 := World.block_lt_of_cell? _ _ q4
      rw [hV2]
      clear hV2 hoV q0 l0 hGc HGr HT2 HT3 HBw3 r0 lc HTV HRV HPV HGB HSz HBd2 HLe HLe2 HMo HMo2 HStep HRing HPk
      go_loopw [17] (fun x wr => FnAt V2 pn x wr) (fun x _ => pn - (intOf x).toNat)
      case atStart => exact ⟨0, rfl, by omega, #[], _, (plus_nil _).symm⟩
      case round =>
        obtain ⟨j, rfl, k1, J, d, rfl⟩ := hrel
        by_cases hlt : j < pn
        · rcases HP4.out.rd.2 with h | ⟨pb, po, rfl, hpc⟩
          · omega
          obtain ⟨p1, p2⟩ := hpc j hlt
          obtain ⟨⟨px, py⟩, hpz⟩ : ∃ z, P.getD j (0, 0) = z := ⟨_, rfl⟩
          rw [hpz] at p1 p2
          simp only at p1 p2
          have lp := World.block_lt_of_cell? _ _ p1
          have i2 : (j : Int) < (pn : Int) := by omega
          have HC1 := Lib.hid (fun (J : Array Obj) (d : Nat) => HI.out B T sb (V2.plus J d) px py (HT4.out.below (Junk.below ⟨J, d, rfl⟩)))
          have HC2 := Lib.hid (fun (J : Array Obj) (d : Nat) => HI3.out (V2.plus J d) px py (HR4.out.below (Junk.below ⟨J, d, rfl⟩)))
          have HC3 := Lib.hid (fun (J : Array Obj) (d : Nat) => HI2.out B2 T2 sb2 (V2.plus J d) px py (HT5.out.below (Junk.below ⟨J, d, rfl⟩)))
          have HC4 := Lib.hid (fun (J : Array Obj) (d : Nat) => HCr.out B T sb (V2.plus J d) px py (HT4.out.below (Junk.below ⟨J, d, rfl⟩)))
          have hcr := reg_cross (px, py) R
          generalize regQ (px, py) R = g at *
          generalize crossR (px, py) R = cr at *
          unfold pt at HC1 HC2 HC3 HC4
          have hcase : (g = false ∧ (cr : Int) % 2 = 0) ∨ (g = true ∧ (cr : Int) % 2 = 1) := by
            rcases Nat.mod_two_eq_zero_or_one cr with h | h
            · exact .inl ⟨by rw [hcr, h]; rfl, by omega⟩
            · exact .inr ⟨by rw [hcr, h]; rfl, by omega⟩
          have hrm : (cr : Int).tmod 2 = (cr : Int) % 2 := Int.tmod_eq_emod_of_nonneg (by omega)
          clear hpc hpz hcr
          rcases hcase with ⟨rfl, e1⟩ | ⟨rfl, e1⟩
          all_goals rw [e1] at hrm
          all_goals
            go_upto_region 24 with fail
            refine region_quiet_all (C := Cls V2) (by kernel_rfl) (by kernel_rfl) ⟨_, _, rfl⟩ ?_
            repeat (first | (refine qw_skip (by rfl) ?_; simp only [Act.put, List.setIfInBounds_toArray, List.set_cons_succ, List.set_cons_zero]) | (refine qw_want (by rfl) (fun K hK => ?_); go_simp; first | (refine hK _ ?_; clear hK K) | (apply Exists.intro; refine ⟨?_, hK _ ?_⟩; (rintro w3_ ⟨J3_, d3_, rfl⟩; first | (with_reducible exact rfl) | (go_simp; with_reducible exact rfl) | (go_simp; (first | (with_reducible refine (HAw.out _).mono ?_) | (with_reducible refine (HC1.out _ _).mono ?_) | (with_reducible refine (HC2.out _ _).mono ?_) | (with_reducible refine (HC3.out _ _).mono ?_) | (with_reducible refine (HC4.out _ _).mono ?_)); rintro e_ w_ ⟨rfl, J4_, d4_, rfl⟩; exact ⟨rfl, J3_ ++ J4_, d4_, by simp only [plus_plus, Array.append_assoc]⟩)); clear hK K)))
            refine qw_nil ?_
            rintro w6 ⟨J10, d10, rfl⟩
            go_wp2_with fail
            go_roundw
            case rel => exact ⟨j + 1, by go_num, by omega, _, _, rfl⟩
            case measure => simp [intOf]; omega
        · obtain rfl : j = pn := by omega
          have i2 : ¬ (j : Int) < (j : Int) := by omega
          go_wp2_with fail
          go_ret
          exact ⟨rfl, junk_of_below (HB4.out.trans ((show Below V2.heap.size V2 _ by ((try simp only [← Array.append_assoc]); repeat' (first | (with_reducible exact Below.refl _ _) | (with_reducible assumption) | (with_reducible refine Below.alloc ?_ ?_ _) | (with_reducible refine Below.drew ?_) | (with_reducible refine below_drewN ?_ _) | (with_reducible exact below_d _ _ _ _ _) | (with_reducible refine below_snoc _ _ ?_ ?_) | (with_reducible refine below_plus ?_ ?_ _ _) | (with_reducible refine Below.setCell ?_ ?_ _) | (with_reducible refine Below.setRow ?_ ?_ _) | go_size))).mono HB4.out.size))⟩
theorem l_slabSame (w : World) (a : Option Addr) (n ca : Nat) (R : List (List Pt)) (hR : GRC w a n ca R) (hs : n ≤ 4611686018427387903) (hl : ∀ K ∈ R, K.length ≤ 8796093022208) (pa : Option Addr) (pn pc : Nat) (P : List Pt) (hP : PRC w pa pn pc P) (_ : pn ≤ 9223372036854775807) (_ : pa = none → pn = 0 ∧ pc = 0) (z : Int) (hz : -9223372036854775808 ≤ z ∧ z ≤ 9223372036854775807) :
    Calls Tryz.prog 8 #[.agg #[.slice a n ca], .slice pa pn pc, .int .i64 z] w fun e w' => e = .returned (.bool true) ∧ Junk w w' := by
  by_cases hp : 30 < pn
  · exact same_big w a n ca R hR hs hl pa pn pc z (.inr hp)
  cases h : (decide (22 < R.length) || decide (120 < allN R)) with
  | true => exact same_big w a n ca R hR hs hl pa pn pc z (.inl h)
  | false =>
    have h2 : R.length ≤ 22 ∧ allN R ≤ 120 := by
      rw [Bool.or_eq_false_iff, decide_eq_false_iff_not, decide_eq_false_iff_not] at h
      omega
    have hn := hR.len
    have hl2 : ∀ K ∈ R, K.length ≤ 100000 := fun K hK => by have := ring_leR hK; omega
    by_cases hb : (checkR R).1 = 0
    · exact same_fine w a n ca R hR (by omega) (checkR_fine.1 hb) pa pn pc P hP (by omega) z hz h
    · exact same_bad w a n ca R hR (by omega) hl2 pa pn pc z (by omega) h hb
end Go.Proofs.YtegliapkbapigaaGreat

/- How three points lie: mathematics. No program. Contracts of apportionref07: fits, Valid, Compare, Move, Turn, between, On, In, Meet. Contracts of apportionref07: between, In, Meet, Move. Slices of points that read as lists; contract of apportionkit's SamePoints. Contracts of package point: within, Valid, between, share, In, Meet, valid. -/
import Derived.Test.YtnpkhhchbahcpaaKitOne
import Derived.Test.YtnpkhhchbahcpaaProg
import Derived.Lib.Hide
import Derived.BigQuiet
namespace Go.Proofs.Ytnpkhhchbahcpaa
section
set_option linter.unusedVariables false
set_option linter.unusedSimpArgs false

def detP (ax ay bx by_ cx cy : Int) : Int := (bx - ax) * (cy - ay) - (by_ - ay) * (cx - ax)

theorem det_round (ax ay bx by_ cx cy : Int) : detP bx by_ cx cy ax ay = detP ax ay bx by_ cx cy := by unfold detP; grind
theorem det_swap (ax ay bx by_ cx cy : Int) : detP bx by_ ax ay cx cy = - detP ax ay bx by_ cx cy := by unfold detP; grind
theorem det_last (ax ay bx by_ cx cy : Int) : detP ax ay cx cy bx by_ = - detP ax ay bx by_ cx cy := by unfold detP; grind
theorem det_aa (ax ay cx cy : Int) : detP ax ay ax ay cx cy = 0 := by unfold detP; grind
theorem det_aba (ax ay bx by_ : Int) : detP ax ay bx by_ ax ay = 0 := by unfold detP; grind
theorem det_abb (ax ay bx by_ : Int) : detP ax ay bx by_ bx by_ = 0 := by unfold detP; grind
theorem det_mirror (ax ay bx by_ cx cy : Int) : detP (-ax) ay (-bx) by_ (-cx) cy = - detP ax ay bx by_ cx cy := by unfold detP; grind
theorem det_turn (ax ay bx by_ cx cy : Int) : detP ay ax by_ bx cy cx = - detP ax ay bx by_ cx cy := by unfold detP; grind
theorem det_move (ax ay bx by_ cx cy u v : Int) : detP (ax + u) (ay + v) (bx + u) (by_ + v) (cx + u) (cy + v) = detP ax ay bx by_ cx cy := by unfold detP; grind

/-- Is a number between two? -/
def btw (n a b : Int) : Prop := min a b ≤ n ∧ n ≤ max a b
theorem btw_comm (n a b : Int) : btw n a b ↔ btw n b a := by unfold btw; omega

theorem line_pos {u v p q : Int} (hp : 0 < p) (hu : 0 ≤ u) (hup : u ≤ p) (h : u * q = v * p) : min 0 q ≤ v ∧ v ≤ max 0 q := by
  rcases Int.le_total 0 q with hq | hq
  · have h1 : 0 ≤ v := by
      apply Int.not_lt.1
      intro hv
      have h2 : v * p < 0 := Int.mul_neg_of_neg_of_pos hv hp
      have h3 : 0 ≤ u * q := Int.mul_nonneg hu hq
      omega
    have h2 : v ≤ q := by
      apply Int.not_lt.1
      intro hv
      have h2 : q * p < v * p := Int.mul_lt_mul_of_pos_right hv hp
      have h3 : u * q ≤ p * q := Int.mul_le_mul_of_nonneg_right hup hq
      rw [Int.mul_comm p q] at h3
      omega
    omega
  · have h1 : v ≤ 0 := by
      apply Int.not_lt.1
      intro hv
      have h2 : 0 < v * p := Int.mul_pos hv hp
      have h3 : u * q ≤ 0 := Int.mul_nonpos_of_nonneg_of_nonpos hu hq
      omega
    have h2 : q ≤ v := by
      apply Int.not_lt.1
      intro hv
      have h2 : v * p < q * p := Int.mul_lt_mul_of_pos_right hv hp
      have h3 : p * q ≤ u * q := Int.mul_le_mul_of_nonpos_right hup hq
      rw [Int.mul_comm p q] at h3
      omega
    omega
/-- Of two arrows on one line that point the same way, along their first numbers: the shorter ends within the longer. -/
theorem line_x {u v p q : Int} (h : u * q = v * p) (hs : (0 < u ∧ 0 < p) ∨ (u < 0 ∧ p < 0)) : (btw u 0 p ∧ btw v 0 q) ∨ (btw p 0 u ∧ btw q 0 v) := by
  unfold btw
  rcases hs with ⟨h1, h2⟩ | ⟨h1, h2⟩
  · rcases Int.le_total u p with h3 | h3
    · have := line_pos h2 (by omega) h3 h
      exact .inl ⟨by omega, by omega⟩
    · have := line_pos (u := p) (v := q) (p := u) (q := v) h1 (by omega) h3 (by rw [Int.mul_comm p v, Int.mul_comm q u]; exact h.symm)
      exact .inr ⟨by omega, by omega⟩
  · rcases Int.le_total u p with h3 | h3
    · have := line_pos (u := -p) (v := -q) (p := -u) (q := -v) (by omega) (by omega) (by omega) (by rw [Int.neg_mul_neg, Int.neg_mul_neg, Int.mul_comm p v, Int.mul_comm q u]; exact h.symm)
      exact .inr ⟨by omega, by omega⟩
    · have := line_pos (u := -u) (v := -v) (p := -p) (q := -q) (by omega) (by omega) (by omega) (by rw [Int.neg_mul_neg, Int.neg_mul_neg]; exact h)
      exact .inl ⟨by omega, by omega⟩
theorem line_any {u v p q : Int} (h : u * q = v * p) : (btw u 0 p ∧ btw v 0 q) ∨ (btw p 0 u ∧ btw q 0 v) ∨ (btw 0 u p ∧ btw 0 v q) := by
  by_cases hx : (0 < u ∧ 0 < p) ∨ (u < 0 ∧ p < 0)
  · rcases line_x h hx with h1 | h1
    · exact .inl h1
    · exact .inr (.inl h1)
  by_cases hy : (0 < v ∧ 0 < q) ∨ (v < 0 ∧ q < 0)
  · rcases line_x (u := v) (v := u) (p := q) (q := p) h.symm hy with h1 | h1
    · exact .inl ⟨h1.2, h1.1⟩
    · exact .inr (.inl ⟨h1.2, h1.1⟩)
  · refine .inr (.inr ?_)
    unfold btw
    omega
/-- Is a point on a segment? -/
def onF (px py ax ay bx by_ : Int) : Prop := detP ax ay bx by_ px py = 0 ∧ btw px ax bx ∧ btw py ay by_
/-- Of three points on a line one is on the segment between the others. -/
theorem on_any (ax ay bx by_ cx cy : Int) : detP ax ay bx by_ cx cy = 0 ↔ onF cx cy ax ay bx by_ ∨ onF ax ay bx by_ cx cy ∨ onF bx by_ ax ay cx cy := by
  constructor
  · intro h
    have h1 : (bx - ax) * (cy - ay) = (by_ - ay) * (cx - ax) := by unfold detP at h; omega
    have e1 := det_round ax ay bx by_ cx cy
    have e2 := det_last ax ay bx by_ cx cy
    rcases line_any h1 with ⟨k1, k2⟩ | ⟨k1, k2⟩ | ⟨k1, k2⟩
    · refine .inr (.inr ⟨by omega, ?_, ?_⟩) <;> unfold btw at * <;> omega
    · refine .inl ⟨h, ?_, ?_⟩ <;> unfold btw at * <;> omega
    · refine .inr (.inl ⟨by omega, ?_, ?_⟩) <;> unfold btw at * <;> omega
  · have e1 := det_round ax ay bx by_ cx cy
    have e2 := det_last ax ay bx by_ cx cy
    rintro (h | h | h) <;> have := h.1 <;> omega
theorem on_back (px py ax ay bx by_ : Int) : onF px py ax ay bx by_ ↔ onF px py bx by_ ax ay := by
  have e1 := det_swap ax ay bx by_ px py
  unfold onF
  rw [btw_comm px, btw_comm py]
  constructor <;> rintro ⟨h1, h2⟩ <;> exact ⟨by omega, h2⟩
theorem on_left (ax ay bx by_ : Int) : onF ax ay ax ay bx by_ := ⟨det_aba _ _ _ _, by unfold btw; omega, by unfold btw; omega⟩
theorem on_right (ax ay bx by_ : Int) : onF bx by_ ax ay bx by_ := ⟨det_abb _ _ _ _, by unfold btw; omega, by unfold btw; omega⟩
theorem on_move (px py ax ay bx by_ u v : Int) : onF (px + u) (py + v) (ax + u) (ay + v) (bx + u) (by_ + v) ↔ onF px py ax ay bx by_ := by
  unfold onF btw
  rw [det_move]
  constructor <;> rintro ⟨h1, h2, h3⟩ <;> refine ⟨h1, ?_, ?_⟩ <;> omega
/-- From a corner of all there is to the other. -/
theorem det_far (d k : Int) : detP (-1099511627775) (-1099511627775) 1099511627775 1099511627775 k (k + d) = 2199023255550 * d := by unfold detP; omega
theorem on_far (d k : Int) (h3 : -1099511627775 ≤ k + d) (h4 : k + d ≤ 1099511627775) : onF k (k + d) (-1099511627775) (-1099511627775) 1099511627775 1099511627775 ↔ d = 0 := by
  unfold onF
  rw [det_far]
  unfold btw
  constructor
  · rintro ⟨h, _⟩; omega
  · intro h; exact ⟨by omega, by omega, by omega⟩
theorem mul_small {a b m : Int} (h1 : -m ≤ a) (h2 : a ≤ m) (h3 : -m ≤ b) (h4 : b ≤ m) : -(m * m) ≤ a * b ∧ a * b ≤ m * m := by
  have h5 : (a * b).natAbs ≤ m.natAbs * m.natAbs := by
    rw [Int.natAbs_mul]
    exact Nat.mul_le_mul (by omega) (by omega)
  have h6 : m.natAbs * m.natAbs = (m * m).natAbs := by rw [Int.natAbs_mul]
  have h7 : 0 ≤ m * m := Int.mul_nonneg (by omega) (by omega)
  omega
end

section
set_option linter.unusedVariables false
set_option linter.unusedSimpArgs false
open Go.RowKit

def I64n (n : Int) : Prop := -9223372036854775808 ≤ n ∧ n ≤ 9223372036854775807
/-- Is a number one of a coordinate? -/
def okI (n : Int) : Bool := decide (-1099511627775 ≤ n) && decide (n ≤ 1099511627775)
theorem okI_iff {n : Int} : okI n = true ↔ -1099511627775 ≤ n ∧ n ≤ 1099511627775 := by simp [okI]
def okP (x y : Int) : Bool := okI x && okI y
theorem okP_iff {x y : Int} : okP x y = true ↔ (-1099511627775 ≤ x ∧ x ≤ 1099511627775) ∧ (-1099511627775 ≤ y ∧ y ≤ 1099511627775) := by simp [okP, okI_iff]
def pt (x y : Int) : Value := .agg #[.int .i64 x, .int .i64 y]
def cmpF (ax ay bx by_ : Int) : Int := if ay < by_ ∨ (ay = by_ ∧ ax < bx) then -1 else if ax = bx ∧ ay = by_ then 0 else 1
instance (n a b : Int) : Decidable (btw n a b) := by unfold btw; exact inferInstance
instance (px py ax ay bx by_ : Int) : Decidable (onF px py ax ay bx by_) := by unfold onF; exact inferInstance
def moveE (x y u v : Int) : Int := if okP x y && okP u v then (if okP (x + u) (y + v) then 0 else 5) else 2
def moveX (x y u v : Int) : Int := if moveE x y u v = 0 then x + u else 0
def moveY (x y u v : Int) : Int := if moveE x y u v = 0 then y + v else 0
end

section
set_option linter.unusedVariables false
set_option linter.unusedSimpArgs false
open Go.RowKit

theorem retB {p q : Bool} (h : p = q) : Ending.returned (.bool p) = Ending.returned (.bool q) := by rw [h]
def inF (px py lx ly hx hy : Int) : Bool := decide (lx ≤ px ∧ px < hx ∧ ly ≤ py ∧ py < hy)
def bxV (lx ly hx hy : Int) : Value := .agg #[.int .i64 lx, .int .i64 ly, .int .i64 hx, .int .i64 hy]
theorem r_ptIn (px py lx ly hx hy : Int) (w : World) : Calls Try.prog 34 #[pt px py, bxV lx ly hx hy] w fun e w' => e = .returned (.bool (inF px py lx ly hx hy)) ∧ Junk w w' := by
  obtain ⟨R, hR⟩ : ∃ R, inF px py lx ly hx hy = R := ⟨_, rfl⟩
  rw [hR]
  have HR := Lib.hid hR
  clear hR
  unfold bxV pt
  go_enter Try.func34, Try.ntmps34
  go_wp2
  all_goals
    go_ret
    refine ⟨retB ?_, junk_of_below (by (repeat' (first | (with_reducible exact Below.refl _ _) | (with_reducible assumption) | (with_reducible refine Below.alloc ?_ ?_ _) | (with_reducible refine Below.drew ?_) | (with_reducible refine below_drewN ?_ _) | (with_reducible refine below_plus ?_ ?_ _ _) | (with_reducible refine Below.setCell ?_ ?_ _) | (with_reducible refine Below.setRow ?_ ?_ _) | go_size)))⟩
    rw [← HR.out]
    unfold inF
    first | exact decide_eq_decide.2 (by omega) | exact (decide_eq_false (by omega)).symm | exact (decide_eq_true (by omega)).symm

def meetF (lx ly hx hy kx ky mx my : Int) : Bool := decide (max lx kx < min hx mx ∧ max ly ky < min hy my)
theorem r_ptMeet (lx ly hx hy kx ky mx my : Int) (w : World) : Calls Try.prog 37 #[bxV lx ly hx hy, bxV kx ky mx my] w fun e w' => e = .returned (.bool (meetF lx ly hx hy kx ky mx my)) ∧ Junk w w' := by
  obtain ⟨R, hR⟩ : ∃ R, meetF lx ly hx hy kx ky mx my = R := ⟨_, rfl⟩
  rw [hR]
  have HR := Lib.hid hR
  clear hR
  unfold bxV
  go_enter Try.func37, Try.ntmps37
  go_wp2
  all_goals
    go_ret
    refine ⟨retB ?_, junk_of_below (by (repeat' (first | (with_reducible exact Below.refl _ _) | (with_reducible assumption) | (with_reducible refine Below.alloc ?_ ?_ _) | (with_reducible refine Below.drew ?_) | (with_reducible refine below_drewN ?_ _) | (with_reducible refine below_plus ?_ ?_ _ _) | (with_reducible refine Below.setCell ?_ ?_ _) | (with_reducible refine Below.setRow ?_ ?_ _) | go_size)))⟩
    rw [← HR.out]
    unfold meetF
    first | exact decide_eq_decide.2 (by omega) | exact (decide_eq_false (by omega)).symm | exact (decide_eq_true (by omega)).symm

theorem results_pt {fn : Func} {p t : Tmp} (h : fn.results = #[.cell p 31, .tmp t]) (tmps : Array Value) (w : World) (g : Nat) (c : Array Value)
    (hp : tmps.getD p undef = .pointer (some ⟨g, 0, none⟩)) (hr : w.rowAt g = some c) (hc : c.size = 2) : (results fn tmps).run Try.prog w = .ok (.tuple #[.agg c, tmps.getD t undef]) w := by
  obtain ⟨ty, hg⟩ := rowAt_some hr
  have hp' : tmps[p]?.getD undef = .pointer (some ⟨g, 0, none⟩) := by simpa using hp
  simp [results, h, hp', asAddr, run_loadVar_row w g ty _ c (0, 0) _ hg Try.underlying31 rfl (by rw [hc]; kernel_rfl)]
end

section
set_option linter.unusedVariables false
set_option linter.unusedSimpArgs false
open Go.RowKit

def PReads (w : World) (a : Option Addr) (len : Nat) (K : List (Int × Int)) : Prop :=
  K.length = len ∧ (len = 0 ∨ ∃ b off, a = some ⟨b, off, none⟩ ∧ ∀ i, i < len → w.cell? ⟨b, off + i * 2, none⟩ = some (.int .i64 (K.getD i (0, 0)).1) ∧ w.cell? ⟨b, off + i * 2 + 1, none⟩ = some (.int .i64 (K.getD i (0, 0)).2))
theorem PReads.below {w w' : World} {a : Option Addr} {len : Nat} {K : List (Int × Int)} (h : PReads w a len K) (hb : Below w.heap.size w w') : PReads w' a len K := by
  obtain ⟨h1, h2⟩ := h
  refine ⟨h1, ?_⟩
  rcases h2 with h2 | ⟨b, off, he, hc⟩
  · exact .inl h2
  · refine .inr ⟨b, off, he, fun i hi => ?_⟩
    obtain ⟨e1, e2⟩ := hc i hi
    exact ⟨by rw [World.cell?_of_block (hb.block b (World.block_lt_of_cell? _ _ e1))]; exact e1, by rw [World.cell?_of_block (hb.block b (World.block_lt_of_cell? _ _ e2))]; exact e2⟩

def SamePAt (w : World) (K M : List (Int × Int)) (i : Value) (wr : World) : Prop := ∃ k : Nat, i = .int .i64 (k : Int) ∧ k ≤ K.length ∧ K.take k = M.take k ∧ ∃ d, wr = w.drewN d
end

section
set_option linter.unusedVariables false
set_option linter.unusedSimpArgs false
open Go.RowKit

theorem n_ptWithin (n : Int) (w : World) : Calls Try.prog 41 #[.int .i64 n] w fun e w' => e = .returned (.bool (okI n)) ∧ w' = w := by
  unfold okI
  by_cases h1 : -1099511627775 ≤ n
  · by_cases h2 : n ≤ 1099511627775
    · go_enter Try.func41, Try.ntmps41
      go_wp2
      go_ret
      exact ⟨by simp [h1, h2], rfl⟩
    · go_enter Try.func41, Try.ntmps41
      go_wp2
      go_ret
      exact ⟨by simp [h1, h2], rfl⟩
  · go_enter Try.func41, Try.ntmps41
    go_wp2
    go_ret
    exact ⟨congrArg Value.bool (by simp; omega) |> congrArg Ending.returned, rfl⟩
theorem n_ptValid (x y : Int) (w : World) : Calls Try.prog 26 #[pt x y] w fun e w' => e = .returned (.bool (okP x y)) ∧ Junk w w' := by
  have HF := Lib.hid n_ptWithin
  unfold pt okP
  cases hx : okI x with
  | false =>
    have HF1 := Lib.hid (fun w' => n_ptWithin x w')
    rw [hx] at HF1
    clear hx
    go_enter Try.func26, Try.ntmps26
    go_wp2_with (go_at_call 41; refine (HF1.out _).mono ?_; rintro e w1 ⟨rfl, rfl⟩)
    go_ret
    exact ⟨rfl, junk_of_below (by (repeat' (first | (with_reducible exact Below.refl _ _) | (with_reducible assumption) | (with_reducible refine Below.alloc ?_ ?_ _) | (with_reducible refine Below.drew ?_) | (with_reducible refine below_drewN ?_ _) | (with_reducible refine below_plus ?_ ?_ _ _) | (with_reducible refine Below.setCell ?_ ?_ _) | (with_reducible refine Below.setRow ?_ ?_ _) | go_size)))⟩
  | true =>
    have HF1 := Lib.hid (fun w' => n_ptWithin x w')
    rw [hx] at HF1
    clear hx
    go_enter Try.func26, Try.ntmps26
    go_wp2_with (first | (go_at_call 41; refine (HF1.out _).mono ?_; clear HF1; rintro e w1 ⟨rfl, rfl⟩) | (go_at_call 41; refine (HF.out _ _).mono ?_; rintro e w1 ⟨rfl, rfl⟩))
    go_ret
    exact ⟨by simp, junk_of_below (by (repeat' (first | (with_reducible exact Below.refl _ _) | (with_reducible assumption) | (with_reducible refine Below.alloc ?_ ?_ _) | (with_reducible refine Below.drew ?_) | (with_reducible refine below_drewN ?_ _) | (with_reducible refine below_plus ?_ ?_ _ _) | (with_reducible refine Below.setCell ?_ ?_ _) | (with_reducible refine Below.setRow ?_ ?_ _) | go_size)))⟩
theorem n_ptShare (a b c d : Int) (w : World) : Calls Try.prog 50 #[.int .i64 a, .int .i64 b, .int .i64 c, .int .i64 d] w fun e w' => e = .returned (.bool (decide (max a c < min b d))) ∧ w' = w := by
  obtain ⟨R, hR⟩ : ∃ R, decide (max a c < min b d) = R := ⟨_, rfl⟩
  rw [hR]
  have HR := Lib.hid hR
  clear hR
  go_enter Try.func50, Try.ntmps50
  go_wp2
  all_goals
    go_ret
    refine ⟨retB ?_, rfl⟩
    rw [← HR.out]
    first | exact decide_eq_decide.2 (by omega) | exact (decide_eq_false (by omega)).symm | exact (decide_eq_true (by omega)).symm
theorem n_ptIn (px py lx ly hx hy : Int) (w : World) : Calls Try.prog 27 #[pt px py, bxV lx ly hx hy] w fun e w' => e = .returned (.bool (inF px py lx ly hx hy)) ∧ Junk w w' := by
  obtain ⟨R, hR⟩ : ∃ R, inF px py lx ly hx hy = R := ⟨_, rfl⟩
  rw [hR]
  have HR := Lib.hid hR
  clear hR
  unfold bxV pt
  go_enter Try.func27, Try.ntmps27
  go_wp2
  all_goals
    go_ret
    refine ⟨retB ?_, junk_of_below (by (repeat' (first | (with_reducible exact Below.refl _ _) | (with_reducible assumption) | (with_reducible refine Below.alloc ?_ ?_ _) | (with_reducible refine Below.drew ?_) | (with_reducible refine below_drewN ?_ _) | (with_reducible refine below_plus ?_ ?_ _ _) | (with_reducible refine Below.setCell ?_ ?_ _) | (with_reducible refine Below.setRow ?_ ?_ _) | go_size)))⟩
    rw [← HR.out]
    unfold inF
    first | exact decide_eq_decide.2 (by omega) | exact (decide_eq_false (by omega)).symm | exact (decide_eq_true (by omega)).symm
theorem meetF_two (lx ly hx hy kx ky mx my : Int) : meetF lx ly hx hy kx ky mx my = (decide (max lx kx < min hx mx) && decide (max ly ky < min hy my)) := by
  unfold meetF; simp
theorem n_ptMeet (lx ly hx hy kx ky mx my : Int) (w : World) : Calls Try.prog 36 #[bxV lx ly hx hy, bxV kx ky mx my] w fun e w' => e = .returned (.bool (meetF lx ly hx hy kx ky mx my)) ∧ Junk w w' := by
  rw [meetF_two]
  have H1 := Lib.hid (fun w' => n_ptShare lx hx kx mx w')
  have H2 := Lib.hid (fun w' => n_ptShare ly hy ky my w')
  generalize decide (max lx kx < min hx mx) = P1 at *
  generalize decide (max ly ky < min hy my) = P2 at *
  unfold bxV
  cases P1 with
  | false =>
    go_enter Try.func36, Try.ntmps36
    go_wp2_with (first | (go_at_call 50; refine (H1.out _).mono ?_; clear H1; rintro e w1 ⟨rfl, rfl⟩) | (go_at_call 50; refine (H2.out _).mono ?_; clear H2; rintro e w1 ⟨rfl, rfl⟩))
    go_ret
    exact ⟨retB (by simp), junk_of_below (by (repeat' (first | (with_reducible exact Below.refl _ _) | (with_reducible assumption) | (with_reducible refine Below.alloc ?_ ?_ _) | (with_reducible refine Below.drew ?_) | (with_reducible refine below_drewN ?_ _) | (with_reducible refine below_plus ?_ ?_ _ _) | (with_reducible refine Below.setCell ?_ ?_ _) | (with_reducible refine Below.setRow ?_ ?_ _) | go_size)))⟩
  | true =>
    go_enter Try.func36, Try.ntmps36
    go_wp2_with (first | (go_at_call 50; refine (H1.out _).mono ?_; clear H1; rintro e w1 ⟨rfl, rfl⟩) | (go_at_call 50; refine (H2.out _).mono ?_; clear H2; rintro e w1 ⟨rfl, rfl⟩))
    go_ret
    exact ⟨retB (by simp), junk_of_below (by (repeat' (first | (with_reducible exact Below.refl _ _) | (with_reducible assumption) | (with_reducible refine Below.alloc ?_ ?_ _) | (with_reducible refine Below.drew ?_) | (with_reducible refine below_drewN ?_ _) | (with_reducible refine below_plus ?_ ?_ _ _) | (with_reducible refine Below.setCell ?_ ?_ _) | (with_reducible refine Below.setRow ?_ ?_ _) | go_size)))⟩

def allOk (K : List (Int × Int)) : Bool := K.all fun p => okP p.1 p.2
def AllAt (w : World) (K : List (Int × Int)) (i : Value) (wr : World) : Prop := ∃ k : Nat, i = .int .i64 (k : Int) ∧ k ≤ K.length ∧ allOk (K.take k) = true ∧ ∃ J d, wr = w.plus J d
theorem allOk_take {K : List (Int × Int)} {k : Nat} {x y : Int} (hk : k < K.length) (h : K.getD k (0, 0) = (x, y)) (h1 : allOk (K.take k) = true) : allOk (K.take (k + 1)) = okP x y := by
  unfold allOk at *
  rw [List.take_succ_eq_append_getElem hk, List.all_append, h1]
  rw [List.getD_eq_getElem?_getD, List.getElem?_eq_getElem hk] at h
  simp at h
  simp [h]
theorem allOk_not {K : List (Int × Int)} {k : Nat} {x y : Int} (hk : k < K.length) (h : K.getD k (0, 0) = (x, y)) (h1 : okP x y = false) : allOk K = false := by
  unfold allOk
  rw [List.all_eq_false]
  refine ⟨K[k], List.getElem_mem hk, ?_⟩
  rw [List.getD_eq_getElem?_getD, List.getElem?_eq_getElem hk] at h
  simp at h
  simp [h, h1]
end
end Go.Proofs.Ytnpkhhchbahcpaa

/- How three points lie: mathematics. No program. Contracts of apportionref07: fits, Valid, Compare, Move, Turn, between, On, In, Meet. Contracts of apportionref07: between, In, Meet, Move. Slices of points that read as lists; contract of apportionkit's SamePoints. Contracts of package point: within, Valid, between, share, In, Meet, valid. -/
import Derived.Test.YtegliapkbapigaaGreatKitOne
import Derived.Test.YtegliapkbapigaaGreatProg
import Derived.Lib.Hide
import Derived.BigQuiet
namespace Go.Proofs.YtegliapkbapigaaGreat
section
set_option linter.unusedVariables false
set_option linter.unusedSimpArgs false

def detP (ax ay bx by_ cx cy : Int) : Int := (bx - ax) * (cy - ay) - (by_ - ay) * (cx - ax)

theorem det_round (ax ay bx by_ cx cy : Int) : detP bx by_ cx cy ax ay = detP ax ay bx by_ cx cy := by unfold detP; grind
theorem det_swap (ax ay bx by_ cx cy : Int) : detP bx by_ ax ay cx cy = - detP ax ay bx by_ cx cy := by unfold detP; grind
theorem det_last (ax ay bx by_ cx cy : Int) : detP ax ay cx cy bx by_ = - detP ax ay bx by_ cx cy := by unfold detP; grind
theorem det_aa (ax ay cx cy : Int) : detP ax ay ax ay cx cy = 0 := by unfold detP; grind
theorem det_aba (ax ay bx by_ : Int) : detP ax ay bx by_ ax ay = 0 := by unfold detP; grind
theorem det_abb (ax ay bx by_ : Int) : detP ax ay bx by_ bx by_ = 0 := by unfold detP; grind
theorem det_mirror (ax ay bx by_ cx cy : Int) : detP (-ax) ay (-bx) by_ (-cx) cy = - detP ax ay bx by_ cx cy := by unfold detP; grind
theorem det_turn (ax ay bx by_ cx cy : Int) : detP ay ax by_ bx cy cx = - detP ax ay bx by_ cx cy := by unfold detP; grind
theorem det_move (ax ay bx by_ cx cy u v : Int) : detP (ax + u) (ay + v) (bx + u) (by_ + v) (cx + u) (cy + v) = detP ax ay bx by_ cx cy := by unfold detP; grind

/-- Is a number between two? -/
def btw (n a b : Int) : Prop := min a b ≤ n ∧ n ≤ max a b
theorem btw_comm (n a b : Int) : btw n a b ↔ btw n b a := by unfold btw; omega

theorem line_pos {u v p q : Int} (hp : 0 < p) (hu : 0 ≤ u) (hup : u ≤ p) (h : u * q = v * p) : min 0 q ≤ v ∧ v ≤ max 0 q := by
  rcases Int.le_total 0 q with hq | hq
  · have h1 : 0 ≤ v := by
      apply Int.not_lt.1
      intro hv
      have h2 : v * p < 0 := Int.mul_neg_of_neg_of_pos hv hp
      have h3 : 0 ≤ u * q := Int.mul_nonneg hu hq
      omega
    have h2 : v ≤ q := by
      apply Int.not_lt.1
      intro hv
      have h2 : q * p < v * p := Int.mul_lt_mul_of_pos_right hv hp
      have h3 : u * q ≤ p * q := Int.mul_le_mul_of_nonneg_right hup hq
      rw [Int.mul_comm p q] at h3
      omega
    omega
  · have h1 : v ≤ 0 := by
      apply Int.not_lt.1
      intro hv
      have h2 : 0 < v * p := Int.mul_pos hv hp
      have h3 : u * q ≤ 0 := Int.mul_nonpos_of_nonneg_of_nonpos hu hq
      omega
    have h2 : q ≤ v := by
      apply Int.not_lt.1
      intro hv
      have h2 : v * p < q * p := Int.mul_lt_mul_of_pos_right hv hp
      have h3 : p * q ≤ u * q := Int.mul_le_mul_of_nonpos_right hup hq
      rw [Int.mul_comm p q] at h3
      omega
    omega
/-- Of two arrows on one line that point the same way, along their first numbers: the shorter ends within the longer. -/
theorem line_x {u v p q : Int} (h : u * q = v * p) (hs : (0 < u ∧ 0 < p) ∨ (u < 0 ∧ p < 0)) : (btw u 0 p ∧ btw v 0 q) ∨ (btw p 0 u ∧ btw q 0 v) := by
  unfold btw
  rcases hs with ⟨h1, h2⟩ | ⟨h1, h2⟩
  · rcases Int.le_total u p with h3 | h3
    · have := line_pos h2 (by omega) h3 h
      exact .inl ⟨by omega, by omega⟩
    · have := line_pos (u := p) (v := q) (p := u) (q := v) h1 (by omega) h3 (by rw [Int.mul_comm p v, Int.mul_comm q u]; exact h.symm)
      exact .inr ⟨by omega, by omega⟩
  · rcases Int.le_total u p with h3 | h3
    · have := line_pos (u := -p) (v := -q) (p := -u) (q := -v) (by omega) (by omega) (by omega) (by rw [Int.neg_mul_neg, Int.neg_mul_neg, Int.mul_comm p v, Int.mul_comm q u]; exact h.symm)
      exact .inr ⟨by omega, by omega⟩
    · have := line_pos (u := -u) (v := -v) (p := -p) (q := -q) (by omega) (by omega) (by omega) (by rw [Int.neg_mul_neg, Int.neg_mul_neg]; exact h)
      exact .inl ⟨by omega, by omega⟩
theorem line_any {u v p q : Int} (h : u * q = v * p) : (btw u 0 p ∧ btw v 0 q) ∨ (btw p 0 u ∧ btw q 0 v) ∨ (btw 0 u p ∧ btw 0 v q) := by
  by_cases hx : (0 < u ∧ 0 < p) ∨ (u < 0 ∧ p < 0)
  · rcases line_x h hx with h1 | h1
    · exact .inl h1
    · exact .inr (.inl h1)
  by_cases hy : (0 < v ∧ 0 < q) ∨ (v < 0 ∧ q < 0)
  · rcases line_x (u := v) (v := u) (p := q) (q := p) h.symm hy with h1 | h1
    · exact .inl ⟨h1.2, h1.1⟩
    · exact .inr (.inl ⟨h1.2, h1.1⟩)
  · refine .inr (.inr ?_)
    unfold btw
    omega
/-- Is a point on a segment? -/
def onF (px py ax ay bx by_ : Int) : Prop := detP ax ay bx by_ px py = 0 ∧ btw px ax bx ∧ btw py ay by_
/-- Of three points on a line one is on the segment between the others. -/
theorem on_any (ax ay bx by_ cx cy : Int) : detP ax ay bx by_ cx cy = 0 ↔ onF cx cy ax ay bx by_ ∨ onF ax ay bx by_ cx cy ∨ onF bx by_ ax ay cx cy := by
  constructor
  · intro h
    have h1 : (bx - ax) * (cy - ay) = (by_ - ay) * (cx - ax) := by unfold detP at h; omega
    have e1 := det_round ax ay bx by_ cx cy
    have e2 := det_last ax ay bx by_ cx cy
    rcases line_any h1 with ⟨k1, k2⟩ | ⟨k1, k2⟩ | ⟨k1, k2⟩
    · refine .inr (.inr ⟨by omega, ?_, ?_⟩) <;> unfold btw at * <;> omega
    · refine .inl ⟨h, ?_, ?_⟩ <;> unfold btw at * <;> omega
    · refine .inr (.inl ⟨by omega, ?_, ?_⟩) <;> unfold btw at * <;> omega
  · have e1 := det_round ax ay bx by_ cx cy
    have e2 := det_last ax ay bx by_ cx cy
    rintro (h | h | h) <;> have := h.1 <;> omega
theorem on_back (px py ax ay bx by_ : Int) : onF px py ax ay bx by_ ↔ onF px py bx by_ ax ay := by
  have e1 := det_swap ax ay bx by_ px py
  unfold onF
  rw [btw_comm px, btw_comm py]
  constructor <;> rintro ⟨h1, h2⟩ <;> exact ⟨by omega, h2⟩
theorem on_left (ax ay bx by_ : Int) : onF ax ay ax ay bx by_ := ⟨det_aba _ _ _ _, by unfold btw; omega, by unfold btw; omega⟩
theorem on_right (ax ay bx by_ : Int) : onF bx by_ ax ay bx by_ := ⟨det_abb _ _ _ _, by unfold btw; omega, by unfold btw; omega⟩
theorem on_move (px py ax ay bx by_ u v : Int) : onF (px + u) (py + v) (ax + u) (ay + v) (bx + u) (by_ + v) ↔ onF px py ax ay bx by_ := by
  unfold onF btw
  rw [det_move]
  constructor <;> rintro ⟨h1, h2, h3⟩ <;> refine ⟨h1, ?_, ?_⟩ <;> omega
/-- From a corner of all there is to the other. -/
theorem det_far (d k : Int) : detP (-1099511627775) (-1099511627775) 1099511627775 1099511627775 k (k + d) = 2199023255550 * d := by unfold detP; omega
theorem on_far (d k : Int) (h3 : -1099511627775 ≤ k + d) (h4 : k + d ≤ 1099511627775) : onF k (k + d) (-1099511627775) (-1099511627775) 1099511627775 1099511627775 ↔ d = 0 := by
  unfold onF
  rw [det_far]
  unfold btw
  constructor
  · rintro ⟨h, _⟩; omega
  · intro h; exact ⟨by omega, by omega, by omega⟩
theorem mul_small {a b m : Int} (h1 : -m ≤ a) (h2 : a ≤ m) (h3 : -m ≤ b) (h4 : b ≤ m) : -(m * m) ≤ a * b ∧ a * b ≤ m * m := by
  have h5 : (a * b).natAbs ≤ m.natAbs * m.natAbs := by
    rw [Int.natAbs_mul]
    exact Nat.mul_le_mul (by omega) (by omega)
  have h6 : m.natAbs * m.natAbs = (m * m).natAbs := by rw [Int.natAbs_mul]
  have h7 : 0 ≤ m * m := Int.mul_nonneg (by omega) (by omega)
  omega
end

section
set_option linter.unusedVariables false
set_option linter.unusedSimpArgs false
open Go.RowKit

def I64n (n : Int) : Prop := -9223372036854775808 ≤ n ∧ n ≤ 9223372036854775807
/-- Is a number one of a coordinate? -/
def okI (n : Int) : Bool := decide (-1099511627775 ≤ n) && decide (n ≤ 1099511627775)
theorem okI_iff {n : Int} : okI n = true ↔ -1099511627775 ≤ n ∧ n ≤ 1099511627775 := by simp [okI]
def okP (x y : Int) : Bool := okI x && okI y
theorem okP_iff {x y : Int} : okP x y = true ↔ (-1099511627775 ≤ x ∧ x ≤ 1099511627775) ∧ (-1099511627775 ≤ y ∧ y ≤ 1099511627775) := by simp [okP, okI_iff]
def pt (x y : Int) : Value := .agg #[.int .i64 x, .int .i64 y]
def cmpF (ax ay bx by_ : Int) : Int := if ay < by_ ∨ (ay = by_ ∧ ax < bx) then -1 else if ax = bx ∧ ay = by_ then 0 else 1
instance (n a b : Int) : Decidable (btw n a b) := by unfold btw; exact inferInstance
instance (px py ax ay bx by_ : Int) : Decidable (onF px py ax ay bx by_) := by unfold onF; exact inferInstance
def moveE (x y u v : Int) : Int := if okP x y && okP u v then (if okP (x + u) (y + v) then 0 else 5) else 2
def moveX (x y u v : Int) : Int := if moveE x y u v = 0 then x + u else 0
def moveY (x y u v : Int) : Int := if moveE x y u v = 0 then y + v else 0

theorem r_ptFits (n : Int) (w : World) : Calls Tryz.prog 76 #[.int .i64 n] w fun e w' => e = .returned (.bool (okI n)) ∧ w' = w := by
  unfold okI
  by_cases h1 : -1099511627775 ≤ n
  · by_cases h2 : n ≤ 1099511627775
    · go_enter Tryz.func76, Tryz.ntmps76
      go_wp2
      go_ret
      exact ⟨by simp [h1, h2], rfl⟩
    · go_enter Tryz.func76, Tryz.ntmps76
      go_wp2
      go_ret
      exact ⟨by simp [h1, h2], rfl⟩
  · go_enter Tryz.func76, Tryz.ntmps76
    go_wp2
    go_ret
    exact ⟨congrArg Value.bool (by simp; omega) |> congrArg Ending.returned, rfl⟩
theorem r_ptValid (x y : Int) (w : World) : Calls Tryz.prog 54 #[pt x y] w fun e w' => e = .returned (.bool (okP x y)) ∧ Junk w w' := by
  have HF := Lib.hid r_ptFits
  unfold pt okP
  cases hx : okI x with
  | false =>
    have HF1 := Lib.hid (fun w' => r_ptFits x w')
    rw [hx] at HF1
    clear hx
    go_enter Tryz.func54, Tryz.ntmps54
    go_wp2_with (go_at_call 76; refine (HF1.out _).mono ?_; rintro e w1 ⟨rfl, rfl⟩)
    go_ret
    exact ⟨rfl, junk_of_below (by (repeat' (first | (with_reducible exact Below.refl _ _) | (with_reducible assumption) | (with_reducible refine Below.alloc ?_ ?_ _) | (with_reducible refine Below.drew ?_) | (with_reducible refine below_drewN ?_ _) | (with_reducible refine below_plus ?_ ?_ _ _) | (with_reducible refine Below.setCell ?_ ?_ _) | (with_reducible refine Below.setRow ?_ ?_ _) | go_size)))⟩
  | true =>
    have HF1 := Lib.hid (fun w' => r_ptFits x w')
    rw [hx] at HF1
    clear hx
    go_enter Tryz.func54, Tryz.ntmps54
    go_wp2_with (first | (go_at_call 76; refine (HF1.out _).mono ?_; clear HF1; rintro e w1 ⟨rfl, rfl⟩) | (go_at_call 76; refine (HF.out _ _).mono ?_; rintro e w1 ⟨rfl, rfl⟩))
    go_ret
    exact ⟨by simp, junk_of_below (by (repeat' (first | (with_reducible exact Below.refl _ _) | (with_reducible assumption) | (with_reducible refine Below.alloc ?_ ?_ _) | (with_reducible refine Below.drew ?_) | (with_reducible refine below_drewN ?_ _) | (with_reducible refine below_plus ?_ ?_ _ _) | (with_reducible refine Below.setCell ?_ ?_ _) | (with_reducible refine Below.setRow ?_ ?_ _) | go_size)))⟩
end

section
set_option linter.unusedVariables false
set_option linter.unusedSimpArgs false
open Go.RowKit

theorem retB {p q : Bool} (h : p = q) : Ending.returned (.bool p) = Ending.returned (.bool q) := by rw [h]
theorem r_ptBetween (n a b : Int) (w : World) : Calls Tryz.prog 108 #[.int .i64 n, .int .i64 a, .int .i64 b] w fun e w' => e = .returned (.bool (decide (btw n a b))) ∧ w' = w := by
  obtain ⟨R, hR⟩ : ∃ R, decide (btw n a b) = R := ⟨_, rfl⟩
  rw [hR]
  have HR := Lib.hid hR
  clear hR
  go_enter Tryz.func108, Tryz.ntmps108
  go_wp2
  all_goals
    go_ret
    refine ⟨retB ?_, rfl⟩
    rw [← HR.out]
    unfold btw
    first | exact decide_eq_decide.2 (by omega) | exact (decide_eq_false (by omega)).symm | exact (decide_eq_true (by omega)).symm

def inF (px py lx ly hx hy : Int) : Bool := decide (lx ≤ px ∧ px < hx ∧ ly ≤ py ∧ py < hy)
def bxV (lx ly hx hy : Int) : Value := .agg #[.int .i64 lx, .int .i64 ly, .int .i64 hx, .int .i64 hy]
def meetF (lx ly hx hy kx ky mx my : Int) : Bool := decide (max lx kx < min hx mx ∧ max ly ky < min hy my)
theorem results_pt {fn : Func} {p t : Tmp} (h : fn.results = #[.cell p 40, .tmp t]) (tmps : Array Value) (w : World) (g : Nat) (c : Array Value)
    (hp : tmps.getD p undef = .pointer (some ⟨g, 0, none⟩)) (hr : w.rowAt g = some c) (hc : c.size = 2) : (results fn tmps).run Tryz.prog w = .ok (.tuple #[.agg c, tmps.getD t undef]) w := by
  obtain ⟨ty, hg⟩ := rowAt_some hr
  have hp' : tmps[p]?.getD undef = .pointer (some ⟨g, 0, none⟩) := by simpa using hp
  simp [results, h, hp', asAddr, run_loadVar_row w g ty _ c (0, 0) _ hg Tryz.underlying40 rfl (by rw [hc]; kernel_rfl)]
end

section
set_option linter.unusedVariables false
set_option linter.unusedSimpArgs false
open Go.RowKit

def PReads (w : World) (a : Option Addr) (len : Nat) (K : List (Int × Int)) : Prop :=
  K.length = len ∧ (len = 0 ∨ ∃ b off, a = some ⟨b, off, none⟩ ∧ ∀ i, i < len → w.cell? ⟨b, off + i * 2, none⟩ = some (.int .i64 (K.getD i (0, 0)).1) ∧ w.cell? ⟨b, off + i * 2 + 1, none⟩ = some (.int .i64 (K.getD i (0, 0)).2))
theorem PReads.below {w w' : World} {a : Option Addr} {len : Nat} {K : List (Int × Int)} (h : PReads w a len K) (hb : Below w.heap.size w w') : PReads w' a len K := by
  obtain ⟨h1, h2⟩ := h
  refine ⟨h1, ?_⟩
  rcases h2 with h2 | ⟨b, off, he, hc⟩
  · exact .inl h2
  · refine .inr ⟨b, off, he, fun i hi => ?_⟩
    obtain ⟨e1, e2⟩ := hc i hi
    exact ⟨by rw [World.cell?_of_block (hb.block b (World.block_lt_of_cell? _ _ e1))]; exact e1, by rw [World.cell?_of_block (hb.block b (World.block_lt_of_cell? _ _ e2))]; exact e2⟩

def SamePAt (w : World) (K M : List (Int × Int)) (i : Value) (wr : World) : Prop := ∃ k : Nat, i = .int .i64 (k : Int) ∧ k ≤ K.length ∧ K.take k = M.take k ∧ ∃ d, wr = w.drewN d

set_option maxRecDepth 100000 in
set_option maxHeartbeats 1000000 in
theorem k_SamePoints (w : World) (a b : Option Addr) (n m ca cb : Nat) (K M : List (Int × Int)) (hK : PReads w a n K) (hM : PReads w b m M) (hs : n ≤ 9223372036854775807) :
    Calls Tryz.prog 37 #[.slice a n ca, .slice b m cb] w fun e w' => e = .returned (.bool (decide (K = M))) ∧ Junk w w' := by
  have l1 := hK.1
  have l2 := hM.1
  by_cases hnm : n = m
  · have e1 : ((n : Int) == (m : Int)) = true := by rw [beq_iff_eq]; omega
    have HK := Lib.hid hK.2
    have HM := Lib.hid hM.2
    obtain ⟨R, hR⟩ : ∃ R, decide (K = M) = R := ⟨_, rfl⟩
    rw [hR]
    have HR := Lib.hid hR
    subst hnm
    have L1 := Lib.hid l1
    have L2 := Lib.hid l2
    clear hK hM hR l1 l2
    go_enter Tryz.func37, Tryz.ntmps37
    go_wp2_with fail
    go_loopw [5] (fun i wr => SamePAt w K M i wr) (fun i _ => n - (intOf i).toNat)
    case atStart => exact ⟨0, rfl, by omega, by simp, 0, rfl⟩
    case round =>
      obtain ⟨k, rfl, k1, hk, d, rfl⟩ := hrel
      rw [L1.out] at k1
      by_cases hlt : k < n
      · rcases HK.out with h0 | ⟨b1, o1, rfl, hc1⟩
        · omega
        rcases HM.out with h0 | ⟨b2, o2, rfl, hc2⟩
        · omega
        obtain ⟨p1, p2⟩ := hc1 k hlt
        obtain ⟨p3, p4⟩ := hc2 k hlt
        have i1 : (k : Int) < (n : Int) := by omega
        have HK1 := Lib.hid hk
        clear hc1 hc2 hk
        have hx : ∃ x y u v : Int, (K.getD k (0, 0)) = (x, y) ∧ (M.getD k (0, 0)) = (u, v) := ⟨_, _, _, _, rfl, rfl⟩
        obtain ⟨x, y, u, v, hx1, hx2⟩ := hx
        rw [hx1] at p1 p2
        rw [hx2] at p3 p4
        have HX1 := Lib.hid hx1
        have HX2 := Lib.hid hx2
        clear hx1 hx2
        by_cases hxu : x = u
        case neg =>
          have e2 : (x == u) = false := by rw [beq_eq_false_iff_ne]; exact hxu
          go_upto_region 6 with fail
          go_quiet (fail)
          go_wp2_with fail
          go_ret
          exact ⟨retB (by rw [← HR.out]; symm; apply decide_eq_false; intro he; have h1 := HX1.out; rw [he, HX2.out] at h1; injection h1 with e1 e2; omega), junk_of_below (by (repeat' (first | (with_reducible exact Below.refl _ _) | (with_reducible assumption) | (with_reducible refine Below.alloc ?_ ?_ _) | (with_reducible refine Below.drew ?_) | (with_reducible refine below_drewN ?_ _) | (with_reducible refine below_plus ?_ ?_ _ _) | (with_reducible refine Below.setCell ?_ ?_ _) | (with_reducible refine Below.setRow ?_ ?_ _) | go_size)))⟩
        subst hxu
        by_cases hyv : y = v
        case neg =>
          have e2 : (y == v) = false := by rw [beq_eq_false_iff_ne]; exact hyv
          go_upto_region 6 with fail
          go_quiet (fail)
          go_wp2_with fail
          go_ret
          exact ⟨retB (by rw [← HR.out]; symm; apply decide_eq_false; intro he; have h1 := HX1.out; rw [he, HX2.out] at h1; injection h1 with e1 e2; omega), junk_of_below (by (repeat' (first | (with_reducible exact Below.refl _ _) | (with_reducible assumption) | (with_reducible refine Below.alloc ?_ ?_ _) | (with_reducible refine Below.drew ?_) | (with_reducible refine below_drewN ?_ _) | (with_reducible refine below_plus ?_ ?_ _ _) | (with_reducible refine Below.setCell ?_ ?_ _) | (with_reducible refine Below.setRow ?_ ?_ _) | go_size)))⟩
        subst hyv
        have hk2 : K.take (k + 1) = M.take (k + 1) := by
          have hK : k < K.length := by rw [L1.out]; exact hlt
          have hM : k < M.length := by rw [L2.out]; exact hlt
          rw [List.take_succ_eq_append_getElem hK, List.take_succ_eq_append_getElem hM, HK1.out]
          have h1 := HX1.out
          have h2 := HX2.out
          rw [List.getD_eq_getElem?_getD, List.getElem?_eq_getElem hK] at h1
          rw [List.getD_eq_getElem?_getD, List.getElem?_eq_getElem hM] at h2
          simp at h1 h2
          rw [h1, h2]
        have HK2 := Lib.hid hk2
        clear hk2
        go_upto_region 6 with fail
        go_quiet (fail)
        go_wp2_with fail
        go_roundw
        case rel => exact ⟨k + 1, by go_num, by rw [L1.out]; omega, HK2.out, _, by first | exact World.drewN_drewN _ _ _ | exact (World.drewN_add _ _ _).symm | rfl | (trace_state; sorry)⟩
        case measure => simp [intOf]; omega
      · obtain rfl : k = n := by omega
        have hkm : K = M := by
          rw [List.take_of_length_le (by rw [L1.out]; omega), List.take_of_length_le (by rw [L2.out]; omega)] at hk
          exact hk
        have HE := Lib.hid (show R = true by rw [← HR.out]; exact decide_eq_true hkm)
        clear hk hkm
        go_wp2_with fail
        go_ret
        exact ⟨retB HE.out.symm, junk_of_below (by (repeat' (first | (with_reducible exact Below.refl _ _) | (with_reducible assumption) | (with_reducible refine Below.alloc ?_ ?_ _) | (with_reducible refine Below.drew ?_) | (with_reducible refine below_drewN ?_ _) | (with_reducible refine below_plus ?_ ?_ _ _) | (with_reducible refine Below.setCell ?_ ?_ _) | (with_reducible refine Below.setRow ?_ ?_ _) | go_size)))⟩
  · have e1 : ((n : Int) == (m : Int)) = false := by rw [beq_eq_false_iff_ne]; omega
    rw [decide_eq_false (fun e : K = M => hnm (by rw [← l1, ← l2, e]))]
    clear hK hM l1 l2
    go_enter Tryz.func37, Tryz.ntmps37
    go_wp2_with fail
    go_ret
    exact ⟨rfl, junk_of_below (by (repeat' (first | (with_reducible exact Below.refl _ _) | (with_reducible assumption) | (with_reducible refine Below.alloc ?_ ?_ _) | (with_reducible refine Below.drew ?_) | (with_reducible refine below_drewN ?_ _) | (with_reducible refine below_plus ?_ ?_ _ _) | (with_reducible refine Below.setCell ?_ ?_ _) | (with_reducible refine Below.setRow ?_ ?_ _) | go_size)))⟩
end

section
set_option linter.unusedVariables false
set_option linter.unusedSimpArgs false
open Go.RowKit

theorem n_ptWithin (n : Int) (w : World) : Calls Tryz.prog 110 #[.int .i64 n] w fun e w' => e = .returned (.bool (okI n)) ∧ w' = w := by
  unfold okI
  by_cases h1 : -1099511627775 ≤ n
  · by_cases h2 : n ≤ 1099511627775
    · go_enter Tryz.func110, Tryz.ntmps110
      go_wp2
      go_ret
      exact ⟨by simp [h1, h2], rfl⟩
    · go_enter Tryz.func110, Tryz.ntmps110
      go_wp2
      go_ret
      exact ⟨by simp [h1, h2], rfl⟩
  · go_enter Tryz.func110, Tryz.ntmps110
    go_wp2
    go_ret
    exact ⟨congrArg Value.bool (by simp; omega) |> congrArg Ending.returned, rfl⟩
theorem n_ptValid (x y : Int) (w : World) : Calls Tryz.prog 84 #[pt x y] w fun e w' => e = .returned (.bool (okP x y)) ∧ Junk w w' := by
  have HF := Lib.hid n_ptWithin
  unfold pt okP
  cases hx : okI x with
  | false =>
    have HF1 := Lib.hid (fun w' => n_ptWithin x w')
    rw [hx] at HF1
    clear hx
    go_enter Tryz.func84, Tryz.ntmps84
    go_wp2_with (go_at_call 110; refine (HF1.out _).mono ?_; rintro e w1 ⟨rfl, rfl⟩)
    go_ret
    exact ⟨rfl, junk_of_below (by (repeat' (first | (with_reducible exact Below.refl _ _) | (with_reducible assumption) | (with_reducible refine Below.alloc ?_ ?_ _) | (with_reducible refine Below.drew ?_) | (with_reducible refine below_drewN ?_ _) | (with_reducible refine below_plus ?_ ?_ _ _) | (with_reducible refine Below.setCell ?_ ?_ _) | (with_reducible refine Below.setRow ?_ ?_ _) | go_size)))⟩
  | true =>
    have HF1 := Lib.hid (fun w' => n_ptWithin x w')
    rw [hx] at HF1
    clear hx
    go_enter Tryz.func84, Tryz.ntmps84
    go_wp2_with (first | (go_at_call 110; refine (HF1.out _).mono ?_; clear HF1; rintro e w1 ⟨rfl, rfl⟩) | (go_at_call 110; refine (HF.out _ _).mono ?_; rintro e w1 ⟨rfl, rfl⟩))
    go_ret
    exact ⟨by simp, junk_of_below (by (repeat' (first | (with_reducible exact Below.refl _ _) | (with_reducible assumption) | (with_reducible refine Below.alloc ?_ ?_ _) | (with_reducible refine Below.drew ?_) | (with_reducible refine below_drewN ?_ _) | (with_reducible refine below_plus ?_ ?_ _ _) | (with_reducible refine Below.setCell ?_ ?_ _) | (with_reducible refine Below.setRow ?_ ?_ _) | go_size)))⟩
theorem n_ptBetween (n a b : Int) (w : World) : Calls Tryz.prog 153 #[.int .i64 n, .int .i64 a, .int .i64 b] w fun e w' => e = .returned (.bool (decide (btw n a b))) ∧ w' = w := by
  obtain ⟨R, hR⟩ : ∃ R, decide (btw n a b) = R := ⟨_, rfl⟩
  rw [hR]
  have HR := Lib.hid hR
  clear hR
  go_enter Tryz.func153, Tryz.ntmps153
  go_wp2
  all_goals
    go_ret
    refine ⟨retB ?_, rfl⟩
    rw [← HR.out]
    unfold btw
    first | exact decide_eq_decide.2 (by omega) | exact (decide_eq_false (by omega)).symm | exact (decide_eq_true (by omega)).symm
theorem n_ptShare (a b c d : Int) (w : World) : Calls Tryz.prog 122 #[.int .i64 a, .int .i64 b, .int .i64 c, .int .i64 d] w fun e w' => e = .returned (.bool (decide (max a c < min b d))) ∧ w' = w := by
  obtain ⟨R, hR⟩ : ∃ R, decide (max a c < min b d) = R := ⟨_, rfl⟩
  rw [hR]
  have HR := Lib.hid hR
  clear hR
  go_enter Tryz.func122, Tryz.ntmps122
  go_wp2
  all_goals
    go_ret
    refine ⟨retB ?_, rfl⟩
    rw [← HR.out]
    first | exact decide_eq_decide.2 (by omega) | exact (decide_eq_false (by omega)).symm | exact (decide_eq_true (by omega)).symm
theorem meetF_two (lx ly hx hy kx ky mx my : Int) : meetF lx ly hx hy kx ky mx my = (decide (max lx kx < min hx mx) && decide (max ly ky < min hy my)) := by
  unfold meetF; simp
theorem n_ptMeet (lx ly hx hy kx ky mx my : Int) (w : World) : Calls Tryz.prog 94 #[bxV lx ly hx hy, bxV kx ky mx my] w fun e w' => e = .returned (.bool (meetF lx ly hx hy kx ky mx my)) ∧ Junk w w' := by
  rw [meetF_two]
  have H1 := Lib.hid (fun w' => n_ptShare lx hx kx mx w')
  have H2 := Lib.hid (fun w' => n_ptShare ly hy ky my w')
  generalize decide (max lx kx < min hx mx) = P1 at *
  generalize decide (max ly ky < min hy my) = P2 at *
  unfold bxV
  cases P1 with
  | false =>
    go_enter Tryz.func94, Tryz.ntmps94
    go_wp2_with (first | (go_at_call 122; refine (H1.out _).mono ?_; clear H1; rintro e w1 ⟨rfl, rfl⟩) | (go_at_call 122; refine (H2.out _).mono ?_; clear H2; rintro e w1 ⟨rfl, rfl⟩))
    go_ret
    exact ⟨retB (by simp), junk_of_below (by (repeat' (first | (with_reducible exact Below.refl _ _) | (with_reducible assumption) | (with_reducible refine Below.alloc ?_ ?_ _) | (with_reducible refine Below.drew ?_) | (with_reducible refine below_drewN ?_ _) | (with_reducible refine below_plus ?_ ?_ _ _) | (with_reducible refine Below.setCell ?_ ?_ _) | (with_reducible refine Below.setRow ?_ ?_ _) | go_size)))⟩
  | true =>
    go_enter Tryz.func94, Tryz.ntmps94
    go_wp2_with (first | (go_at_call 122; refine (H1.out _).mono ?_; clear H1; rintro e w1 ⟨rfl, rfl⟩) | (go_at_call 122; refine (H2.out _).mono ?_; clear H2; rintro e w1 ⟨rfl, rfl⟩))
    go_ret
    exact ⟨retB (by simp), junk_of_below (by (repeat' (first | (with_reducible exact Below.refl _ _) | (with_reducible assumption) | (with_reducible refine Below.alloc ?_ ?_ _) | (with_reducible refine Below.drew ?_) | (with_reducible refine below_drewN ?_ _) | (with_reducible refine below_plus ?_ ?_ _ _) | (with_reducible refine Below.setCell ?_ ?_ _) | (with_reducible refine Below.setRow ?_ ?_ _) | go_size)))⟩

def allOk (K : List (Int × Int)) : Bool := K.all fun p => okP p.1 p.2
def AllAt (w : World) (K : List (Int × Int)) (i : Value) (wr : World) : Prop := ∃ k : Nat, i = .int .i64 (k : Int) ∧ k ≤ K.length ∧ allOk (K.take k) = true ∧ ∃ J d, wr = w.plus J d
theorem allOk_take {K : List (Int × Int)} {k : Nat} {x y : Int} (hk : k < K.length) (h : K.getD k (0, 0) = (x, y)) (h1 : allOk (K.take k) = true) : allOk (K.take (k + 1)) = okP x y := by
  unfold allOk at *
  rw [List.take_succ_eq_append_getElem hk, List.all_append, h1]
  rw [List.getD_eq_getElem?_getD, List.getElem?_eq_getElem hk] at h
  simp at h
  simp [h]
theorem allOk_not {K : List (Int × Int)} {k : Nat} {x y : Int} (hk : k < K.length) (h : K.getD k (0, 0) = (x, y)) (h1 : okP x y = false) : allOk K = false := by
  unfold allOk
  rw [List.all_eq_false]
  refine ⟨K[k], List.getElem_mem hk, ?_⟩
  rw [List.getD_eq_getElem?_getD, List.getElem?_eq_getElem hk] at h
  simp at h
  simp [h, h1]

set_option maxRecDepth 100000 in
set_option maxHeartbeats 1000000 in
theorem n_ptAll (w : World) (a : Option Addr) (n ca : Nat) (K : List (Int × Int)) (hK : PReads w a n K) (hs : n ≤ 9223372036854775807) :
    Calls Tryz.prog 60 #[.slice a n ca] w fun e w' => e = .returned (.bool (allOk K)) ∧ Junk w w' := by
  have l1 := hK.1
  have HK := Lib.hid hK.2
  obtain ⟨R, hR⟩ : ∃ R, allOk K = R := ⟨_, rfl⟩
  rw [hR]
  have HR := Lib.hid hR
  have L1 := Lib.hid l1
  clear hK hR l1
  go_enter Tryz.func60, Tryz.ntmps60
  go_wp2_with fail
  go_loopw [7] (fun i wr => AllAt w K i wr) (fun i _ => n - (intOf i).toNat)
  case atStart => exact ⟨0, rfl, by omega, by simp [allOk], #[], _, by simp [World.plus]; rfl⟩
  case round =>
    obtain ⟨k, rfl, k1, hk, J, d, rfl⟩ := hrel
    rw [L1.out] at k1
    by_cases hlt : k < n
    · rcases HK.out with h0 | ⟨b1, o1, rfl, hc1⟩
      · omega
      obtain ⟨p1, p2⟩ := hc1 k hlt
      have i1 : (k : Int) < (n : Int) := by omega
      have hb : b1 < w.heap.size := World.block_lt_of_cell? _ _ p1
      have HK1 := Lib.hid hk
      clear hc1 hk
      have hx : ∃ x y : Int, (K.getD k (0, 0)) = (x, y) := ⟨_, _, rfl⟩
      obtain ⟨x, y, hx1⟩ := hx
      rw [hx1] at p1 p2
      have HX1 := Lib.hid hx1
      clear hx1
      have HV := Lib.hid (fun w' => n_ptValid x y w')
      unfold pt at HV
      cases hok : okP x y with
      | false =>
        rw [hok] at HV
        have HN := Lib.hid (allOk_not (by rw [L1.out]; exact hlt) HX1.out hok)
        clear hok
        go_wp2_with (go_at_call 84; refine (HV.out _).mono ?_; rintro e w1 ⟨rfl, J1, d1, rfl⟩)
        go_ret
        exact ⟨retB (by rw [← HR.out, HN.out]), junk_of_below (by (repeat' (first | (with_reducible exact Below.refl _ _) | (with_reducible assumption) | (with_reducible refine Below.alloc ?_ ?_ _) | (with_reducible refine Below.drew ?_) | (with_reducible refine below_drewN ?_ _) | (with_reducible refine below_plus ?_ ?_ _ _) | (with_reducible refine Below.setCell ?_ ?_ _) | (with_reducible refine Below.setRow ?_ ?_ _) | go_size)))⟩
      | true =>
        rw [hok] at HV
        have HN := Lib.hid ((allOk_take (by rw [L1.out]; exact hlt) HX1.out HK1.out).trans hok)
        clear hok
        go_wp2_with (go_at_call 84; refine (HV.out _).mono ?_; rintro e w1 ⟨rfl, J1, d1, rfl⟩)
        go_roundw
        case rel => exact ⟨k + 1, by go_num, by rw [L1.out]; omega, HN.out, junk_of_below (by (repeat' (first | (with_reducible exact Below.refl _ _) | (with_reducible assumption) | (with_reducible refine Below.alloc ?_ ?_ _) | (with_reducible refine Below.drew ?_) | (with_reducible refine below_drewN ?_ _) | (with_reducible refine below_plus ?_ ?_ _ _) | (with_reducible refine Below.setCell ?_ ?_ _) | (with_reducible refine Below.setRow ?_ ?_ _) | go_size)))⟩
        case measure => simp [intOf]; omega
    · obtain rfl : k = n := by omega
      have HE := Lib.hid (show R = true by rw [← HR.out, ← hk, List.take_of_length_le (by rw [L1.out]; omega)])
      clear hk
      go_wp2_with fail
      go_ret
      exact ⟨retB HE.out.symm, junk_of_below (by (repeat' (first | (with_reducible exact Below.refl _ _) | (with_reducible assumption) | (with_reducible refine Below.alloc ?_ ?_ _) | (with_reducible refine Below.drew ?_) | (with_reducible refine below_drewN ?_ _) | (with_reducible refine below_plus ?_ ?_ _ _) | (with_reducible refine Below.setCell ?_ ?_ _) | (with_reducible refine Below.setRow ?_ ?_ _) | go_size)))⟩
end
end Go.Proofs.YtegliapkbapigaaGreat

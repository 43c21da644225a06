/- Contract of apportionref07.Bounds. -/
import Derived.Test.YtlfjbbelanccbaaPtC
import Derived.Test.YtlfjbbelanccbaaPlus2
namespace Go.Proofs.Ytlfjbbelanccbaa
set_option linter.unusedVariables false
set_option linter.unusedSimpArgs false
open Go.RowKit

/-- Between two rounds: the box's block is the last of a world, and others lie behind. -/
def RefW (w2 : World) (K : List (Int × Int)) (k : Nat) (wr : World) : Prop := Junk (w2.alloc (.cells (xcells (lxF K k) (lyF K k) (hxF K k) (hyF K k)) 34)) wr
def RefAt (w2 : World) (K : List (Int × Int)) (i : Value) (wr : World) : Prop := ∃ k : Nat, i = .int .i64 (k : Int) ∧ k ≤ K.length ∧ allOk (K.take k) = true ∧ RefW w2 K k wr
theorem ref_next {w2 : World} {K : List (Int × Int)} {k : Nat} {a b c d : Int} {wr : World} (h : Junk (w2.alloc (.cells #[.int .i64 a, .int .i64 b, .int .i64 c, .int .i64 d] 34)) wr)
    (h1 : lxF K k = a) (h2 : lyF K k = b) (h3 : hxF K k = c) (h4 : hyF K k = d) : RefW w2 K k wr := by
  unfold RefW
  rw [h1, h2, h3, h4]
  exact h

set_option maxRecDepth 100000 in
set_option maxHeartbeats 4000000 in
theorem r_ptBounds (w : World) (a : Option Addr) (n ca : Nat) (K : List (Int × Int)) (hK : PReads w a n K) (hs : n ≤ 9223372036854775807) :
    Calls Try.prog 23 #[.slice a n ca] w fun e w' => e = .returned (.tuple #[boxV K, .bool (bndOk K)]) ∧ Junk w w' := by
  have l1 := hK.1
  by_cases hn : n = 0
  · have hb : bndOk K = false := by unfold bndOk; simp; omega
    rw [boxV_none hb, hb]
    have e1 : ((n : Int) == 0) = true := by rw [beq_iff_eq]; omega
    clear hn l1 hK hb
    go_enter Try.func23, Try.ntmps23
    go_wp2
    refine bodyPost_ret (results_box2 rfl _ _ w.heap.size #[.int .i64 0, .int .i64 0, .int .i64 0, .int .i64 0] rfl (by simp [go_sem]) rfl) rfl ⟨rfl, junk_of_below (by (repeat' (first | (with_reducible exact Below.refl _ _) | (with_reducible assumption) | (with_reducible refine Below.alloc ?_ ?_ _) | (with_reducible refine Below.drew ?_) | (with_reducible refine below_drewN ?_ _) | (with_reducible refine below_plus ?_ ?_ _ _) | (with_reducible refine Below.setCell ?_ ?_ _) | (with_reducible refine Below.setRow ?_ ?_ _) | go_size)))⟩
  have e1 : ((n : Int) == 0) = false := by rw [beq_eq_false_iff_ne]; omega
  rcases hK.2 with h0 | ⟨b1, o1, rfl, hc⟩
  · omega
  obtain ⟨p1, p2⟩ := hc 0 (by omega)
  have hx : ∃ x y : Int, (K.getD 0 (0, 0)) = (x, y) := ⟨_, _, rfl⟩
  obtain ⟨x, y, hx1⟩ := hx
  rw [hx1] at p1 p2
  simp at p1 p2
  have hbl : b1 < w.heap.size := World.block_lt_of_cell? _ _ p1
  have i1 : (0 : Int) < (n : Int) := by omega
  have HC := Lib.hid hc
  have HX1 := Lib.hid hx1
  have L1 := Lib.hid l1
  have HN0 := Lib.hid hn
  clear hn l1 hK hc hx1
  obtain ⟨B, hB⟩ : ∃ B, bndOk K = B := ⟨_, rfl⟩
  rw [hB]
  obtain ⟨V, hV⟩ : ∃ V, boxV K = V := ⟨_, rfl⟩
  rw [hV]
  have HB := Lib.hid hB
  have HV := Lib.hid hV
  clear hB hV
  go_enter Try.func23, Try.ntmps23
  go_wp2_with fail
  go_region
  go_wp2_with fail
  have hw : ∃ w2, (w.alloc (.cells #[.int .i64 0, .int .i64 0, .int .i64 0, .int .i64 0] 34)) = w2 := ⟨_, rfl⟩
  obtain ⟨w2, hw2⟩ := hw
  have hz : w.heap.size + 1 = w2.heap.size := by rw [← hw2]; simp
  have hj : Below w.heap.size w w2 := by rw [← hw2]; (repeat' (first | (with_reducible exact Below.refl _ _) | (with_reducible assumption) | (with_reducible refine Below.alloc ?_ ?_ _) | (with_reducible refine Below.drew ?_) | (with_reducible refine below_drewN ?_ _) | (with_reducible refine below_plus ?_ ?_ _ _) | (with_reducible refine Below.setCell ?_ ?_ _) | (with_reducible refine Below.setRow ?_ ?_ _) | go_size))
  have hb2 : b1 < w2.heap.size := Nat.lt_of_lt_of_le hbl hj.size
  have HC2 := Lib.hid (fun i (hi : i < n) => show w2.cell? ⟨b1, o1 + i * 2, none⟩ = some (.int .i64 (K.getD i (0, 0)).1) ∧ w2.cell? ⟨b1, o1 + i * 2 + 1, none⟩ = some (.int .i64 (K.getD i (0, 0)).2) from by
      obtain ⟨h1, h2⟩ := HC.out i hi
      exact ⟨(World.cell?_of_block (a := ⟨b1, o1 + i * 2, none⟩) (hj.block b1 hbl)).trans h1, (World.cell?_of_block (a := ⟨b1, o1 + i * 2 + 1, none⟩) (hj.block b1 hbl)).trans h2⟩)
  rw [hw2, hz]
  have HW2 := Lib.hid hw2
  clear hw2 hj p1 p2 hz
  go_loopw [5] (fun i wr => RefAt w2 K i wr) (fun i _ => n - (intOf i).toNat)
  case atStart => exact ⟨0, rfl, by omega, by simp [allOk], ref_next (junk_of_below (by (repeat' (first | (with_reducible exact Below.refl _ _) | (with_reducible assumption) | (with_reducible refine Below.alloc ?_ ?_ _) | (with_reducible refine Below.drew ?_) | (with_reducible refine below_drewN ?_ _) | (with_reducible refine below_plus ?_ ?_ _ _) | (with_reducible refine Below.setCell ?_ ?_ _) | (with_reducible refine Below.setRow ?_ ?_ _) | go_size)))) (by unfold lxF; rw [HX1.out]; rfl) (by unfold lyF; rw [HX1.out]; rfl) (by unfold hxF; rw [HX1.out]; rfl) (by unfold hyF; rw [HX1.out]; rfl)⟩
  case round =>
    obtain ⟨k, rfl, k1, hk, J, d, rfl⟩ := hrel
    rw [L1.out] at k1
    unfold xcells
    by_cases hlt : k < n
    · obtain ⟨q1, q2⟩ := HC2.out k hlt
      have i2 : (k : Int) < (n : Int) := by omega
      have hx : ∃ u v : Int, (K.getD k (0, 0)) = (u, v) := ⟨_, _, rfl⟩
      obtain ⟨u, v, hx1⟩ := hx
      rw [hx1] at q1 q2
      have hkl : k < K.length := by rw [L1.out]; exact hlt
      have HV1 := Lib.hid (fun w' => r_ptValid u v w')
      unfold pt at HV1
      cases hok : okP u v with
      | false =>
        rw [hok] at HV1
        have hall : allOk K = false := allOk_not hkl hx1 hok
        have hb : bndOk K = false := by unfold bndOk; rw [hall]; simp
        have hB := HB.out
        have hV := HV.out
        rw [boxV_none hb] at hV
        rw [hb] at hB
        obtain ⟨r1, r2⟩ := HC.out k hlt
        rw [hx1] at r1 r2
        clear q1 q2
        have hb3 : b1 < w.heap.size + 1 := by omega
        have hb4 : b1 < w.heap.size + 1 + 1 := by omega
        obtain rfl := HW2.out
        subst hB hV
        clear hx1 hkl hok hall hb HB HV HW2
        generalize lxF K k = A1 at *
        generalize lyF K k = A2 at *
        generalize hxF K k = A3 at *
        generalize hyF K k = A4 at *
        go_wp2_with (go_at_call 14; refine (HV1.out _).mono ?_; rintro e w1 ⟨rfl, J1, d1, rfl⟩)
        refine bodyPost_ret (results_box2 rfl _ _ w.heap.size #[.int .i64 0, .int .i64 0, .int .i64 0, .int .i64 0] rfl (by simp [go_sem]) rfl) rfl ⟨rfl, junk_of_below (by (repeat' (first | (with_reducible exact Below.refl _ _) | (with_reducible assumption) | (with_reducible refine Below.alloc ?_ ?_ _) | (with_reducible refine Below.drew ?_) | (with_reducible refine below_drewN ?_ _) | (with_reducible refine below_plus ?_ ?_ _ _) | (with_reducible refine Below.setCell ?_ ?_ _) | (with_reducible refine Below.setRow ?_ ?_ _) | go_size)))⟩
      | true =>
        rw [hok] at HV1
        have HN := Lib.hid ((allOk_take hkl hx1 hk).trans hok)
        have H1 := Lib.hid (lx_step hkl hx1)
        have H2 := Lib.hid (ly_step hkl hx1)
        have H3 := Lib.hid (hx_step hkl hx1)
        have H4 := Lib.hid (hy_step hkl hx1)
        clear hx1 hkl hok hk
        generalize lxF K k = A1 at *
        generalize lyF K k = A2 at *
        generalize hxF K k = A3 at *
        generalize hyF K k = A4 at *
        go_wp2_with (go_at_call 14; refine (HV1.out _).mono ?_; rintro e w1 ⟨rfl, J1, d1, rfl⟩)
        all_goals go_roundw
        case rel => exact ⟨k + 1, by go_num, by rw [L1.out]; omega, HN.out, ref_next (junk_of_below (by (repeat' (first | (with_reducible exact Below.refl _ _) | (with_reducible assumption) | (with_reducible refine Below.alloc ?_ ?_ _) | (with_reducible refine Below.drew ?_) | (with_reducible refine below_drewN ?_ _) | (with_reducible refine below_plus ?_ ?_ _ _) | (with_reducible refine Below.setCell ?_ ?_ _) | (with_reducible refine Below.setRow ?_ ?_ _) | go_size)))) (by rw [H1.out]; split <;> omega) (by rw [H2.out]; split <;> omega) (by rw [H3.out]; split <;> omega) (by rw [H4.out]; split <;> omega)⟩
        case measure => simp [intOf]; omega
    · obtain rfl : k = n := by omega
      have hkl : K.take k = K := List.take_of_length_le (by rw [L1.out]; omega)
      rw [hkl] at hk
      have hb : bndOk K = true := by unfold bndOk; rw [hk]; simp; have := HN0.out; have := L1.out; omega
      have hh := hx_ok hk (by have := HN0.out; have := L1.out; omega) k
      have hh2 := hy_ok hk (by have := HN0.out; have := L1.out; omega) k
      have hB := HB.out
      have hV := HV.out
      rw [boxV_some hb, L1.out] at hV
      rw [hb] at hB
      obtain rfl := HW2.out
      subst hB hV
      clear hk hkl hb HB HV HW2
      have e3 : IntKind.i64.wrap (hxF K k + 1) = hxF K k + 1 := by simp [IntKind.wrap, IntKind.signed, IntKind.bits]; omega
      have e4 : IntKind.i64.wrap (hyF K k + 1) = hyF K k + 1 := by simp [IntKind.wrap, IntKind.signed, IntKind.bits]; omega
      clear hh hh2
      go_wp2_with fail
      refine bodyPost_ret (results_box2 rfl _ _ w.heap.size #[.int .i64 (lxF K k), .int .i64 (lyF K k), .int .i64 (hxF K k + 1), .int .i64 (hyF K k + 1)] rfl (by simp [go_sem]) rfl) rfl ⟨rfl, junk_of_below (by (repeat' (first | (with_reducible exact Below.refl _ _) | (with_reducible assumption) | (with_reducible refine Below.alloc ?_ ?_ _) | (with_reducible refine Below.drew ?_) | (with_reducible refine below_drewN ?_ _) | (with_reducible refine below_plus ?_ ?_ _ _) | (with_reducible refine Below.setCell ?_ ?_ _) | (with_reducible refine Below.setRow ?_ ?_ _) | go_size)))⟩
end Go.Proofs.Ytlfjbbelanccbaa

/- Contracts of apportionref01's Num.Int, told and Num.Plus. Conditions: numbers below 2^192 in size. -/
import Derived.Test.YtgnmoneiiogoaaaNumC
namespace Go.Proofs.Ytgnmoneiiogoaaa
set_option linter.unusedVariables false
set_option linter.unusedSimpArgs false
open Go.RowKit

def inI64 (z : Int) : Bool := decide (-9223372036854775808 ≤ z ∧ z ≤ 9223372036854775807)
def i64Or0 (z : Int) : Int := if -9223372036854775808 ≤ z ∧ z ≤ 9223372036854775807 then z else 0

theorem retib {a b : Int} {p q : Bool} (h : a = b) (g : p = q) : Ending.returned (.tuple #[.int .i64 a, .bool p]) = .returned (.tuple #[.int .i64 b, .bool q]) := by rw [h, g]

set_option maxRecDepth 100000 in
set_option maxHeartbeats 1000000 in
theorem r_Int (z : Int) (hz : Fits z) (w : World) :
    Calls Try.prog 51 #[num z] w fun e w' => e = .returned (.tuple #[.int .i64 (i64Or0 z), .bool (inI64 z)]) ∧ Junk w w' := by
  have HZ := Lib.hid (high_zero z.natAbs (by omega) hz)
  have HL := Lib.hid (fun h => low_zero (z.natAbs : Int) (by omega) h)
  have HG := Lib.hid (fun k (h : k < 12) => digs_getD 12 z.natAbs k h)
  have HB := Lib.hid (digs_bd 12 z.natAbs)
  have hl := digs_len 12 (z.natAbs : Int)
  unfold num numOf
  generalize digs 12 (z.natAbs : Int) = ds at *
  obtain ⟨s, hs⟩ : ∃ s, s = decide (z < 0) := ⟨_, rfl⟩
  rw [← hs]
  have HS := Lib.hid hs; clear hs hz
  go_enter Try.func51, Try.ntmps51
  go_wp2_with fail
  go_loopw [4] (fun i wr => ∃ (k n : Nat), i = .int .i64 k ∧ 4 ≤ k ∧ k ≤ 12 ∧ (∀ j, 4 ≤ j → j < k → ds.getD j 0 = 0) ∧ wr = (w.alloc (.cells (numCells s ds) 49)).drewN n) (fun i _ => 12 - (intOf i).toNat)
  case atStart => exact ⟨4, 0, rfl, by omega, by omega, fun j h1 h2 => by omega, rfl⟩
  case round =>
    obtain ⟨k, n, rfl, hk0, hk, hall, rfl⟩ := hrel
    have HA := Lib.hid hall; clear hall
    by_cases hlt : k < 12
    · have g1 := numCells_get s ds k (by omega)
      have f1 := HG.out k hlt
      have z1 : (numCells s ds).size = 13 := by rw [numCells_size, hl]
      by_cases hd : ds.getD k 0 = 0
      · have hb : (ds.getD k 0 != 0) = false := by rw [bne_eq_false_iff_eq]; exact hd
        have HN := Lib.hid (show ∀ j, 4 ≤ j → j < k + 1 → ds.getD j 0 = 0 from fun j h1 h2 => by
          by_cases h : j = k
          · subst h; exact hd
          · exact HA.out j h1 (by omega))
        clear f1 hd
        generalize ds.getD k 0 = p at *
        generalize numCells s ds = C at *
        clear hl
        go_wp2_with fail
        go_roundw
        case rel => exact ⟨k + 1, n, by go_num, by omega, by omega, HN.out, rfl⟩
        case measure => simp [intOf]; omega
      · have hb : (ds.getD k 0 != 0) = true := by rw [bne_iff_ne]; exact hd
        have hout : ¬ (-9223372036854775808 ≤ z ∧ z ≤ 9223372036854775807) := by
          intro h
          exact hd (by rw [f1]; exact HL.out (by omega) k hk0)
        have H1 := Lib.hid (show i64Or0 z = 0 from if_neg hout)
        have H2 := Lib.hid (show inI64 z = false from decide_eq_false hout)
        clear f1 hd hout
        generalize ds.getD k 0 = p at *
        generalize numCells s ds = C at *
        clear hl
        go_wp2_with fail
        go_ret2
        exact ⟨retib H1.out.symm H2.out.symm, junk_of_below (by (repeat' (first | (with_reducible exact Below.refl _ _) | (with_reducible assumption) | (with_reducible refine Below.alloc ?_ ?_ _) | (with_reducible refine Below.drew ?_) | (with_reducible refine below_drewN ?_ _) | (with_reducible refine below_plus ?_ ?_ _ _) | (with_reducible refine Below.setCell ?_ ?_ _) | (with_reducible refine Below.setRow ?_ ?_ _) | go_size)))⟩
    · obtain rfl : k = 12 := by omega
      have hv := HZ.out HA.out
      have b0 := HB.out 0
      have b1 := HB.out 1
      have b2 := HB.out 2
      have b3 := HB.out 3
      have c0 : (numCells s ds)[1]? = some (.int .i64 (ds.getD 0 0)) := numCells_get s ds 0 (by omega)
      have c1 : (numCells s ds)[2]? = some (.int .i64 (ds.getD 1 0)) := numCells_get s ds 1 (by omega)
      have c2 : (numCells s ds)[3]? = some (.int .i64 (ds.getD 2 0)) := numCells_get s ds 2 (by omega)
      have c3 : (numCells s ds)[4]? = some (.int .i64 (ds.getD 3 0)) := numCells_get s ds 3 (by omega)
      have c4 := numCells_zero s ds
      generalize ds.getD 0 0 = p0 at *
      generalize ds.getD 1 0 = p1 at *
      generalize ds.getD 2 0 = p2 at *
      generalize ds.getD 3 0 = p3 at *
      generalize numCells s ds = C at *
      clear hl HA
      obtain ⟨b00, b01⟩ := b0
      obtain ⟨b10, b11⟩ := b1
      obtain ⟨b20, b21⟩ := b2
      obtain ⟨b30, b31⟩ := b3
      have HV := Lib.hid hv; clear hv
      cases s with
      | true =>
        have hz := Lib.hid (show z < 0 by have := HS.out; simpa using this.symm)
        by_cases hu : p0 + p1 * 65536 + p2 * 4294967296 + p3 * 281474976710656 ≤ 9223372036854775808
        · have hin : -9223372036854775808 ≤ z ∧ z ≤ 9223372036854775807 := by have := HV.out; have := hz.out; omega
          have H1 := Lib.hid (show i64Or0 z = z from if_pos hin)
          have H2 := Lib.hid (show inI64 z = true from decide_eq_true hin)
          clear hin
          go_wp2_with fail
          go_ret2
          refine ⟨retib ?_ H2.out.symm, junk_of_below (by (repeat' (first | (with_reducible exact Below.refl _ _) | (with_reducible assumption) | (with_reducible refine Below.alloc ?_ ?_ _) | (with_reducible refine Below.drew ?_) | (with_reducible refine below_drewN ?_ _) | (with_reducible refine below_plus ?_ ?_ _ _) | (with_reducible refine Below.setCell ?_ ?_ _) | (with_reducible refine Below.setRow ?_ ?_ _) | go_size)))⟩
          rw [H1.out]
          have := HV.out; have := hz.out
          simp only [wrap64, IntKind.wrap_i64, IntKind.wrap_u64]
          omega
        · have hout : ¬ (-9223372036854775808 ≤ z ∧ z ≤ 9223372036854775807) := by have := HV.out; have := hz.out; omega
          have H1 := Lib.hid (show i64Or0 z = 0 from if_neg hout)
          have H2 := Lib.hid (show inI64 z = false from decide_eq_false hout)
          clear hout
          go_wp2_with fail
          go_ret2
          exact ⟨retib H1.out.symm H2.out.symm, junk_of_below (by (repeat' (first | (with_reducible exact Below.refl _ _) | (with_reducible assumption) | (with_reducible refine Below.alloc ?_ ?_ _) | (with_reducible refine Below.drew ?_) | (with_reducible refine below_drewN ?_ _) | (with_reducible refine below_plus ?_ ?_ _ _) | (with_reducible refine Below.setCell ?_ ?_ _) | (with_reducible refine Below.setRow ?_ ?_ _) | go_size)))⟩
      | false =>
        have hz := Lib.hid (show 0 ≤ z by have := HS.out; simpa using this.symm)
        by_cases hu : p0 + p1 * 65536 + p2 * 4294967296 + p3 * 281474976710656 < 9223372036854775808
        · have hin : -9223372036854775808 ≤ z ∧ z ≤ 9223372036854775807 := by have := HV.out; have := hz.out; omega
          have H1 := Lib.hid (show i64Or0 z = z from if_pos hin)
          have H2 := Lib.hid (show inI64 z = true from decide_eq_true hin)
          clear hin
          go_wp2_with fail
          go_ret2
          refine ⟨retib ?_ H2.out.symm, junk_of_below (by (repeat' (first | (with_reducible exact Below.refl _ _) | (with_reducible assumption) | (with_reducible refine Below.alloc ?_ ?_ _) | (with_reducible refine Below.drew ?_) | (with_reducible refine below_drewN ?_ _) | (with_reducible refine below_plus ?_ ?_ _ _) | (with_reducible refine Below.setCell ?_ ?_ _) | (with_reducible refine Below.setRow ?_ ?_ _) | go_size)))⟩
          rw [H1.out]
          have := HV.out; have := hz.out
          omega
        · have hout : ¬ (-9223372036854775808 ≤ z ∧ z ≤ 9223372036854775807) := by have := HV.out; have := hz.out; omega
          have H1 := Lib.hid (show i64Or0 z = 0 from if_neg hout)
          have H2 := Lib.hid (show inI64 z = false from decide_eq_false hout)
          clear hout
          go_wp2_with fail
          go_ret2
          exact ⟨retib H1.out.symm H2.out.symm, junk_of_below (by (repeat' (first | (with_reducible exact Below.refl _ _) | (with_reducible assumption) | (with_reducible refine Below.alloc ?_ ?_ _) | (with_reducible refine Below.drew ?_) | (with_reducible refine below_drewN ?_ _) | (with_reducible refine below_plus ?_ ?_ _ _) | (with_reducible refine Below.setCell ?_ ?_ _) | (with_reducible refine Below.setRow ?_ ?_ _) | go_size)))⟩

theorem told_int (z : Int) : (inI64 z = true → intRes z = (i64Or0 z, 0)) ∧ (inI64 z = false → intRes z = (0, 5)) := by
  unfold inI64 i64Or0 intRes
  by_cases h : -9223372036854775808 ≤ z ∧ z ≤ 9223372036854775807
  · simp [h]
  · simp [h]

set_option maxRecDepth 100000 in
set_option maxHeartbeats 1000000 in
theorem r_told (z : Int) (hz : Fits z) (w : World) :
    Calls Try.prog 37 #[num z] w fun e w' => e = .returned (.tuple #[.int .i64 (intRes z).1, .int .i64 (intRes z).2]) ∧ Junk w w' := by
  have HI := Lib.hid (r_Int z hz)
  obtain ⟨t1, t2⟩ := told_int z
  have hl := digs_len 12 (z.natAbs : Int)
  unfold num numOf at HI
  unfold num numOf
  generalize digs 12 (z.natAbs : Int) = ds at *
  generalize decide (z < 0) = s at *
  generalize inI64 z = b at *
  cases b with
  | true =>
    rw [t1 rfl]; clear t1 t2
    go_enter Try.func37, Try.ntmps37
    go_wp2_with (first | (refine wpList_num_load rfl _ rfl _ rfl (by first | (simp [go_sem]; done) | (simp [go_sem, *]; done)) ?_; intro c hc; simp [go_sem] at hc; subst hc) | (refine wpList_num_store rfl _ _ rfl _ rfl _ _ rfl (by first | (simp [go_sem]; done) | (simp [go_sem, *]; done)) (by first | (simp [go_sem]; done) | (simp [go_sem, *]; done)) ?_))
    refine (HI.out _).mono ?_
    rintro e w' ⟨rfl, J, d, rfl⟩
    go_wp2_with (first | (refine wpList_num_load rfl _ rfl _ rfl (by first | (simp [go_sem]; done) | (simp [go_sem, *]; done)) ?_; intro c hc; simp [go_sem] at hc; subst hc) | (refine wpList_num_store rfl _ _ rfl _ rfl _ _ rfl (by first | (simp [go_sem]; done) | (simp [go_sem, *]; done)) (by first | (simp [go_sem]; done) | (simp [go_sem, *]; done)) ?_))
    go_ret2
    exact ⟨rfl, junk_of_below (by (repeat' (first | (with_reducible exact Below.refl _ _) | (with_reducible assumption) | (with_reducible refine Below.alloc ?_ ?_ _) | (with_reducible refine Below.drew ?_) | (with_reducible refine below_drewN ?_ _) | (with_reducible refine below_plus ?_ ?_ _ _) | (with_reducible refine Below.setCell ?_ ?_ _) | (with_reducible refine Below.setRow ?_ ?_ _) | go_size)))⟩
  | false =>
    rw [t2 rfl]; clear t1 t2
    go_enter Try.func37, Try.ntmps37
    go_wp2_with (first | (refine wpList_num_load rfl _ rfl _ rfl (by first | (simp [go_sem]; done) | (simp [go_sem, *]; done)) ?_; intro c hc; simp [go_sem] at hc; subst hc) | (refine wpList_num_store rfl _ _ rfl _ rfl _ _ rfl (by first | (simp [go_sem]; done) | (simp [go_sem, *]; done)) (by first | (simp [go_sem]; done) | (simp [go_sem, *]; done)) ?_))
    refine (HI.out _).mono ?_
    rintro e w' ⟨rfl, J, d, rfl⟩
    go_wp2_with (first | (refine wpList_num_load rfl _ rfl _ rfl (by first | (simp [go_sem]; done) | (simp [go_sem, *]; done)) ?_; intro c hc; simp [go_sem] at hc; subst hc) | (refine wpList_num_store rfl _ _ rfl _ rfl _ _ rfl (by first | (simp [go_sem]; done) | (simp [go_sem, *]; done)) (by first | (simp [go_sem]; done) | (simp [go_sem, *]; done)) ?_))
    go_ret2
    exact ⟨rfl, junk_of_below (by (repeat' (first | (with_reducible exact Below.refl _ _) | (with_reducible assumption) | (with_reducible refine Below.alloc ?_ ?_ _) | (with_reducible refine Below.drew ?_) | (with_reducible refine below_drewN ?_ _) | (with_reducible refine below_plus ?_ ?_ _ _) | (with_reducible refine Below.setCell ?_ ?_ _) | (with_reducible refine Below.setRow ?_ ?_ _) | go_size)))⟩
end Go.Proofs.Ytgnmoneiiogoaaa

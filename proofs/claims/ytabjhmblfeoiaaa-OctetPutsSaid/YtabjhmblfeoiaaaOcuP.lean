/- The law OctetPuts: any number, text and list as bytes. -/
import Derived.Test.YtabjhmblfeoiaaaOcwC
import Derived.Test.YtabjhmblfeoiaaaOcuW
import Derived.Test.YtabjhmblfeoiaaaOctJ
namespace Go.Proofs.Ytabjhmblfeoiaaa
set_option linter.unusedVariables false
set_option linter.unusedSimpArgs false
open Go.RowKit

theorem ints_lent {w : World} {g : Nat} {l : List Int} (hx : Fit64 l l.length) (h : w.rowAt g = some (irow (lentI l) (l.length + 3))) : Reads w (some ⟨g, 0, none⟩) l.length l := by
  refine ⟨rfl, hx, .inr ⟨g, 0, rfl, fun i hi => ?_⟩⟩
  rw [icell_of_row h, Nat.zero_add, irow_get _ _ _ (by omega)]
  unfold lentI
  rw [if_pos hi]

set_option maxRecDepth 100000 in
set_option maxHeartbeats 16000000 in
theorem l_octetPuts (n : Int) (hn : I64 n) (s : List UInt8) (a : Option Addr) (len cap : Nat) (zs : List Int) (w : World) (hnn : a = none → len = 0 ∧ cap = 0) (hR : Reads w a len zs) :
    Calls Try.prog 3 #[.int .i64 n, .string ⟨s.toArray⟩, .slice a len cap] w fun e w' => e = .returned (.bool true) ∧ Junk w w' := by
  by_cases hs : 5000 < s.length
  · have hs' : (5000 : Int) < (s.length : Int) := by omega
    clear hs hn hR hnn
    go_enter Try.func3, Try.ntmps3
    go_wp2
    go_ret
    exact ⟨rfl, junk_of_below (by (repeat' (first | (with_reducible exact Below.refl _ _) | (with_reducible assumption) | (with_reducible refine Below.alloc ?_ ?_ _) | (with_reducible refine Below.drew ?_) | (with_reducible refine below_drewN ?_ _) | (with_reducible refine below_plus ?_ ?_ _ _) | (with_reducible refine Below.setCell ?_ ?_ _) | (with_reducible refine Below.setRow ?_ ?_ _) | go_size)))⟩
  have hs' : ¬ (5000 : Int) < (s.length : Int) := by omega
  by_cases hl : 2000 < len
  · have hl' : (2000 : Int) < (len : Int) := by omega
    clear hs hn hR hl hnn
    go_enter Try.func3, Try.ntmps3
    go_wp2
    go_ret
    exact ⟨rfl, junk_of_below (by (repeat' (first | (with_reducible exact Below.refl _ _) | (with_reducible assumption) | (with_reducible refine Below.alloc ?_ ?_ _) | (with_reducible refine Below.drew ?_) | (with_reducible refine below_drewN ?_ _) | (with_reducible refine below_plus ?_ ?_ _ _) | (with_reducible refine Below.setCell ?_ ?_ _) | (with_reducible refine Below.setRow ?_ ?_ _) | go_size)))⟩
  have hl' : ¬ (2000 : Int) < (len : Int) := by omega
  have hzl := hR.1
  subst hzl
  have HLe := Lib.hid (k_LentInts w a zs.length cap zs hR hnn (by omega))
  have HK := Lib.hid (fun W (hg : W.rowAt w.heap.size = some (irow (lentI zs) (zs.length + 3))) (h : Reads W a zs.length zs) => k_KeptInts W w.heap.size a zs.length cap zs hg h hnn (by omega))
  have HIL := Lib.hid (fun W (hg : W.rowAt w.heap.size = some (irow (lentI zs) (zs.length + 3))) => ints_lent (w := W) hR.2.1 hg)
  have HA := Lib.hid (fun w => l_awake w)
  have HP1 := Lib.hid (f_Put n hn)
  have HP2 := Lib.hid (r_Put n hn)
  have HT1 := Lib.hid (f_PutText s (by omega))
  have HT2 := Lib.hid (r_PutText s (by omega))
  have HL1 := Lib.hid (fun W b c (h : Reads W b zs.length zs) => f_PutList W b zs.length c zs h (by omega))
  have HL2 := Lib.hid (fun W (h : Reads W a zs.length zs) => r_PutList W a zs.length cap zs h (by omega))
  have HS := Lib.hid (fun W a b n m ca cb L M hL hM => k_SameBytes W a b n m ca cb L M hL hM)
  have HO := Lib.hid (fun W base v L hown hall => k_OverBytes W base v L hown hall)
  have HR := Lib.hid hR
  generalize encN n = A at *
  generalize encT s = B at *
  generalize encL zs = C at *
  clear hn hR hs hl hnn
  go_enter Try.func3, Try.ntmps3
  go_wp2_with fail
  refine HLe.out.mono ?_; rintro e w1 ⟨rfl, d, hw1⟩
  have b1 : Below w.heap.size w w1 := by rw [hw1]; exact below_drewN ((Below.refl _ _).alloc (Nat.le_refl _) _) _
  have hrow : w1.rowAt w.heap.size = some (irow (lentI zs) (zs.length + 3)) := by rw [hw1, rowAt_drewN]; exact rowAt_alloc_at _ _ _ _ rfl
  have hs1 : w.heap.size < w1.heap.size := by rw [hw1]; simp
  clear hw1
  have HRow := Lib.hid (fun W (h : Below w1.heap.size w1 W) => (show W.rowAt w.heap.size = some (irow (lentI zs) (zs.length + 3)) by rw [rowAt_of_block (h.block _ hs1)]; exact hrow))
  have HRd := Lib.hid (fun W (h : Below w1.heap.size w1 W) => HR.out.below (b1.trans (h.mono b1.size)))
  have HB1 := Lib.hid b1
  clear hrow b1
  go_wp2_with fail
  refine (HP1.out _).mono ?_; rintro e w2 ⟨va, rfl, oa, fa, j2⟩
  have c2 := j2.below
  go_wp2_with fail
  refine (HT1.out _).mono ?_; rintro e w3 ⟨vb, rfl, ob, fb, j3⟩
  have c3 := c2.trans (j3.below.mono c2.size)
  go_wp2_with fail
  refine (HL1.out _ _ _ (HIL.out _ (HRow.out _ c3))).mono ?_; rintro e w4 ⟨vc, rfl, oc, fc, j4⟩
  have c4 := c3.trans (j4.below.mono c3.size)
  go_wp2_with fail
  refine (HP2.out _).mono ?_; rintro e w5 ⟨vx, rfl, ox, j5⟩
  have c5 := c4.trans (j5.below.mono c4.size)
  go_wp2_with fail
  refine (HT2.out _).mono ?_; rintro e w6 ⟨vy, rfl, oy, j6⟩
  have c6 := c5.trans (j6.below.mono c5.size)
  go_wp2_with fail
  refine (HL2.out _ (HRd.out _ c6)).mono ?_; rintro e w7 ⟨vz, rfl, oz, j7⟩
  have c7 := c6.trans (j7.below.mono c6.size)
  have la := bowns_lt oa
  have lb := bowns_lt ob
  have lc := bowns_lt oc
  have lx := bowns_lt ox
  have d3 := j3.below
  have d4 := d3.trans (j4.below.mono d3.size)
  have d5 := d4.trans (j5.below.mono d4.size)
  have d6 := d5.trans (j6.below.mono d5.size)
  have d7 := d6.trans (j7.below.mono d6.size)
  have e4 := j4.below
  have e5 := e4.trans (j5.below.mono e4.size)
  have e6 := e5.trans (j6.below.mono e5.size)
  have e7 := e6.trans (j7.below.mono e6.size)
  have g5 := j5.below
  have g6 := g5.trans (j6.below.mono g5.size)
  have g7 := g6.trans (j7.below.mono g6.size)
  have h6 := j6.below
  have h7 := h6.trans (j7.below.mono h6.size)
  have OA := Lib.hid (oa.below d7)
  have FA := Lib.hid (fa.below d7)
  have OB := Lib.hid (ob.below e7)
  have FB := Lib.hid (fb.below e7)
  have OC := Lib.hid (oc.below g7)
  have FC := Lib.hid (fc.below g7)
  have OX := Lib.hid (ox.below h7)
  have OY := Lib.hid (oy.below j7.below)
  have OZ := Lib.hid oz
  have LA := Lib.hid la
  have LB := Lib.hid lb
  have LC := Lib.hid lc
  have LX := Lib.hid lx
  have C7 := Lib.hid c7
  have z2 := c2.size
  have z3 := d3.size
  have z4 := e4.size
  have z5 := g5.size
  clear oa ob oc ox oy oz fa fb fc j2 j3 j4 j5 j6 j7 c2 c3 c4 c5 c6 c7 d3 d4 d5 d6 d7 e4 e5 e6 e7 g5 g6 g7 h6 h7 la lb lc lx
  obtain ⟨a1, cap1, rfl, r1, _⟩ := breads_of_owns OA.out
  obtain ⟨a2, cap2, rfl, r2, _⟩ := breads_of_owns OB.out
  obtain ⟨a3, cap3, rfl, r3, _⟩ := breads_of_owns OC.out
  obtain ⟨a4, cap4, rfl, r4, _⟩ := breads_of_owns OX.out
  obtain ⟨a5, cap5, rfl, r5, _⟩ := breads_of_owns OY.out
  obtain ⟨a6, cap6, rfl, r6, _⟩ := breads_of_owns OZ.out
  have R1 := Lib.hid r1
  have R2 := Lib.hid r2
  have R3 := Lib.hid r3
  have R4 := Lib.hid r4
  have R5 := Lib.hid r5
  have R6 := Lib.hid r6
  clear r1 r2 r3 r4 r5 r6
  go_upto_region 6 with fail
  go_cut [14] from 15 (fun t wx => t = .bool true ∧ Below w7.heap.size w7 wx)
  case first =>
    go_wp2_with fail
    refine (HS.out _ _ _ _ _ _ _ A A R1.out R4.out).mono ?_; rintro e w8 ⟨rfl, i8⟩
    have I8 := Lib.hid i8.below
    clear i8
    go_wp2_with fail
    refine (HS.out _ _ _ _ _ _ _ B B (R2.out.below I8.out) (R5.out.below I8.out)).mono ?_; rintro e w9 ⟨rfl, i9⟩
    have I9 := Lib.hid (I8.out.trans (i9.below.mono I8.out.size))
    clear i9
    go_wp2_with fail
    refine (HS.out _ _ _ _ _ _ _ C C (R3.out.below I9.out) (R6.out.below I9.out)).mono ?_; rintro e w10 ⟨rfl, i10⟩
    have I10 := Lib.hid (I9.out.trans (i10.below.mono I9.out.size))
    clear i10
    go_wp2_with fail
    refine (HK.out _ (HRow.out _ (C7.out.trans (I10.out.mono C7.out.size))) (HRd.out _ (C7.out.trans (I10.out.mono C7.out.size)))).mono ?_; rintro e w11 ⟨rfl, i11⟩
    have I11 := Lib.hid (I10.out.trans (i11.below.mono I10.out.size))
    clear i11
    go_wp2_with fail
    go_meet
    case rel => exact ⟨rfl, I11.out⟩
  obtain ⟨rfl, hj⟩ := hcut
  have J := Lib.hid hj
  clear hj
  have OA := Lib.hid (OA.out.below J.out)
  have FA := Lib.hid (FA.out.below J.out)
  have OB := Lib.hid (OB.out.below J.out)
  have FB := Lib.hid (FB.out.below J.out)
  have OC := Lib.hid (OC.out.below J.out)
  have FC := Lib.hid (FC.out.below J.out)
  have OX := Lib.hid (OX.out.below J.out)
  go_wp2_with fail
  refine (HO.out _ _ _ A OA.out FA.out).mono ?_; rintro e w8 ⟨rfl, q8⟩
  have Q8 := Lib.hid q8
  clear q8
  go_wp2_with fail
  refine (HO.out _ _ _ B (OB.out.only Q8.out (fun k h1 h2 => by have := LA.out k h2; have := LB.out k h1; omega)) (FB.out.only Q8.out (fun k h1 h2 => by have := LA.out k h2; have := LB.out k h1; omega))).mono ?_; rintro e w9 ⟨rfl, q9⟩
  have Q9 := Lib.hid q9
  clear q9
  go_wp2_with fail
  refine (HO.out _ _ _ C ((OC.out.only Q8.out (fun k h1 h2 => by have := LA.out k h2; have := LC.out k h1; omega)).only Q9.out (fun k h1 h2 => by have := LB.out k h2; have := LC.out k h1; omega)) ((FC.out.only Q8.out (fun k h1 h2 => by have := LA.out k h2; have := LC.out k h1; omega)).only Q9.out (fun k h1 h2 => by have := LB.out k h2; have := LC.out k h1; omega))).mono ?_; rintro e w10 ⟨rfl, q10⟩
  have Q10 := Lib.hid q10
  clear q10
  have RX := Lib.hid (breads_here (((OX.out.only Q8.out (fun k h1 h2 => by have := LA.out k h2; have := LX.out k h1; omega)).only Q9.out (fun k h1 h2 => by have := LB.out k h2; have := LX.out k h1; omega)).only Q10.out (fun k h1 h2 => by have := LC.out k h2; have := LX.out k h1; omega)))
  have B8 := Lib.hid (Q8.out.below (B := w1.heap.size) (fun k h => (LA.out k h).1))
  have B9 := Lib.hid (Q9.out.below (B := w1.heap.size) (fun k h => by have := (LB.out k h).1; omega))
  have B10 := Lib.hid (Q10.out.below (B := w1.heap.size) (fun k h => by have := (LC.out k h).1; omega))
  have BW := Lib.hid (((C7.out.trans (J.out.mono C7.out.size)).trans B8.out).trans (B9.out.trans B10.out))
  clear B8 B9 B10 OA FA OB FB OC FC OX OY OZ
  go_wp2_with fail
  refine (HP1.out _).mono ?_; rintro e w11 ⟨v11, rfl, o11, _, j11⟩
  obtain ⟨a11, cap11, rfl, r11, _⟩ := breads_of_owns o11
  have R11 := Lib.hid r11
  have J11 := Lib.hid j11.below
  clear o11 r11 j11
  go_wp2_with fail
  refine (HS.out _ _ _ _ _ _ _ A A R11.out (RX.out.below J11.out)).mono ?_; rintro e w12 ⟨rfl, j12⟩
  have J12 := Lib.hid (J11.out.trans (j12.below.mono J11.out.size))
  clear j12
  go_wp2_with fail
  refine (HA.out _).mono ?_; rintro e w13 ⟨rfl, j13⟩
  have J13 := Lib.hid (J12.out.trans (j13.below.mono J12.out.size))
  clear j13
  go_wp2
  go_ret
  exact ⟨rfl, junk_of_below (HB1.out.trans ((BW.out.trans (J13.out.mono BW.out.size)).mono HB1.out.size))⟩
end Go.Proofs.Ytabjhmblfeoiaaa

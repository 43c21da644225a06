/- The law OctetReader: the walk. -/
import Derived.Test.YtabjhmblfeoiaaaOcvA
import Derived.LoopN
namespace Go.Proofs.Ytabjhmblfeoiaaa
set_option linter.unusedVariables false
set_option linter.unusedSimpArgs false
open Go.RowKit

/-- Both readers, as the one is asked, then the other one. -/
def BothD (w2 : World) (a2 : Option Addr) (cap2 : Nat) (a : Option Addr) (cap len : Nat) (x y : Int × Int × Int) (k : Nat) (W : World) : Prop := Both w2 a2 cap2 a cap len (if k = 0 then x else y) (if k ≤ 1 then x else y) W
theorem BothD.toBelow {w2 : World} {a2 a : Option Addr} {cap2 cap len : Nat} {x y : Int × Int × Int} {k : Nat} {W : World} (h : BothD w2 a2 cap2 a cap len x y k W) : Below w2.heap.size w2 W := h.below

/-- The loop: so many calls are made, both readers stand alike. -/
def ReadAt (L : List UInt8) (w2 : World) (a2 : Option Addr) (cap2 : Nat) (a : Option Addr) (cap : Nat) (n : Nat) (i : Value) (wr : World) : Prop :=
  ∃ (k : Nat) (x : Int × Int × Int), i = .int .i64 (k : Int) ∧ k ≤ n ∧ PlaceOk L x ∧ Both w2 a2 cap2 a cap L.length x x wr

set_option maxRecDepth 100000 in
set_option maxHeartbeats 40000000 in
theorem l_octetReader (a : Option Addr) (len cap : Nat) (L : List UInt8) (al : Option Addr) (ln cl : Nat) (K0 K1 K2 : Nat → Int) (w : World) (h : BArg w a len cap L) (hK : ActsAt w al ln K0 K1 K2) :
    Calls Try.prog 5 #[.slice a len cap, .slice al ln cl] w fun e w' => e = .returned (.bool true) ∧ Junk w w' := by
  by_cases hl : 2000 < len
  · have hl' : (2000 : Int) < (len : Int) := by omega
    clear h hK hl
    go_enter Try.func5, Try.ntmps5
    go_wp2
    go_ret
    exact ⟨rfl, junk_of_below (by (repeat' (first | (with_reducible exact Below.refl _ _) | (with_reducible assumption) | (with_reducible refine Below.alloc ?_ ?_ _) | (with_reducible refine Below.drew ?_) | (with_reducible refine below_drewN ?_ _) | (with_reducible refine below_plus ?_ ?_ _ _) | (with_reducible refine Below.setCell ?_ ?_ _) | (with_reducible refine Below.setRow ?_ ?_ _) | go_size)))⟩
  have hl' : ¬ (2000 : Int) < (len : Int) := by omega
  by_cases hn : 200 < ln
  · have hn' : (200 : Int) < (ln : Int) := by omega
    clear h hK hl hn
    go_enter Try.func5, Try.ntmps5
    go_wp2
    go_ret
    exact ⟨rfl, junk_of_below (by (repeat' (first | (with_reducible exact Below.refl _ _) | (with_reducible assumption) | (with_reducible refine Below.alloc ?_ ?_ _) | (with_reducible refine Below.drew ?_) | (with_reducible refine below_drewN ?_ _) | (with_reducible refine below_plus ?_ ?_ _ _) | (with_reducible refine Below.setCell ?_ ?_ _) | (with_reducible refine Below.setRow ?_ ?_ _) | go_size)))⟩
  have hn' : ¬ (200 : Int) < (ln : Int) := by omega
  have hin := h.bin (by omega)
  have hL := h.reads.1
  subst hL
  have HIN := Lib.hid hin
  have HLe := Lib.hid (k_LentBytes w a L.length cap L hin (by omega))
  have HK := Lib.hid (fun W (hg : W.rowAt w.heap.size = some (urow (lentF L) (L.length + 3))) (hb : BIn W a L.length L cap) => k_KeptBytes W w.heap.size a L.length cap L hg hb (by omega))
  have HA := Lib.hid (fun w => l_awake w)
  have HLI := Lib.hid (fun W (hg : W.rowAt w.heap.size = some (urow (lentF L) (L.length + 3))) => bin_lent (w := W) (by omega) hg)
  have HNew := Lib.hid (fun W a len cap L h => n_New W a len cap L h)
  have HKK := Lib.hid hK
  have hsm : L.length ≤ 2000 := by omega
  clear h hin hK hl hn
  go_enter Try.func5, Try.ntmps5
  go_wp2_with fail
  refine HLe.out.mono ?_; rintro e w1 ⟨rfl, d, hw1⟩
  have HB := Lib.hid (show Below w.heap.size w w1 by rw [hw1]; exact below_drewN ((Below.refl _ _).alloc (Nat.le_refl _) _) _)
  have HRow := Lib.hid (show w1.rowAt w.heap.size = some (urow (lentF L) (L.length + 3)) by rw [hw1, rowAt_drewN]; exact rowAt_alloc_at _ _ _ _ rfl)
  have hs1 : w.heap.size < w1.heap.size := by rw [hw1]; simp
  clear hw1
  go_wp2_with fail
  refine (HNew.out w1 _ _ _ L (HLI.out _ HRow.out)).mono ?_; rintro e w5 ⟨w2, a2, cap2, rfl, j2, hin2, rfl⟩
  have HB2 := Lib.hid (HB.out.trans (j2.below.mono HB.out.size))
  have HKR := Lib.hid (fun W (h : Below w2.heap.size w2 W) => (show W.rowAt w.heap.size = some (urow (lentF L) (L.length + 3)) by rw [rowAt_of_block (h.block _ (Nat.lt_of_lt_of_le hs1 j2.below.size)), rowAt_of_block (j2.below.block _ hs1)]; exact HRow.out))
  have HKB := Lib.hid (fun W (h : Below w2.heap.size w2 W) => HIN.out.below (HB2.out.trans (h.mono HB2.out.size)))
  have HK2 := Lib.hid (fun W (h : Below w2.heap.size w2 W) => hin2.below h)
  have HC := Lib.hid (fun k (hk : k < ln) => (show ∃ b off, al = some ⟨b, off, none⟩ ∧ b < w.heap.size ∧ ∀ W, Below w2.heap.size w2 W → W.cell? ⟨b, off + k * 3, none⟩ = some (.int .i64 (K0 k)) ∧ W.cell? ⟨b, off + k * 3 + 1, none⟩ = some (.int .i64 (K1 k)) ∧ W.cell? ⟨b, off + k * 3 + 2, none⟩ = some (.int .i64 (K2 k)) by
    rcases HKK.out.cells with h0 | ⟨b, off, rfl, hc⟩
    · omega
    · obtain ⟨x0, x1, x2⟩ := hc k hk
      have hb := World.block_lt_of_cell? _ _ x0
      refine ⟨b, off, rfl, hb, fun W hW => ?_⟩
      have hbl := (HB2.out.trans (hW.mono HB2.out.size)).block b hb
      exact ⟨by rw [← x0]; exact World.cell?_of_block hbl, by rw [← x1]; exact World.cell?_of_block hbl, by rw [← x2]; exact World.cell?_of_block hbl⟩))
  have HS2 := Lib.hid (Nat.lt_of_lt_of_le hs1 j2.below.size)
  clear j2 hin2 hs1
  go_wp2_with fail
  obtain ⟨w4, hw4⟩ : ∃ w4, w4 = (w2.alloc (.cells (ocells w2.heap.size a2 L.length cap2 0 0 0) 59)).alloc (.cells (rcells a L.length cap 0 0 0) 49) := ⟨_, rfl⟩
  have HS4 : Hid (Both w2 a2 cap2 a cap L.length (0, 0, 0) (0, 0, 0) w4) := Lib.hid (by
    rw [hw4]
    refine ⟨by (repeat' (first | (with_reducible exact Below.refl _ _) | (with_reducible assumption) | (with_reducible refine Below.alloc ?_ ?_ _) | (with_reducible refine Below.drew ?_) | (with_reducible refine below_drewN ?_ _) | (with_reducible refine below_plus ?_ ?_ _ _) | (with_reducible refine Below.setCell ?_ ?_ _) | (with_reducible refine Below.setRow ?_ ?_ _) | go_size)), by simp, ?_, rowAt_alloc_at _ _ _ _ (by simp)⟩
    rw [rowAt_alloc_past _ _ _ (by simp)]
    exact rowAt_alloc_at _ _ _ _ rfl)
  have HW := Lib.hid (show Below w.heap.size w w2 from HB2.out)
  go_loopw [8, 9] (fun i _ wr => ReadAt L w2 a2 cap2 a cap ln i wr) (fun i _ _ => ln - (intOf i).toNat)
  case atStart => exact ⟨0, (0, 0, 0), rfl, Nat.zero_le _, ⟨by simp, by simp⟩, by rw [hw4] at HS4; exact HS4.out⟩
  clear HS4 hw4
  case round =>
    obtain ⟨k, x, rfl, hk, hx, hb⟩ := hrel
    have HBo := Lib.hid hb
    have HX := Lib.hid hx
    have hsz := hb.size
    clear hb hx
    by_cases hlt : k < ln
    · obtain ⟨bl, off, rfl, hbl, hcell⟩ := HC.out k hlt
      obtain ⟨k0, k1, k2⟩ := HKK.out.small k hlt
      have HC0 := Lib.hid (fun W h => (hcell W h).1)
      have HC1 := Lib.hid (fun W h => (hcell W h).2.1)
      have HC2 := Lib.hid (fun W h => (hcell W h).2.2)
      have hcl0 := HC0.out wr HBo.out.below
      clear hcell
      generalize K0 k = kind at *
      generalize K1 k = lo at *
      generalize K2 k = hi at *
      have HLO := Lib.hid k1
      have HHI := Lib.hid k2
      clear k0 k1 k2
      have hbl2 : bl < wr.heap.size := by have := HW.out.size; omega
      have HPL := Lib.hid (show I64 x.1 from ⟨by have := HX.out.1; omega, by have := HX.out.2; omega⟩)
      by_cases hkd : kind = 0
      · have hk0 : (kind == 0) = true := by rw [hkd]; rfl
        clear hkd
        go_upto_region 13 with fail
        refine region_two (BothD w2 a2 cap2 a cap L.length x (nextN (chkP (within lo hi) L x.1) x)) 11 23 2 (by decide) rfl (by intro o h; cases h; decide) (by kernel_rfl) (by kernel_rfl) (show Both w2 a2 cap2 _ cap L.length x x _ from HBo.out.junk (Below.drew (Below.refl _ _))) ?_
        (refine t_ex (by rfl) rfl rfl ?_; apply Exists.intro; refine ⟨fun W => ?_, ?_⟩; (go_simp; with_reducible rfl); go_simp)
        (refine t_ex (by rfl) rfl rfl ?_; apply Exists.intro; refine ⟨fun W => ?_, ?_⟩; (go_simp; with_reducible rfl); go_simp)
        (refine t_ex (by rfl) rfl rfl ?_; apply Exists.intro; refine ⟨fun W => ?_, ?_⟩; (go_simp; with_reducible rfl); go_simp)
        (refine t_ex (by rfl) rfl rfl ?_; apply Exists.intro; refine ⟨fun W => ?_, ?_⟩; (go_simp; with_reducible rfl); go_simp)
        (refine t_ex (by rfl) rfl rfl ?_; apply Exists.intro; refine ⟨fun W => ?_, ?_⟩; (go_simp; with_reducible rfl); go_simp)
        (refine t_read (by rfl) rfl rfl ?_; apply Exists.intro; refine ⟨fun b' W _ hD => ?_, ?_⟩; (have hcell := HC1.out W hD.toBelow; go_simp; with_reducible rfl); go_simp)
        (refine t_ex (by rfl) rfl rfl ?_; apply Exists.intro; refine ⟨fun W => ?_, ?_⟩; (go_simp; with_reducible rfl); go_simp)
        (refine t_ex (by rfl) rfl rfl ?_; apply Exists.intro; refine ⟨fun W => ?_, ?_⟩; (go_simp; with_reducible rfl); go_simp)
        (refine t_ex (by rfl) rfl rfl ?_; apply Exists.intro; refine ⟨fun W => ?_, ?_⟩; (go_simp; with_reducible rfl); go_simp)
        (refine t_ex (by rfl) rfl rfl ?_; apply Exists.intro; refine ⟨fun W => ?_, ?_⟩; (go_simp; with_reducible rfl); go_simp)
        (refine t_read (by rfl) rfl rfl ?_; apply Exists.intro; refine ⟨fun b' W _ hD => ?_, ?_⟩; (have hcell := HC2.out W hD.toBelow; go_simp; with_reducible rfl); go_simp)
        refine t_write (by rfl) rfl (.int .i64 (numR (chkP (within lo hi) L x.1) x.1 x.2.1 x.2.2).1) (fun W hD => ?_) ?_
        · have hD : Both w2 a2 cap2 _ cap L.length x x W := hD
          show stepUpong _ (Both w2 a2 cap2 _ cap L.length (nextN (chkP (within lo hi) L x.1) x) x) _ _
          unfold stepUpong
          go_simp
          refine (n_Int W _ _ _ _ L (HK2.out W hD.below) x.1 x.2.1 x.2.2 lo hi HPL.out HLO.out HHI.out hD.one _ (Lib.hid rfl)).mono ?_
          rintro e' w' ⟨rfl, ht⟩
          exact ⟨rfl, hD.turn1 ht⟩
        go_simp
        (refine t_ex (by rfl) rfl rfl ?_; apply Exists.intro; refine ⟨fun W => ?_, ?_⟩; (go_simp; with_reducible rfl); go_simp)
        (refine t_ex (by rfl) rfl rfl ?_; apply Exists.intro; refine ⟨fun W => ?_, ?_⟩; (go_simp; with_reducible rfl); go_simp)
        (refine t_ex (by rfl) rfl rfl ?_; apply Exists.intro; refine ⟨fun W => ?_, ?_⟩; (go_simp; with_reducible rfl); go_simp)
        (refine t_ex (by rfl) rfl rfl ?_; apply Exists.intro; refine ⟨fun W => ?_, ?_⟩; (go_simp; with_reducible rfl); go_simp)
        (refine t_ex (by rfl) rfl rfl ?_; apply Exists.intro; refine ⟨fun W => ?_, ?_⟩; (go_simp; with_reducible rfl); go_simp)
        (refine t_read (by rfl) rfl rfl ?_; apply Exists.intro; refine ⟨fun b' W _ hD => ?_, ?_⟩; (have hcell := HC1.out W hD.toBelow; go_simp; with_reducible rfl); go_simp)
        (refine t_ex (by rfl) rfl rfl ?_; apply Exists.intro; refine ⟨fun W => ?_, ?_⟩; (go_simp; with_reducible rfl); go_simp)
        (refine t_ex (by rfl) rfl rfl ?_; apply Exists.intro; refine ⟨fun W => ?_, ?_⟩; (go_simp; with_reducible rfl); go_simp)
        (refine t_ex (by rfl) rfl rfl ?_; apply Exists.intro; refine ⟨fun W => ?_, ?_⟩; (go_simp; with_reducible rfl); go_simp)
        (refine t_ex (by rfl) rfl rfl ?_; apply Exists.intro; refine ⟨fun W => ?_, ?_⟩; (go_simp; with_reducible rfl); go_simp)
        (refine t_read (by rfl) rfl rfl ?_; apply Exists.intro; refine ⟨fun b' W _ hD => ?_, ?_⟩; (have hcell := HC2.out W hD.toBelow; go_simp; with_reducible rfl); go_simp)
        refine t_write2 (by rfl) rfl rfl (.int .i64 (numR (chkP (within lo hi) L x.1) x.1 x.2.1 x.2.2).1) (fun W hD => ?_) ?_
        · have hD : Both w2 a2 cap2 _ cap L.length (nextN (chkP (within lo hi) L x.1) x) x W := hD
          show stepUpong _ (Both w2 a2 cap2 _ cap L.length (nextN (chkP (within lo hi) L x.1) x) (nextN (chkP (within lo hi) L x.1) x)) _ _
          unfold stepUpong
          go_simp
          refine (r_Int W _ _ _ _ L (HKB.out W hD.below) x.1 x.2.1 x.2.2 lo hi HPL.out hD.two _ (Lib.hid rfl)).mono ?_
          rintro e' w' ⟨rfl, ht⟩
          exact ⟨rfl, hD.turn2 ht⟩
        go_simp
        (refine t_ex (by rfl) rfl rfl ?_; apply Exists.intro; refine ⟨fun W => ?_, ?_⟩; (go_simp; with_reducible rfl); go_simp)
        (refine t_ex (by rfl) rfl rfl ?_; apply Exists.intro; refine ⟨fun W => ?_, ?_⟩; (go_simp; with_reducible rfl); go_simp)
        refine t_nil ?_
        intro W hD
        have hD2 : Both w2 a2 cap2 a cap L.length _ _ W := hD
        have HD := Lib.hid hD2
        clear hD hD2
        go_upto_region 20 with fail
        obtain ⟨xn, hxn⟩ : ∃ xn, xn = nextN (chkP (within lo hi) L x.1) x := ⟨_, rfl⟩
        have HBn : Hid (Both w2 a2 cap2 _ cap L.length xn xn _) := Lib.hid (by rw [hxn]; exact HD.out)
        have HPn : Hid (PlaceOk L xn) := Lib.hid (by rw [hxn]; exact place_chk HX.out)
        clear hxn
        refine region_two (fun _ W => Both w2 a2 cap2 _ cap L.length xn xn W) 99 98 0 (by decide) rfl (by intro o h; cases h) (by kernel_rfl) (by kernel_rfl) (HBn.out.junk (Below.drew (Below.refl _ _))) ?_
        iterate 4
          (refine t_ex (by rfl) rfl rfl ?_; apply Exists.intro; refine ⟨fun W => ?_, ?_⟩; (go_simp; with_reducible rfl); go_simp)
        refine t_op (by rfl) rfl rfl (.int .i64 xn.1) (fun _ W _ hD => ?_) ?_
        · show stepUpong _ (fun W => Both w2 a2 cap2 _ cap L.length xn xn W) _ _
          unfold stepUpong
          go_simp
          refine (n_At W _ _ _ _ _ _ _ (Both.one hD)).mono ?_
          rintro e' w' ⟨rfl, hj⟩
          exact ⟨rfl, Both.junk hD hj.below⟩
        go_simp
        iterate 3
          (refine t_ex (by rfl) rfl rfl ?_; apply Exists.intro; refine ⟨fun W => ?_, ?_⟩; (go_simp; with_reducible rfl); go_simp)
        (refine t_read (by rfl) rfl rfl ?_; apply Exists.intro; refine ⟨fun b' W _ hD => ?_, ?_⟩; (have hD : Both w2 a2 cap2 _ cap L.length _ _ W := hD; have y1 := ucell_of_row hD.two 1; simp [rcells] at y1; go_simp; with_reducible rfl); go_simp)
        iterate 4
          (refine t_ex (by rfl) rfl rfl ?_; apply Exists.intro; refine ⟨fun W => ?_, ?_⟩; (go_simp; with_reducible rfl); go_simp)
        refine t_op (by rfl) rfl rfl (.agg #[.int .i64 xn.2.1, .int .i64 xn.2.2]) (fun _ W _ hD => ?_) ?_
        · show stepUpong _ (fun W => Both w2 a2 cap2 _ cap L.length xn xn W) _ _
          unfold stepUpong
          go_simp
          refine (n_Fault W _ _ _ _ _ _ _ (Both.one hD)).mono ?_
          rintro e' w' ⟨rfl, hj⟩
          exact ⟨rfl, Both.junk hD hj.below⟩
        go_simp
        iterate 3
          (refine t_ex (by rfl) rfl rfl ?_; apply Exists.intro; refine ⟨fun W => ?_, ?_⟩; (go_simp; with_reducible rfl); go_simp)
        (refine t_read (by rfl) rfl rfl ?_; apply Exists.intro; refine ⟨fun b' W _ hD => ?_, ?_⟩; (have hD : Both w2 a2 cap2 _ cap L.length _ _ W := hD; have y2 := ucell_of_row hD.two 2; have y3 := ucell_of_row hD.two 3; simp [rcells] at y2 y3; go_simp; with_reducible rfl); go_simp)
        iterate 2
          (refine t_ex (by rfl) rfl rfl ?_; apply Exists.intro; refine ⟨fun W => ?_, ?_⟩; (go_simp; with_reducible rfl); go_simp)
        refine t_nil ?_
        intro W hD
        have HD := Lib.hid hD
        clear hD
        go_wp2_with fail
        go_roundw
        case rel => exact ⟨k + 1, xn, by go_num, by omega, HPn.out, HD.out⟩
        case measure => simp [intOf]; omega
      have n0 : (kind == 0) = false := beq_eq_false_iff_ne.2 hkd
      clear hkd
      by_cases hkd : kind = 1
      · have hk0 : (kind == 1) = true := by rw [hkd]; rfl
        clear hkd
        go_upto_region 15 with fail
        refine region_two (BothD w2 a2 cap2 a cap L.length x (nextT (textP L x.1 hi) x)) 6 13 2 (by decide) rfl (by intro o h; cases h; decide) (by kernel_rfl) (by kernel_rfl) (show Both w2 a2 cap2 _ cap L.length x x _ from HBo.out.junk (Below.drew (Below.refl _ _))) ?_
        (refine t_ex (by rfl) rfl rfl ?_; apply Exists.intro; refine ⟨fun W => ?_, ?_⟩; (go_simp; with_reducible rfl); go_simp)
        (refine t_ex (by rfl) rfl rfl ?_; apply Exists.intro; refine ⟨fun W => ?_, ?_⟩; (go_simp; with_reducible rfl); go_simp)
        (refine t_ex (by rfl) rfl rfl ?_; apply Exists.intro; refine ⟨fun W => ?_, ?_⟩; (go_simp; with_reducible rfl); go_simp)
        (refine t_ex (by rfl) rfl rfl ?_; apply Exists.intro; refine ⟨fun W => ?_, ?_⟩; (go_simp; with_reducible rfl); go_simp)
        (refine t_ex (by rfl) rfl rfl ?_; apply Exists.intro; refine ⟨fun W => ?_, ?_⟩; (go_simp; with_reducible rfl); go_simp)
        (refine t_read (by rfl) rfl rfl ?_; apply Exists.intro; refine ⟨fun b' W _ hD => ?_, ?_⟩; (have hcell := HC2.out W hD.toBelow; go_simp; with_reducible rfl); go_simp)
        refine t_write (by rfl) rfl (.string ⟨(txtR (textP L x.1 hi) x.1 x.2.1 x.2.2).1.toArray⟩) (fun W hD => ?_) ?_
        · have hD : Both w2 a2 cap2 _ cap L.length x x W := hD
          show stepUpong _ (Both w2 a2 cap2 _ cap L.length (nextT (textP L x.1 hi) x) x) _ _
          unfold stepUpong
          go_simp
          refine (n_Text W _ _ _ _ L (HK2.out W hD.below) x.1 x.2.1 x.2.2 hi HPL.out HHI.out hD.one _ (Lib.hid rfl)).mono ?_
          rintro e' w' ⟨rfl, ht⟩
          exact ⟨rfl, hD.turn1 ht⟩
        go_simp
        (refine t_ex (by rfl) rfl rfl ?_; apply Exists.intro; refine ⟨fun W => ?_, ?_⟩; (go_simp; with_reducible rfl); go_simp)
        (refine t_ex (by rfl) rfl rfl ?_; apply Exists.intro; refine ⟨fun W => ?_, ?_⟩; (go_simp; with_reducible rfl); go_simp)
        (refine t_ex (by rfl) rfl rfl ?_; apply Exists.intro; refine ⟨fun W => ?_, ?_⟩; (go_simp; with_reducible rfl); go_simp)
        (refine t_ex (by rfl) rfl rfl ?_; apply Exists.intro; refine ⟨fun W => ?_, ?_⟩; (go_simp; with_reducible rfl); go_simp)
        (refine t_ex (by rfl) rfl rfl ?_; apply Exists.intro; refine ⟨fun W => ?_, ?_⟩; (go_simp; with_reducible rfl); go_simp)
        (refine t_read (by rfl) rfl rfl ?_; apply Exists.intro; refine ⟨fun b' W _ hD => ?_, ?_⟩; (have hcell := HC2.out W hD.toBelow; go_simp; with_reducible rfl); go_simp)
        refine t_write2 (by rfl) rfl rfl (.string ⟨(txtR (textP L x.1 hi) x.1 x.2.1 x.2.2).1.toArray⟩) (fun W hD => ?_) ?_
        · have hD : Both w2 a2 cap2 _ cap L.length (nextT (textP L x.1 hi) x) x W := hD
          show stepUpong _ (Both w2 a2 cap2 _ cap L.length (nextT (textP L x.1 hi) x) (nextT (textP L x.1 hi) x)) _ _
          unfold stepUpong
          go_simp
          refine (r_Text W _ _ _ _ L (HKB.out W hD.below) x.1 x.2.1 x.2.2 hi HPL.out HHI.out hD.two _ (Lib.hid rfl)).mono ?_
          rintro e' w' ⟨rfl, ht⟩
          exact ⟨rfl, hD.turn2 ht⟩
        go_simp
        (refine t_ex (by rfl) rfl rfl ?_; apply Exists.intro; refine ⟨fun W => ?_, ?_⟩; (go_simp; with_reducible rfl); go_simp)
        (refine t_ex (by rfl) rfl rfl ?_; apply Exists.intro; refine ⟨fun W => ?_, ?_⟩; (go_simp; with_reducible rfl); go_simp)
        refine t_nil ?_
        intro W hD
        have hD2 : Both w2 a2 cap2 a cap L.length _ _ W := hD
        have HD := Lib.hid hD2
        clear hD hD2
        go_upto_region 20 with fail
        obtain ⟨xn, hxn⟩ : ∃ xn, xn = nextT (textP L x.1 hi) x := ⟨_, rfl⟩
        have HBn : Hid (Both w2 a2 cap2 _ cap L.length xn xn _) := Lib.hid (by rw [hxn]; exact HD.out)
        have HPn : Hid (PlaceOk L xn) := Lib.hid (by rw [hxn]; exact place_txt HX.out)
        clear hxn
        refine region_two (fun _ W => Both w2 a2 cap2 _ cap L.length xn xn W) 99 98 0 (by decide) rfl (by intro o h; cases h) (by kernel_rfl) (by kernel_rfl) (HBn.out.junk (Below.drew (Below.refl _ _))) ?_
        iterate 4
          (refine t_ex (by rfl) rfl rfl ?_; apply Exists.intro; refine ⟨fun W => ?_, ?_⟩; (go_simp; with_reducible rfl); go_simp)
        refine t_op (by rfl) rfl rfl (.int .i64 xn.1) (fun _ W _ hD => ?_) ?_
        · show stepUpong _ (fun W => Both w2 a2 cap2 _ cap L.length xn xn W) _ _
          unfold stepUpong
          go_simp
          refine (n_At W _ _ _ _ _ _ _ (Both.one hD)).mono ?_
          rintro e' w' ⟨rfl, hj⟩
          exact ⟨rfl, Both.junk hD hj.below⟩
        go_simp
        iterate 3
          (refine t_ex (by rfl) rfl rfl ?_; apply Exists.intro; refine ⟨fun W => ?_, ?_⟩; (go_simp; with_reducible rfl); go_simp)
        (refine t_read (by rfl) rfl rfl ?_; apply Exists.intro; refine ⟨fun b' W _ hD => ?_, ?_⟩; (have hD : Both w2 a2 cap2 _ cap L.length _ _ W := hD; have y1 := ucell_of_row hD.two 1; simp [rcells] at y1; go_simp; with_reducible rfl); go_simp)
        iterate 4
          (refine t_ex (by rfl) rfl rfl ?_; apply Exists.intro; refine ⟨fun W => ?_, ?_⟩; (go_simp; with_reducible rfl); go_simp)
        refine t_op (by rfl) rfl rfl (.agg #[.int .i64 xn.2.1, .int .i64 xn.2.2]) (fun _ W _ hD => ?_) ?_
        · show stepUpong _ (fun W => Both w2 a2 cap2 _ cap L.length xn xn W) _ _
          unfold stepUpong
          go_simp
          refine (n_Fault W _ _ _ _ _ _ _ (Both.one hD)).mono ?_
          rintro e' w' ⟨rfl, hj⟩
          exact ⟨rfl, Both.junk hD hj.below⟩
        go_simp
        iterate 3
          (refine t_ex (by rfl) rfl rfl ?_; apply Exists.intro; refine ⟨fun W => ?_, ?_⟩; (go_simp; with_reducible rfl); go_simp)
        (refine t_read (by rfl) rfl rfl ?_; apply Exists.intro; refine ⟨fun b' W _ hD => ?_, ?_⟩; (have hD : Both w2 a2 cap2 _ cap L.length _ _ W := hD; have y2 := ucell_of_row hD.two 2; have y3 := ucell_of_row hD.two 3; simp [rcells] at y2 y3; go_simp; with_reducible rfl); go_simp)
        iterate 2
          (refine t_ex (by rfl) rfl rfl ?_; apply Exists.intro; refine ⟨fun W => ?_, ?_⟩; (go_simp; with_reducible rfl); go_simp)
        refine t_nil ?_
        intro W hD
        have HD := Lib.hid hD
        clear hD
        go_wp2_with fail
        go_roundw
        case rel => exact ⟨k + 1, xn, by go_num, by omega, HPn.out, HD.out⟩
        case measure => simp [intOf]; omega
      have n1 : (kind == 1) = false := beq_eq_false_iff_ne.2 hkd
      clear hkd
      by_cases hkd : kind = 2
      · have hk0 : (kind == 2) = true := by rw [hkd]; rfl
        clear hkd
        go_upto_region 17 with fail
        refine region_two (BothD w2 a2 cap2 a cap L.length x (nextN (chkP (countE hi) L x.1) x)) 6 13 2 (by decide) rfl (by intro o h; cases h; decide) (by kernel_rfl) (by kernel_rfl) (show Both w2 a2 cap2 _ cap L.length x x _ from HBo.out.junk (Below.drew (Below.refl _ _))) ?_
        (refine t_ex (by rfl) rfl rfl ?_; apply Exists.intro; refine ⟨fun W => ?_, ?_⟩; (go_simp; with_reducible rfl); go_simp)
        (refine t_ex (by rfl) rfl rfl ?_; apply Exists.intro; refine ⟨fun W => ?_, ?_⟩; (go_simp; with_reducible rfl); go_simp)
        (refine t_ex (by rfl) rfl rfl ?_; apply Exists.intro; refine ⟨fun W => ?_, ?_⟩; (go_simp; with_reducible rfl); go_simp)
        (refine t_ex (by rfl) rfl rfl ?_; apply Exists.intro; refine ⟨fun W => ?_, ?_⟩; (go_simp; with_reducible rfl); go_simp)
        (refine t_ex (by rfl) rfl rfl ?_; apply Exists.intro; refine ⟨fun W => ?_, ?_⟩; (go_simp; with_reducible rfl); go_simp)
        (refine t_read (by rfl) rfl rfl ?_; apply Exists.intro; refine ⟨fun b' W _ hD => ?_, ?_⟩; (have hcell := HC2.out W hD.toBelow; go_simp; with_reducible rfl); go_simp)
        refine t_write (by rfl) rfl (.int .i64 (numR (chkP (countE hi) L x.1) x.1 x.2.1 x.2.2).1) (fun W hD => ?_) ?_
        · have hD : Both w2 a2 cap2 _ cap L.length x x W := hD
          show stepUpong _ (Both w2 a2 cap2 _ cap L.length (nextN (chkP (countE hi) L x.1) x) x) _ _
          unfold stepUpong
          go_simp
          refine (n_Count W _ _ _ _ L (HK2.out W hD.below) x.1 x.2.1 x.2.2 hi HPL.out HHI.out hD.one _ (Lib.hid rfl)).mono ?_
          rintro e' w' ⟨rfl, ht⟩
          exact ⟨rfl, hD.turn1 ht⟩
        go_simp
        (refine t_ex (by rfl) rfl rfl ?_; apply Exists.intro; refine ⟨fun W => ?_, ?_⟩; (go_simp; with_reducible rfl); go_simp)
        (refine t_ex (by rfl) rfl rfl ?_; apply Exists.intro; refine ⟨fun W => ?_, ?_⟩; (go_simp; with_reducible rfl); go_simp)
        (refine t_ex (by rfl) rfl rfl ?_; apply Exists.intro; refine ⟨fun W => ?_, ?_⟩; (go_simp; with_reducible rfl); go_simp)
        (refine t_ex (by rfl) rfl rfl ?_; apply Exists.intro; refine ⟨fun W => ?_, ?_⟩; (go_simp; with_reducible rfl); go_simp)
        (refine t_ex (by rfl) rfl rfl ?_; apply Exists.intro; refine ⟨fun W => ?_, ?_⟩; (go_simp; with_reducible rfl); go_simp)
        (refine t_read (by rfl) rfl rfl ?_; apply Exists.intro; refine ⟨fun b' W _ hD => ?_, ?_⟩; (have hcell := HC2.out W hD.toBelow; go_simp; with_reducible rfl); go_simp)
        refine t_write2 (by rfl) rfl rfl (.int .i64 (numR (chkP (countE hi) L x.1) x.1 x.2.1 x.2.2).1) (fun W hD => ?_) ?_
        · have hD : Both w2 a2 cap2 _ cap L.length (nextN (chkP (countE hi) L x.1) x) x W := hD
          show stepUpong _ (Both w2 a2 cap2 _ cap L.length (nextN (chkP (countE hi) L x.1) x) (nextN (chkP (countE hi) L x.1) x)) _ _
          unfold stepUpong
          go_simp
          refine (r_Count W _ _ _ _ L (HKB.out W hD.below) x.1 x.2.1 x.2.2 hi HPL.out hD.two _ (Lib.hid rfl)).mono ?_
          rintro e' w' ⟨rfl, ht⟩
          exact ⟨rfl, hD.turn2 ht⟩
        go_simp
        (refine t_ex (by rfl) rfl rfl ?_; apply Exists.intro; refine ⟨fun W => ?_, ?_⟩; (go_simp; with_reducible rfl); go_simp)
        (refine t_ex (by rfl) rfl rfl ?_; apply Exists.intro; refine ⟨fun W => ?_, ?_⟩; (go_simp; with_reducible rfl); go_simp)
        refine t_nil ?_
        intro W hD
        have hD2 : Both w2 a2 cap2 a cap L.length _ _ W := hD
        have HD := Lib.hid hD2
        clear hD hD2
        go_upto_region 20 with fail
        obtain ⟨xn, hxn⟩ : ∃ xn, xn = nextN (chkP (countE hi) L x.1) x := ⟨_, rfl⟩
        have HBn : Hid (Both w2 a2 cap2 _ cap L.length xn xn _) := Lib.hid (by rw [hxn]; exact HD.out)
        have HPn : Hid (PlaceOk L xn) := Lib.hid (by rw [hxn]; exact place_chk HX.out)
        clear hxn
        refine region_two (fun _ W => Both w2 a2 cap2 _ cap L.length xn xn W) 99 98 0 (by decide) rfl (by intro o h; cases h) (by kernel_rfl) (by kernel_rfl) (HBn.out.junk (Below.drew (Below.refl _ _))) ?_
        iterate 4
          (refine t_ex (by rfl) rfl rfl ?_; apply Exists.intro; refine ⟨fun W => ?_, ?_⟩; (go_simp; with_reducible rfl); go_simp)
        refine t_op (by rfl) rfl rfl (.int .i64 xn.1) (fun _ W _ hD => ?_) ?_
        · show stepUpong _ (fun W => Both w2 a2 cap2 _ cap L.length xn xn W) _ _
          unfold stepUpong
          go_simp
          refine (n_At W _ _ _ _ _ _ _ (Both.one hD)).mono ?_
          rintro e' w' ⟨rfl, hj⟩
          exact ⟨rfl, Both.junk hD hj.below⟩
        go_simp
        iterate 3
          (refine t_ex (by rfl) rfl rfl ?_; apply Exists.intro; refine ⟨fun W => ?_, ?_⟩; (go_simp; with_reducible rfl); go_simp)
        (refine t_read (by rfl) rfl rfl ?_; apply Exists.intro; refine ⟨fun b' W _ hD => ?_, ?_⟩; (have hD : Both w2 a2 cap2 _ cap L.length _ _ W := hD; have y1 := ucell_of_row hD.two 1; simp [rcells] at y1; go_simp; with_reducible rfl); go_simp)
        iterate 4
          (refine t_ex (by rfl) rfl rfl ?_; apply Exists.intro; refine ⟨fun W => ?_, ?_⟩; (go_simp; with_reducible rfl); go_simp)
        refine t_op (by rfl) rfl rfl (.agg #[.int .i64 xn.2.1, .int .i64 xn.2.2]) (fun _ W _ hD => ?_) ?_
        · show stepUpong _ (fun W => Both w2 a2 cap2 _ cap L.length xn xn W) _ _
          unfold stepUpong
          go_simp
          refine (n_Fault W _ _ _ _ _ _ _ (Both.one hD)).mono ?_
          rintro e' w' ⟨rfl, hj⟩
          exact ⟨rfl, Both.junk hD hj.below⟩
        go_simp
        iterate 3
          (refine t_ex (by rfl) rfl rfl ?_; apply Exists.intro; refine ⟨fun W => ?_, ?_⟩; (go_simp; with_reducible rfl); go_simp)
        (refine t_read (by rfl) rfl rfl ?_; apply Exists.intro; refine ⟨fun b' W _ hD => ?_, ?_⟩; (have hD : Both w2 a2 cap2 _ cap L.length _ _ W := hD; have y2 := ucell_of_row hD.two 2; have y3 := ucell_of_row hD.two 3; simp [rcells] at y2 y3; go_simp; with_reducible rfl); go_simp)
        iterate 2
          (refine t_ex (by rfl) rfl rfl ?_; apply Exists.intro; refine ⟨fun W => ?_, ?_⟩; (go_simp; with_reducible rfl); go_simp)
        refine t_nil ?_
        intro W hD
        have HD := Lib.hid hD
        clear hD
        go_wp2_with fail
        go_roundw
        case rel => exact ⟨k + 1, xn, by go_num, by omega, HPn.out, HD.out⟩
        case measure => simp [intOf]; omega
      have n2 : (kind == 2) = false := beq_eq_false_iff_ne.2 hkd
      clear hkd
      by_cases hkd : kind = 3
      · have hk0 : (kind == 3) = true := by rw [hkd]; rfl
        clear hkd
        go_wp2_with fail
        refine (n_End _ _ _ _ _ L rfl (by omega) _ _ _ HBo.out.one _ (Lib.hid rfl)).mono ?_; rintro e' w' ⟨rfl, hj⟩
        have HBp := Lib.hid (HBo.out.junk hj.below)
        clear hj
        go_wp2_with fail
        refine (r_End _ _ _ _ _ L rfl (by omega) _ _ _ HBp.out.two _ (Lib.hid rfl)).mono ?_; rintro e' w' ⟨rfl, hj⟩
        have HBq := Lib.hid (HBp.out.junk hj.below)
        clear hj
        go_upto_region 20 with fail
        obtain ⟨xn, hxn⟩ : ∃ xn, xn = x := ⟨_, rfl⟩
        have HBn : Hid (Both w2 a2 cap2 _ cap L.length xn xn _) := Lib.hid (by rw [hxn]; exact HBq.out)
        have HPn : Hid (PlaceOk L xn) := Lib.hid (by rw [hxn]; exact HX.out)
        clear hxn
        refine region_two (fun _ W => Both w2 a2 cap2 _ cap L.length xn xn W) 99 98 0 (by decide) rfl (by intro o h; cases h) (by kernel_rfl) (by kernel_rfl) (HBn.out.junk (Below.drew (Below.refl _ _))) ?_
        iterate 4
          (refine t_ex (by rfl) rfl rfl ?_; apply Exists.intro; refine ⟨fun W => ?_, ?_⟩; (go_simp; with_reducible rfl); go_simp)
        refine t_op (by rfl) rfl rfl (.int .i64 xn.1) (fun _ W _ hD => ?_) ?_
        · show stepUpong _ (fun W => Both w2 a2 cap2 _ cap L.length xn xn W) _ _
          unfold stepUpong
          go_simp
          refine (n_At W _ _ _ _ _ _ _ (Both.one hD)).mono ?_
          rintro e' w' ⟨rfl, hj⟩
          exact ⟨rfl, Both.junk hD hj.below⟩
        go_simp
        iterate 3
          (refine t_ex (by rfl) rfl rfl ?_; apply Exists.intro; refine ⟨fun W => ?_, ?_⟩; (go_simp; with_reducible rfl); go_simp)
        (refine t_read (by rfl) rfl rfl ?_; apply Exists.intro; refine ⟨fun b' W _ hD => ?_, ?_⟩; (have hD : Both w2 a2 cap2 _ cap L.length _ _ W := hD; have y1 := ucell_of_row hD.two 1; simp [rcells] at y1; go_simp; with_reducible rfl); go_simp)
        iterate 4
          (refine t_ex (by rfl) rfl rfl ?_; apply Exists.intro; refine ⟨fun W => ?_, ?_⟩; (go_simp; with_reducible rfl); go_simp)
        refine t_op (by rfl) rfl rfl (.agg #[.int .i64 xn.2.1, .int .i64 xn.2.2]) (fun _ W _ hD => ?_) ?_
        · show stepUpong _ (fun W => Both w2 a2 cap2 _ cap L.length xn xn W) _ _
          unfold stepUpong
          go_simp
          refine (n_Fault W _ _ _ _ _ _ _ (Both.one hD)).mono ?_
          rintro e' w' ⟨rfl, hj⟩
          exact ⟨rfl, Both.junk hD hj.below⟩
        go_simp
        iterate 3
          (refine t_ex (by rfl) rfl rfl ?_; apply Exists.intro; refine ⟨fun W => ?_, ?_⟩; (go_simp; with_reducible rfl); go_simp)
        (refine t_read (by rfl) rfl rfl ?_; apply Exists.intro; refine ⟨fun b' W _ hD => ?_, ?_⟩; (have hD : Both w2 a2 cap2 _ cap L.length _ _ W := hD; have y2 := ucell_of_row hD.two 2; have y3 := ucell_of_row hD.two 3; simp [rcells] at y2 y3; go_simp; with_reducible rfl); go_simp)
        iterate 2
          (refine t_ex (by rfl) rfl rfl ?_; apply Exists.intro; refine ⟨fun W => ?_, ?_⟩; (go_simp; with_reducible rfl); go_simp)
        refine t_nil ?_
        intro W hD
        have HD := Lib.hid hD
        clear hD
        go_wp2_with fail
        go_roundw
        case rel => exact ⟨k + 1, xn, by go_num, by omega, HPn.out, HD.out⟩
        case measure => simp [intOf]; omega
      · have n3 : (kind == 3) = false := beq_eq_false_iff_ne.2 hkd
        clear hkd
        go_upto_region 20 with fail
        obtain ⟨xn, hxn⟩ : ∃ xn, xn = x := ⟨_, rfl⟩
        have HBn : Hid (Both w2 a2 cap2 _ cap L.length xn xn _) := Lib.hid (by rw [hxn]; exact HBo.out)
        have HPn : Hid (PlaceOk L xn) := Lib.hid (by rw [hxn]; exact HX.out)
        clear hxn
        refine region_two (fun _ W => Both w2 a2 cap2 _ cap L.length xn xn W) 99 98 0 (by decide) rfl (by intro o h; cases h) (by kernel_rfl) (by kernel_rfl) (HBn.out.junk (Below.drew (Below.refl _ _))) ?_
        iterate 4
          (refine t_ex (by rfl) rfl rfl ?_; apply Exists.intro; refine ⟨fun W => ?_, ?_⟩; (go_simp; with_reducible rfl); go_simp)
        refine t_op (by rfl) rfl rfl (.int .i64 xn.1) (fun _ W _ hD => ?_) ?_
        · show stepUpong _ (fun W => Both w2 a2 cap2 _ cap L.length xn xn W) _ _
          unfold stepUpong
          go_simp
          refine (n_At W _ _ _ _ _ _ _ (Both.one hD)).mono ?_
          rintro e' w' ⟨rfl, hj⟩
          exact ⟨rfl, Both.junk hD hj.below⟩
        go_simp
        iterate 3
          (refine t_ex (by rfl) rfl rfl ?_; apply Exists.intro; refine ⟨fun W => ?_, ?_⟩; (go_simp; with_reducible rfl); go_simp)
        (refine t_read (by rfl) rfl rfl ?_; apply Exists.intro; refine ⟨fun b' W _ hD => ?_, ?_⟩; (have hD : Both w2 a2 cap2 _ cap L.length _ _ W := hD; have y1 := ucell_of_row hD.two 1; simp [rcells] at y1; go_simp; with_reducible rfl); go_simp)
        iterate 4
          (refine t_ex (by rfl) rfl rfl ?_; apply Exists.intro; refine ⟨fun W => ?_, ?_⟩; (go_simp; with_reducible rfl); go_simp)
        refine t_op (by rfl) rfl rfl (.agg #[.int .i64 xn.2.1, .int .i64 xn.2.2]) (fun _ W _ hD => ?_) ?_
        · show stepUpong _ (fun W => Both w2 a2 cap2 _ cap L.length xn xn W) _ _
          unfold stepUpong
          go_simp
          refine (n_Fault W _ _ _ _ _ _ _ (Both.one hD)).mono ?_
          rintro e' w' ⟨rfl, hj⟩
          exact ⟨rfl, Both.junk hD hj.below⟩
        go_simp
        iterate 3
          (refine t_ex (by rfl) rfl rfl ?_; apply Exists.intro; refine ⟨fun W => ?_, ?_⟩; (go_simp; with_reducible rfl); go_simp)
        (refine t_read (by rfl) rfl rfl ?_; apply Exists.intro; refine ⟨fun b' W _ hD => ?_, ?_⟩; (have hD : Both w2 a2 cap2 _ cap L.length _ _ W := hD; have y2 := ucell_of_row hD.two 2; have y3 := ucell_of_row hD.two 3; simp [rcells] at y2 y3; go_simp; with_reducible rfl); go_simp)
        iterate 2
          (refine t_ex (by rfl) rfl rfl ?_; apply Exists.intro; refine ⟨fun W => ?_, ?_⟩; (go_simp; with_reducible rfl); go_simp)
        refine t_nil ?_
        intro W hD
        have HD := Lib.hid hD
        clear hD
        go_wp2_with fail
        go_roundw
        case rel => exact ⟨k + 1, xn, by go_num, by omega, HPn.out, HD.out⟩
        case measure => simp [intOf]; omega
    · obtain rfl : k = ln := by omega
      go_wp2_with fail
      refine (n_End _ _ _ _ _ L rfl (by omega) _ _ _ HBo.out.one _ (Lib.hid rfl)).mono ?_; rintro e' w' ⟨rfl, hj⟩
      have HBp := Lib.hid (HBo.out.junk hj.below)
      clear hj
      go_wp2_with fail
      refine (r_End _ _ _ _ _ L rfl (by omega) _ _ _ HBp.out.two _ (Lib.hid rfl)).mono ?_; rintro e' w' ⟨rfl, hj⟩
      have HBq := Lib.hid (HBp.out.junk hj.below)
      clear hj
      go_wp2_with fail
      refine (HK.out _ (HKR.out _ HBq.out.below) (HKB.out _ HBq.out.below)).mono ?_; rintro e' w' ⟨rfl, hj⟩
      have HBr := Lib.hid (HBq.out.junk hj.below)
      clear hj
      go_wp2_with fail
      refine (HA.out _).mono ?_; rintro e' w' ⟨rfl, hj⟩
      have HBs := Lib.hid (HBr.out.junk hj.below)
      clear hj
      go_wp2
      go_ret
      exact ⟨rfl, junk_of_below (HW.out.trans (HBs.out.below.mono HW.out.size))⟩
end Go.Proofs.Ytabjhmblfeoiaaa

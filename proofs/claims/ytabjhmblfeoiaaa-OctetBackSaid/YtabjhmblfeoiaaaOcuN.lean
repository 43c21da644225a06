/- The law OctetBack: what is put is got. -/
import Derived.Test.YtabjhmblfeoiaaaOcuO
import Derived.Test.YtabjhmblfeoiaaaOcxB
import Derived.Test.YtabjhmblfeoiaaaQThree
namespace Go.Proofs.Ytabjhmblfeoiaaa
set_option linter.unusedVariables false
set_option linter.unusedSimpArgs false
open Go.RowKit

theorem get_back' (A B : List UInt8) {n : Int} (h : I64 n) : getP (A ++ encN n ++ B) (A.length : Int) = (n, (A.length : Int) + (encN n).length, 0, 0) := by
  rw [List.append_assoc]; exact get_back A B h rfl
theorem text_back' (A s B : List UInt8) (h : s.length ≤ 1000) : textP (A ++ encT s ++ B) (A.length : Int) (s.length : Int) = (s, (A.length : Int) + (encT s).length, 0, 0) := by
  rw [List.append_assoc]; exact text_back A s B (Int.le_refl _) (by omega) rfl
theorem list_back' (A B : List UInt8) {l : List Int} (hx : ∀ x ∈ l, I64 x) (h : l.length ≤ 1000) : listP (A ++ encL l ++ B) (A.length : Int) (l.length : Int) = (l, (A.length : Int) + (encL l).length, 0, 0) := by
  rw [List.append_assoc]; exact list_back A B hx (Int.le_refl _) (by omega) rfl

/-- What was read from the front on stands there. -/
theorem get_front {L : List UInt8} {n q a : Int} (h : getP L 0 = (n, q, 0, a)) : I64 n ∧ ∃ k : Nat, q = k ∧ k ≤ L.length ∧ L.take k = encN n := by
  obtain ⟨h1, _, i, k, h2, h3, h4, h5⟩ := get_canon h
  obtain rfl : i = 0 := by omega
  exact ⟨h1, k, by omega, by omega, by simpa using h5⟩
theorem text_front {L : List UInt8} {most q a : Int} {s : List UInt8} (h : textP L 0 most = (s, q, 0, a)) : (s.length : Int) ≤ most ∧ ∃ k : Nat, q = k ∧ k ≤ L.length ∧ L.take k = encT s := by
  obtain ⟨_, h1, i, k, h2, h3, h4, h5⟩ := text_canon h
  obtain rfl : i = 0 := by omega
  exact ⟨h1, k, by omega, by omega, by simpa using h5⟩
theorem list_front {L : List UInt8} {most q a : Int} {l : List Int} (h : listP L 0 most = (l, q, 0, a)) : (l.length : Int) ≤ most ∧ (∀ x ∈ l, I64 x) ∧ ∃ k : Nat, q = k ∧ k ≤ L.length ∧ L.take k = encL l := by
  obtain ⟨_, h1, h6, i, k, h2, h3, h4, h5⟩ := list_canon h
  obtain rfl : i = 0 := by omega
  exact ⟨h1, h6, k, by omega, by omega, by simpa using h5⟩

theorem fault_cell {W : World} {g : Nat} {e f : Int} (h : FaultAt W (.pointer (some ⟨g, 0, none⟩)) e f) : W.cell? ⟨g, 0, none⟩ = some (.int .i64 e) := by
  obtain ⟨k, hp, hg, hr⟩ := h
  cases hp
  have h := ucell_of_row hr 0
  simpa using h
/-- The classes of the worlds in a region whose callees make memory: one world each. -/
def DCls (wc w0 : World) (T1 T2 : Value × World) (E1 E2 : List UInt8) (b : Nat) (W : World) : Prop :=
  Below wc.heap.size wc W ∧ (b = 0 → W = w0) ∧ ((b = 1 ∨ b = 2) → W = T1.2 ∧ ∃ base, BOwns W base T1.1 E1) ∧ (b = 3 → W = T2.2 ∧ ∃ base, BOwns W base T2.1 E2)
theorem DCls.one {wc w0 : World} {T : Value × World} {E : List UInt8} {b : Nat} {W : World} (h : DCls wc w0 T T E E b W) (h1 : 1 ≤ b) (h2 : b ≤ 3) : W = T.2 ∧ ∃ base, BOwns W base T.1 E := by
  by_cases h3 : b = 3
  · exact h.2.2.2 h3
  · exact h.2.2.1 (by omega)
theorem DCls.zero {wc w0 : World} {T1 T2 : Value × World} {E1 E2 : List UInt8} (hB : Below wc.heap.size wc w0) : DCls wc w0 T1 T2 E1 E2 0 w0 := ⟨hB, fun _ => rfl, fun h => by omega, fun h => by omega⟩
theorem DCls.first {wc w0 : World} {T1 T2 : Value × World} {E1 E2 : List UInt8} {base : Nat} (hB : Below wc.heap.size wc T1.2) (h : BOwns T1.2 base T1.1 E1) : DCls wc w0 T1 T2 E1 E2 1 T1.2 := ⟨hB, fun h => by omega, fun _ => ⟨rfl, base, h⟩, fun h => by omega⟩
theorem DCls.second {wc w0 : World} {T1 T2 : Value × World} {E1 E2 : List UInt8} {W : World} (h : DCls wc w0 T1 T2 E1 E2 1 W) : DCls wc w0 T1 T2 E1 E2 2 W := ⟨h.1, fun h => by omega, fun _ => h.2.2.1 (.inl rfl), fun h => by omega⟩
theorem DCls.third {wc w0 : World} {T1 T2 : Value × World} {E1 E2 : List UInt8} {base : Nat} (hB : Below wc.heap.size wc T2.2) (h : BOwns T2.2 base T2.1 E2) : DCls wc w0 T1 T2 E1 E2 3 T2.2 := ⟨hB, fun h => by omega, fun h => by omega, fun _ => ⟨rfl, base, h⟩⟩

set_option maxRecDepth 100000 in
set_option maxHeartbeats 40000000 in
theorem l_octetBack (n : Int) (hn : I64 n) (s : List UInt8) (a : Option Addr) (len cap : Nat) (zs : List Int) (aa : Option Addr) (la ca : Nat) (LA : List UInt8) (ab : Option Addr) (lb cb : Nat) (LB : List UInt8) (w : World)
    (hR : Reads w a len zs) (hA : BArg w aa la ca LA) (hB : BArg w ab lb cb LB) :
    Calls Try.prog 7 #[.int .i64 n, .string ⟨s.toArray⟩, .slice a len cap, .slice aa la ca, .slice ab lb cb] w fun e w' => e = .returned (.bool true) ∧ Junk w w' := by
  have HAw := Lib.hid (fun w => l_awake w)
  by_cases hbig : 1000 < s.length ∨ 500 < len ∨ 1000 < la ∨ 1000 < lb
  · have d1 : ((1000 : Int) < (s.length : Int)) = (1000 < s.length) := by simp; omega
    have d2 : ((500 : Int) < (len : Int)) = (500 < len) := by simp; omega
    have d3 : ((1000 : Int) < (la : Int)) = (1000 < la) := by simp; omega
    have d4 : ((1000 : Int) < (lb : Int)) = (1000 < lb) := by simp; omega
    clear hn hR hA hB
    go_enter Try.func7, Try.ntmps7
    go_wp2_with fail
    refine (HAw.out _).mono ?_; rintro e w' ⟨rfl, J, dr, rfl⟩
    go_upto_region 2 with fail
    go_cut [52] from 34 (fun t wx => t = .bool true ∧ wx = w.plus J dr)
    case first =>
      as_aux_lemma =>
        by_cases e1 : 1000 < s.length
        · have : (1000 : Int) < (s.length : Int) := by omega
          clear d1 d2 d3 d4 hbig
          go_wp2_with fail
          go_meet
          case rel => exact ⟨rfl, rfl⟩
        · have f1 : ¬ (1000 : Int) < (s.length : Int) := by omega
          by_cases e2 : 500 < len
          · have : (500 : Int) < (len : Int) := by omega
            clear d1 d2 d3 d4 hbig
            go_wp2_with fail
            go_meet
            case rel => exact ⟨rfl, rfl⟩
          · have f2 : ¬ (500 : Int) < (len : Int) := by omega
            by_cases e3 : 1000 < la
            · have : (1000 : Int) < (la : Int) := by omega
              clear d1 d2 d3 d4 hbig
              go_wp2_with fail
              go_meet
              case rel => exact ⟨rfl, rfl⟩
            · have f3 : ¬ (1000 : Int) < (la : Int) := by omega
              have f4 : (1000 : Int) < (lb : Int) := by omega
              clear d1 d2 d3 d4 hbig
              go_wp2_with fail
              go_meet
              case rel => exact ⟨rfl, rfl⟩
    obtain ⟨rfl, rfl⟩ := hcut
    go_wp2
    go_ret
    exact ⟨rfl, junk_of_below (by (repeat' (first | (with_reducible exact Below.refl _ _) | (with_reducible assumption) | (with_reducible refine Below.alloc ?_ ?_ _) | (with_reducible refine Below.drew ?_) | (with_reducible refine below_drewN ?_ _) | (with_reducible refine below_plus ?_ ?_ _ _) | (with_reducible refine Below.setCell ?_ ?_ _) | (with_reducible refine Below.setRow ?_ ?_ _) | go_size)))⟩
  have hs' : ¬ (1000 : Int) < (s.length : Int) := by omega
  have hl' : ¬ (500 : Int) < (len : Int) := by omega
  have ha' : ¬ (1000 : Int) < (la : Int) := by omega
  have hb' : ¬ (1000 : Int) < (lb : Int) := by omega
  have hLA := hA.reads.1
  have hLB := hB.reads.1
  have hzl := hR.1
  subst hLA; subst hLB; subst hzl
  have HP := Lib.hid (n_Put n hn)
  have HPT := Lib.hid (n_PutText s (by omega))
  have HPL := Lib.hid (fun W (h : Reads W a zs.length zs) => n_PutList W a zs.length cap zs h (by omega))
  have HC := Lib.hid (fun W (h : BIn W aa LA.length LA ca) => k_CopyBytes W aa LA.length ca LA h)
  have HS := Lib.hid (fun W a b n m ca cb L M hL hM => k_SameBytes W a b n m ca cb L M hL hM)
  have hx := reads_i64 hR
  have hA1 := encN_le hn
  have hB1 : (encT s).length ≤ 1010 := by unfold encT; have := encN_le (show I64 (s.length : Int) from ⟨by omega, by omega⟩); simp; omega
  have hC1 : (encL zs).length ≤ 5010 := by have := encL_len hx (by omega); omega
  have E1 := Lib.hid (get_back' LA LB hn)
  have E2 := Lib.hid (text_back' LA s LB (by omega))
  have E3 := Lib.hid (list_back' LA LB hx (by omega))
  have HIA := Lib.hid (hA.bin (by omega))
  have HIB := Lib.hid (hB.bin (by omega))
  have HR := Lib.hid hR
  have hcb := hB.room
  have G1 : (getP LB 0).2.2.1 = 0 → I64 (getP LB 0).1 ∧ ∃ k : Nat, (getP LB 0).2.1 = k ∧ k ≤ LB.length ∧ LB.take k = encN (getP LB 0).1 := fun h => by
    generalize hg : getP LB 0 = g at *
    obtain ⟨m, q, e, f⟩ := g
    obtain rfl : e = 0 := h
    exact get_front hg
  have G2 : (textP LB 0 1000).2.2.1 = 0 → ((textP LB 0 1000).1.length : Int) ≤ 1000 ∧ ∃ k : Nat, (textP LB 0 1000).2.1 = k ∧ k ≤ LB.length ∧ LB.take k = encT (textP LB 0 1000).1 := fun h => by
    generalize hg : textP LB 0 1000 = g at *
    obtain ⟨m, q, e, f⟩ := g
    obtain rfl : e = 0 := h
    exact text_front hg
  have G3 : (listP LB 0 1000).2.2.1 = 0 → ((listP LB 0 1000).1.length : Int) ≤ 1000 ∧ (∀ x ∈ (listP LB 0 1000).1, I64 x) ∧ ∃ k : Nat, (listP LB 0 1000).2.1 = k ∧ k ≤ LB.length ∧ LB.take k = encL (listP LB 0 1000).1 := fun h => by
    generalize hg : listP LB 0 1000 = g at *
    obtain ⟨m, q, e, f⟩ := g
    obtain rfl : e = 0 := h
    exact list_front hg
  have HXL := Lib.hid (listP_i64 LB 0 1000)
  have HG1 := Lib.hid (fun W (h : BIn W ab LB.length LB cb) => n_Get W ab LB.length cb LB h 0 ⟨by decide, by decide⟩ _ (Lib.hid rfl))
  have HG2 := Lib.hid (fun W (h : BIn W ab LB.length LB cb) => n_GetText W ab LB.length cb LB h 0 1000 ⟨by decide, by decide⟩ ⟨by decide, by decide⟩ _ (Lib.hid rfl))
  have HG3 := Lib.hid (fun W (h : BIn W ab LB.length LB cb) => n_GetList W ab LB.length cb LB h 0 1000 ⟨by decide, by decide⟩ ⟨by decide, by decide⟩ _ (Lib.hid rfl))
  generalize getP LB 0 = r1 at *
  generalize textP LB 0 1000 = r2 at *
  generalize listP LB 0 1000 = r3 at *
  obtain ⟨m1, t1, u1, f1⟩ := r1
  obtain ⟨m2, t2, u2', f2⟩ := r2
  obtain ⟨m3, t3, u3', f3⟩ := r3
  have G1 := Lib.hid G1
  have G2 := Lib.hid G2
  have G3 := Lib.hid G3
  have HSI := Lib.hid (fun W a b ca cb (hx : Reads W a zs.length zs) (hy : Reads W b zs.length zs) => k_SameInts a b zs.length zs.length ca cb zs zs W hx hy (by omega) (by omega))
  have HX := Lib.hid hx
  generalize encN n = A at *
  generalize encT s = B at *
  generalize encL zs = C at *
  clear hn hR hA hB hx hbig
  go_enter Try.func7, Try.ntmps7
  go_wp2_with fail
  refine (HAw.out _).mono ?_; rintro e w1 ⟨rfl, j1⟩
  go_wp2_with fail
  refine (HP.out _).mono ?_; rintro e w2 ⟨v, rfl, hown, j2⟩
  obtain ⟨a1, cap1, rfl, hin1⟩ := bin_of_owns hown (by omega)
  clear hown
  go_wp2_with fail
  refine (HPT.out _).mono ?_; rintro e w3 ⟨v, rfl, hown, j3⟩
  obtain ⟨a2, cap2, rfl, hin2⟩ := bin_of_owns hown (by omega)
  clear hown
  have b1 := j1.below
  have b2 := b1.trans (j2.below.mono b1.size)
  have b3 := b2.trans (j3.below.mono b2.size)
  go_wp2_with fail
  refine (HPL.out _ (HR.out.below b3)).mono ?_; rintro e w4 ⟨v, rfl, hown, j4⟩
  obtain ⟨a3, cap3, rfl, hin3⟩ := bin_of_owns hown (by omega)
  clear hown
  have HW := Lib.hid (b3.trans (j4.below.mono b3.size))
  have HI1 := Lib.hid (hin1.below (j3.below.trans (j4.below.mono j3.below.size)))
  have HI2 := Lib.hid (hin2.below j4.below)
  have HI3 := Lib.hid hin3
  have HBW : Hid (Below w4.heap.size w4 w4) := Lib.hid (Below.refl _ _)
  clear hin1 hin2 hin3 j1 j2 j3 j4 b1 b2 b3
  have HIBW := Lib.hid (fun W (h : Below w4.heap.size w4 W) => HIB.out.below (HW.out.trans (h.mono HW.out.size)))
  have HIAW := Lib.hid (fun W (h : Below w4.heap.size w4 W) => HIA.out.below (HW.out.trans (h.mono HW.out.size)))
  obtain ⟨wc, hwc⟩ : ∃ wc, wc = w4 := ⟨_, rfl⟩
  have HBW : Hid (Below w4.heap.size w4 wc) := Lib.hid (by rw [hwc]; exact Below.refl _ _)
  rw [← hwc]
  clear hwc
  go_upto_region 6 with fail
  go_cut [16, 17, 18] from 34 (fun x y p wx => x = .int .i64 n ∧ y = .int .i64 ((LA.length : Int) + A.length) ∧ FaultAt wx p 0 0 ∧ Below wc.heap.size wc wx)
  case first =>
    as_aux_lemma =>
      go_wp2_with fail
      refine (HC.out _ (HIAW.out _ HBW.out)).mono ?_; rintro e w5 ⟨v, rfl, hown, hj⟩
      have HO1 := Lib.hid hown
      have hs1 := hj.below.size
      have HJ1 := Lib.hid hj.below
      have HY1 := Lib.hid ((HI1.out.below HBW.out).below hj.below)
      have HZ1 := Lib.hid (HIBW.out _ (HBW.out.trans (hj.below.mono HBW.out.size)))
      clear hown hj
      go_wp2_with (first
        | (at_builtin; refine wpList_bapp rfl _ _ rfl wc.heap.size _ LA rfl HO1.out a1 A.length cap1 A rfl HY1.out.none HY1.out.reads (by omega) hs1 ?_; intro v6 w6 hown6 hg6; have HB6 := Lib.hid (HJ1.out.grown hg6 hs1 (fun k hk => HO1.out.block k hk)); have HO6 := Lib.hid hown6; clear hown6 hg6)
        | (at_builtin; refine wpList_bapp rfl _ _ rfl wc.heap.size _ (LA ++ A) rfl HO6.out ab LB.length cb LB rfl HZ1.out.none (HIBW.out _ (HBW.out.trans (HB6.out.mono HBW.out.size))).reads (by simp; omega) HB6.out.size ?_; intro v7 w7 hown7 hg7; have HB7 := Lib.hid (HB6.out.grown hg7 HB6.out.size (fun k hk => HO6.out.block k hk)); obtain ⟨a7, cap7, rfl, hin7⟩ := bin_of_owns hown7 (by simp; omega); have HI7 := Lib.hid hin7; clear hown7 hg7 hin7))
      have HI8 := Lib.hid (show BIn w7 a7 (LA.length + (A.length + LB.length)) (LA ++ A ++ LB) cap7 by have h := HI7.out; rwa [show (LA ++ A ++ LB).length = LA.length + (A.length + LB.length) by simp [Nat.add_assoc]] at h)
      refine (n_Get w7 a7 _ cap7 _ HI8.out (LA.length : Int) ⟨by omega, by omega⟩ _ E1).mono ?_; rintro e w' ⟨rfl, J, dr, rfl⟩
      go_wp2_with fail
      go_meet
      case rel => exact ⟨rfl, rfl, fault_here _ _ _ _ (by simp), by exact (HB7.out.trans ((show Below w7.heap.size w7 _ by (repeat' (first | (with_reducible exact Below.refl _ _) | (with_reducible assumption) | (with_reducible refine Below.alloc ?_ ?_ _) | (with_reducible refine Below.drew ?_) | (with_reducible refine below_drewN ?_ _) | (with_reducible refine below_plus ?_ ?_ _ _) | (with_reducible refine Below.setCell ?_ ?_ _) | (with_reducible refine Below.setRow ?_ ?_ _) | go_size))).mono HB7.out.size))⟩
  obtain ⟨rfl, rfl, hf, hj⟩ := hcut
  have HBW' := Lib.hid (show Below w4.heap.size w4 wc from HBW.out.trans (hj.mono HBW.out.size))
  have F6 := Lib.hid hf
  clear hf hj HBW 
  have HBW := HBW'
  clear HBW'
  go_upto_region 7 with fail
  go_cut [19, 20, 21] from 34 (fun x y p wx => x = .string ⟨s.toArray⟩ ∧ y = .int .i64 ((LA.length : Int) + B.length) ∧ FaultAt wx p 0 0 ∧ Below wc.heap.size wc wx)
  case first =>
    as_aux_lemma =>
      go_wp2_with fail
      refine (HC.out _ (HIAW.out _ HBW.out)).mono ?_; rintro e w5 ⟨v, rfl, hown, hj⟩
      have HO1 := Lib.hid hown
      have hs1 := hj.below.size
      have HJ1 := Lib.hid hj.below
      have HY1 := Lib.hid ((HI2.out.below HBW.out).below hj.below)
      have HZ1 := Lib.hid (HIBW.out _ (HBW.out.trans (hj.below.mono HBW.out.size)))
      clear hown hj
      go_wp2_with (first
        | (at_builtin; refine wpList_bapp rfl _ _ rfl wc.heap.size _ LA rfl HO1.out a2 B.length cap2 B rfl HY1.out.none HY1.out.reads (by omega) hs1 ?_; intro v6 w6 hown6 hg6; have HB6 := Lib.hid (HJ1.out.grown hg6 hs1 (fun k hk => HO1.out.block k hk)); have HO6 := Lib.hid hown6; clear hown6 hg6)
        | (at_builtin; refine wpList_bapp rfl _ _ rfl wc.heap.size _ (LA ++ B) rfl HO6.out ab LB.length cb LB rfl HZ1.out.none (HIBW.out _ (HBW.out.trans (HB6.out.mono HBW.out.size))).reads (by simp; omega) HB6.out.size ?_; intro v7 w7 hown7 hg7; have HB7 := Lib.hid (HB6.out.grown hg7 HB6.out.size (fun k hk => HO6.out.block k hk)); obtain ⟨a7, cap7, rfl, hin7⟩ := bin_of_owns hown7 (by simp; omega); have HI7 := Lib.hid hin7; clear hown7 hg7 hin7))
      have HI8 := Lib.hid (show BIn w7 a7 (LA.length + (B.length + LB.length)) (LA ++ B ++ LB) cap7 by have h := HI7.out; rwa [show (LA ++ B ++ LB).length = LA.length + (B.length + LB.length) by simp [Nat.add_assoc]] at h)
      refine (n_GetText w7 a7 _ cap7 _ HI8.out (LA.length : Int) (s.length : Int) ⟨by omega, by omega⟩ ⟨by omega, by omega⟩ _ E2).mono ?_; rintro e w' ⟨rfl, J, dr, rfl⟩
      go_wp2_with fail
      go_meet
      case rel => exact ⟨rfl, rfl, fault_here _ _ _ _ (by simp), by exact (HB7.out.trans ((show Below w7.heap.size w7 _ by (repeat' (first | (with_reducible exact Below.refl _ _) | (with_reducible assumption) | (with_reducible refine Below.alloc ?_ ?_ _) | (with_reducible refine Below.drew ?_) | (with_reducible refine below_drewN ?_ _) | (with_reducible refine below_plus ?_ ?_ _ _) | (with_reducible refine Below.setCell ?_ ?_ _) | (with_reducible refine Below.setRow ?_ ?_ _) | go_size))).mono HB7.out.size))⟩
  obtain ⟨rfl, rfl, hf, hj⟩ := hcut
  have F6' := Lib.hid (F6.out.below hj)
  have HBW' := Lib.hid (show Below w4.heap.size w4 wc from HBW.out.trans (hj.mono HBW.out.size))
  have F7 := Lib.hid hf
  clear hf hj HBW F6
  have F6 := F6'
  clear F6'
  have HBW := HBW'
  clear HBW'
  go_upto_region 8 with fail
  go_cut [22, 23, 24] from 34 (fun x y p wx => ListAtV wx x zs ∧ y = .int .i64 ((LA.length : Int) + C.length) ∧ FaultAt wx p 0 0 ∧ Below wc.heap.size wc wx)
  case first =>
    as_aux_lemma =>
      go_wp2_with fail
      refine (HC.out _ (HIAW.out _ HBW.out)).mono ?_; rintro e w5 ⟨v, rfl, hown, hj⟩
      have HO1 := Lib.hid hown
      have hs1 := hj.below.size
      have HJ1 := Lib.hid hj.below
      have HY1 := Lib.hid ((HI3.out.below HBW.out).below hj.below)
      have HZ1 := Lib.hid (HIBW.out _ (HBW.out.trans (hj.below.mono HBW.out.size)))
      clear hown hj
      go_wp2_with (first
        | (at_builtin; refine wpList_bapp rfl _ _ rfl wc.heap.size _ LA rfl HO1.out a3 C.length cap3 C rfl HY1.out.none HY1.out.reads (by omega) hs1 ?_; intro v6 w6 hown6 hg6; have HB6 := Lib.hid (HJ1.out.grown hg6 hs1 (fun k hk => HO1.out.block k hk)); have HO6 := Lib.hid hown6; clear hown6 hg6)
        | (at_builtin; refine wpList_bapp rfl _ _ rfl wc.heap.size _ (LA ++ C) rfl HO6.out ab LB.length cb LB rfl HZ1.out.none (HIBW.out _ (HBW.out.trans (HB6.out.mono HBW.out.size))).reads (by simp; omega) HB6.out.size ?_; intro v7 w7 hown7 hg7; have HB7 := Lib.hid (HB6.out.grown hg7 HB6.out.size (fun k hk => HO6.out.block k hk)); obtain ⟨a7, cap7, rfl, hin7⟩ := bin_of_owns hown7 (by simp; omega); have HI7 := Lib.hid hin7; clear hown7 hg7 hin7))
      have HI8 := Lib.hid (show BIn w7 a7 (LA.length + (C.length + LB.length)) (LA ++ C ++ LB) cap7 by have h := HI7.out; rwa [show (LA ++ C ++ LB).length = LA.length + (C.length + LB.length) by simp [Nat.add_assoc]] at h)
      refine (n_GetList w7 a7 _ cap7 _ HI8.out (LA.length : Int) (zs.length : Int) ⟨by omega, by omega⟩ ⟨by omega, by omega⟩ _ E3).mono ?_; rintro e w' ⟨v, rfl, hown, J, dr, rfl⟩; have HLV := Lib.hid (list_of_owns hown HX.out); clear hown
      go_wp2_with fail
      go_meet
      case rel => exact ⟨HLV.out.below (by (repeat' (first | (with_reducible exact Below.refl _ _) | (with_reducible assumption) | (with_reducible refine Below.alloc ?_ ?_ _) | (with_reducible refine Below.drew ?_) | (with_reducible refine below_drewN ?_ _) | (with_reducible refine below_plus ?_ ?_ _ _) | (with_reducible refine Below.setCell ?_ ?_ _) | (with_reducible refine Below.setRow ?_ ?_ _) | go_size))), rfl, fault_here _ _ _ _ (by simp), by exact (HB7.out.trans ((show Below w7.heap.size w7 _ by (repeat' (first | (with_reducible exact Below.refl _ _) | (with_reducible assumption) | (with_reducible refine Below.alloc ?_ ?_ _) | (with_reducible refine Below.drew ?_) | (with_reducible refine below_drewN ?_ _) | (with_reducible refine below_plus ?_ ?_ _ _) | (with_reducible refine Below.setCell ?_ ?_ _) | (with_reducible refine Below.setRow ?_ ?_ _) | go_size))).mono HB7.out.size))⟩
  obtain ⟨hv, rfl, hf, hj⟩ := hcut
  have F6' := Lib.hid (F6.out.below hj)
  have F7' := Lib.hid (F7.out.below hj)
  have HBW' := Lib.hid (show Below w4.heap.size w4 wc from HBW.out.trans (hj.mono HBW.out.size))
  have F8 := Lib.hid hf
  have V8 := Lib.hid hv
  clear hf hj hv HBW F6 F7
  have F6 := F6'
  clear F6'
  have F7 := F7'
  clear F7'
  have HBW := HBW'
  clear HBW'
  obtain ⟨va, vcap, rfl, hva⟩ := V8.out
  have HVA := Lib.hid hva
  clear hva V8
  obtain ⟨g6, hp6, hg6, hr6⟩ := F6.out
  subst hp6
  have c60 := ucell_of_row hr6 0
  have z6 := ufrozen_of_row hr6
  simp at c60
  clear hr6 F6
  obtain ⟨g7, hp7, hg7, hr7⟩ := F7.out
  subst hp7
  have c70 := ucell_of_row hr7 0
  have z7 := ufrozen_of_row hr7
  simp at c70
  clear hr7 F7
  obtain ⟨g8, hp8, hg8, hr8⟩ := F8.out
  subst hp8
  have c80 := ucell_of_row hr8 0
  have z8 := ufrozen_of_row hr8
  simp at c80
  clear hr8 F8
  go_upto_region 9 with fail
  go_cut [154] from 34 (fun t wx => t = .bool false ∧ Below wc.heap.size wc wx)
  case first =>
    as_aux_lemma =>
      go_wp2_with fail
      refine (HSI.out _ _ _ _ _ HVA.out (HR.out.below (HW.out.trans (HBW.out.mono HW.out.size)))).mono ?_; rintro e w2 ⟨rfl, J, dr, rfl⟩
      go_wp2_with fail
      go_meet
      case rel => exact ⟨by simp, by (repeat' (first | (with_reducible exact Below.refl _ _) | (with_reducible assumption) | (with_reducible refine Below.alloc ?_ ?_ _) | (with_reducible refine Below.drew ?_) | (with_reducible refine below_drewN ?_ _) | (with_reducible refine below_plus ?_ ?_ _ _) | (with_reducible refine Below.setCell ?_ ?_ _) | (with_reducible refine Below.setRow ?_ ?_ _) | go_size))⟩
  obtain ⟨rfl, hj⟩ := hcut
  have HBW' := Lib.hid (HBW.out.trans (hj.mono HBW.out.size))
  clear hj HBW HVA c60 c70 c80 z6 z7 z8 hg6 hg7 hg8
  have HBW := HBW'
  clear HBW'
  go_upto_region 11 with fail
  go_cut [25, 26, 27] from 34 (fun x y p wx => x = .int .i64 m1 ∧ y = .int .i64 t1 ∧ FaultAt wx p u1 f1 ∧ Below wc.heap.size wc wx)
  case first =>
    as_aux_lemma =>
      go_wp2_with fail
      refine (HG1.out _ (HIBW.out _ HBW.out)).mono ?_; rintro e w' ⟨rfl, J, dr, rfl⟩
      go_wp2_with fail
      go_meet
      case rel => exact ⟨rfl, rfl, fault_here _ _ _ _ (by simp), by (repeat' (first | (with_reducible exact Below.refl _ _) | (with_reducible assumption) | (with_reducible refine Below.alloc ?_ ?_ _) | (with_reducible refine Below.drew ?_) | (with_reducible refine below_drewN ?_ _) | (with_reducible refine below_plus ?_ ?_ _ _) | (with_reducible refine Below.setCell ?_ ?_ _) | (with_reducible refine Below.setRow ?_ ?_ _) | go_size))⟩
  obtain ⟨rfl, rfl, hf, hj⟩ := hcut
  have F1 := Lib.hid hf
  clear hf
  have HBW' := Lib.hid (HBW.out.trans (hj.mono HBW.out.size))
  clear hj HBW
  have HBW := HBW'
  clear HBW'
  go_upto_region 12 with fail
  go_cut [28, 29, 30] from 34 (fun x y p wx => x = .string ⟨m2.toArray⟩ ∧ y = .int .i64 t2 ∧ FaultAt wx p u2' f2 ∧ Below wc.heap.size wc wx)
  case first =>
    as_aux_lemma =>
      go_wp2_with fail
      refine (HG2.out _ (HIBW.out _ HBW.out)).mono ?_; rintro e w' ⟨rfl, J, dr, rfl⟩
      go_wp2_with fail
      go_meet
      case rel => exact ⟨rfl, rfl, fault_here _ _ _ _ (by simp), by (repeat' (first | (with_reducible exact Below.refl _ _) | (with_reducible assumption) | (with_reducible refine Below.alloc ?_ ?_ _) | (with_reducible refine Below.drew ?_) | (with_reducible refine below_drewN ?_ _) | (with_reducible refine below_plus ?_ ?_ _ _) | (with_reducible refine Below.setCell ?_ ?_ _) | (with_reducible refine Below.setRow ?_ ?_ _) | go_size))⟩
  obtain ⟨rfl, rfl, hf, hj⟩ := hcut
  have F1 := Lib.hid (F1.out.below hj)
  have F2 := Lib.hid hf
  clear hf
  have HBW' := Lib.hid (HBW.out.trans (hj.mono HBW.out.size))
  clear hj HBW
  have HBW := HBW'
  clear HBW'
  obtain ⟨k1g, hp1, hg1, hr1⟩ := F1.out
  subst hp1
  have c10 := ucell_of_row hr1 0
  have z1 := ufrozen_of_row hr1
  simp at c10
  have HC1 := Lib.hid (fun W (h : Below wc.heap.size wc W) => fault_cell (F1.out.below h))
  clear hr1
  obtain ⟨k2g, hp2, hg2, hr2⟩ := F2.out
  subst hp2
  have c20 := ucell_of_row hr2 0
  have z2 := ufrozen_of_row hr2
  simp at c20
  have HC2 := Lib.hid (fun W (h : Below wc.heap.size wc W) => fault_cell (F2.out.below h))
  clear hr2
  clear hs' hl' ha' hb' hA1 hB1 hC1 HAw HP HPT HPL HC E1 E2 E3 HIA HIAW HI1 HI2 HI3 HSI HX HR HG1 HG2 F1 F2
  go_upto_region 13 with fail
  go_cut [192] from 34 (fun t wx => t = .bool false ∧ Below wc.heap.size wc wx)
  case first =>
    as_aux_lemma =>
      clear c10 c20 z1 z2 hg1 hg2
      by_cases e1 : u1 = 0
      · subst e1
        obtain ⟨im, k1, hk1, hk1l, hk1t⟩ := G1.out rfl
        obtain rfl : t1 = k1 := hk1
        have HT1 := Lib.hid (fun W (h : Below w4.heap.size w4 W) => (show BReads W ab k1 (encN m1) by rw [← hk1t]; exact breads_take (HIBW.out W h).reads k1 hk1l))
        have hk1c : (k1 : Int) ≤ (cb : Int) := by omega
        clear hk1t
        obtain ⟨Em, hEm⟩ : ∃ E, encN m1 = E := ⟨_, rfl⟩
        rw [hEm] at HT1
        by_cases e2 : u2' = 0
        · subst e2
          obtain ⟨it, k2, hk2, hk2l, hk2t⟩ := G2.out rfl
          obtain rfl : t2 = k2 := hk2
          replace it : (m2.length : Int) ≤ 1000 := it
          have HT2 := Lib.hid (fun W (h : Below w4.heap.size w4 W) => (show BReads W ab k2 (encT m2) by rw [← hk2t]; exact breads_take (HIBW.out W h).reads k2 hk2l))
          have hk2c : (k2 : Int) ≤ (cb : Int) := by omega
          clear hk2t
          obtain ⟨Et, hEt⟩ : ∃ E, encT m2 = E := ⟨_, rfl⟩
          rw [hEt] at HT2
          obtain ⟨T1, hT1⟩ : ∃ T, appNum m1 (.slice none 0 0) { wc with drawn := wc.drawn + 1 } = T := ⟨_, rfl⟩
          have HPm := Lib.hid (d_Put m1 im { wc with drawn := wc.drawn + 1 })
          rw [hT1, hEm] at HPm
          clear hT1
          obtain ⟨T2, hT2⟩ : ∃ T, putT m2 T1.2 = T := ⟨_, rfl⟩
          have HPt := Lib.hid (d_PutText m2 (by omega) T1.2)
          rw [hT2, hEt] at HPt
          clear hT2 hEm hEt im it
          as_aux_lemma =>
            refine region_three (DCls wc { wc with drawn := wc.drawn + 1 } T1 T2 Em Et) 5 9 18 3 (by decide) (by decide) (by decide) rfl (by intro o h; cases h; exact ⟨[], by unfold via; decide⟩) (by intro o h; cases h; exact ⟨[16, 12, 11, 10], by decide, _, rfl, by decide, _, rfl, by decide, _, rfl, by decide, _, rfl, by unfold via; decide⟩) (by kernel_rfl) (by kernel_rfl) (DCls.zero (Below.drew (Below.refl _ _))) ?_
            (refine c_ex (by rfl) rfl ?_; apply Exists.intro; refine ⟨fun W => ?_, ?_⟩; (go_simp; with_reducible rfl); go_simp)
            (refine c_read (by rfl) rfl ?_; apply Exists.intro; refine ⟨fun b' W _ hD => ?_, ?_⟩; (have hcell := HC1.out W hD.1; go_simp; with_reducible rfl); go_simp)
            (refine c_ex (by rfl) rfl ?_; apply Exists.intro; refine ⟨fun W => ?_, ?_⟩; (go_simp; with_reducible rfl); go_simp)
            (refine c_ex (by rfl) rfl ?_; apply Exists.intro; refine ⟨fun W => ?_, ?_⟩; (go_simp; with_reducible rfl); go_simp)
            (refine c_ex (by rfl) rfl ?_; apply Exists.intro; refine ⟨fun W => ?_, ?_⟩; (go_simp; with_reducible rfl); go_simp)
            refine c_write (by rfl) rfl T1.1 (fun W hD => ?_) ?_
            · replace hD : DCls wc { wc with drawn := wc.drawn + 1 } T1 T2 Em Et 0 W := hD
              have hW := hD.2.1 rfl
              subst hW
              show stepUpong _ (DCls wc { wc with drawn := wc.drawn + 1 } T1 T2 Em Et 1) _ _
              unfold stepUpong
              go_simp
              refine (HPm.out).mono ?_
              rintro e' w' ⟨he, hw, ho, hb⟩
              subst he; subst hw
              have hbb := Below.trans (Below.drew (Below.refl wc.heap.size wc)) hb
              exact ⟨rfl, DCls.first hbb ho⟩
            go_simp
            (refine c_ex (by rfl) rfl ?_; apply Exists.intro; refine ⟨fun W => ?_, ?_⟩; (go_simp; with_reducible rfl); go_simp)
            (refine c_ex (by rfl) rfl ?_; apply Exists.intro; refine ⟨fun W => ?_, ?_⟩; (go_simp; with_reducible rfl); go_simp)
            (refine c_ex (by rfl) rfl ?_; apply Exists.intro; refine ⟨fun W => ?_, ?_⟩; (go_simp; first | (with_reducible rfl) | (rw [if_pos (by omega)])); go_simp; try simp only [Int.toNat_natCast])
            refine c_write2 (by rfl) rfl rfl (.bool true) (fun W hD => ?_) ?_
            · replace hD : DCls wc { wc with drawn := wc.drawn + 1 } T1 T2 Em Et 1 W := hD
              obtain ⟨hW, base, ho⟩ := hD.2.2.1 (.inl rfl)
              show stepUpong _ (DCls wc { wc with drawn := wc.drawn + 1 } T1 T2 Em Et 2) _ _
              obtain ⟨a5, cap5, h5, hr5, _⟩ := breads_of_owns ho
              clear hW
              unfold stepUpong
              go_simp
              refine (d_SameBytes W a5 ab _ _ cap5 cb Em Em hr5 (HT1.out _ (HBW.out.trans (hD.1.mono HBW.out.size)))).mono ?_
              rintro e' w' ⟨he, hw⟩
              subst he; subst hw
              exact ⟨by simp, DCls.second hD⟩
            go_simp
            (refine c_ex (by rfl) rfl ?_; apply Exists.intro; refine ⟨fun W => ?_, ?_⟩; (go_simp; with_reducible rfl); go_simp)
            (refine c_ex (by rfl) rfl ?_; apply Exists.intro; refine ⟨fun W => ?_, ?_⟩; (go_simp; with_reducible rfl); go_simp)
            (refine c_ex (by rfl) rfl ?_; apply Exists.intro; refine ⟨fun W => ?_, ?_⟩; (go_simp; with_reducible rfl); go_simp)
            (refine c_ex (by rfl) rfl ?_; apply Exists.intro; refine ⟨fun W => ?_, ?_⟩; (go_simp; with_reducible rfl); go_simp)
            (refine c_read (by rfl) rfl ?_; apply Exists.intro; refine ⟨fun b' W _ hD => ?_, ?_⟩; (have hcell := HC2.out W hD.1; go_simp; with_reducible rfl); go_simp)
            (refine c_ex (by rfl) rfl ?_; apply Exists.intro; refine ⟨fun W => ?_, ?_⟩; (go_simp; with_reducible rfl); go_simp)
            (refine c_ex (by rfl) rfl ?_; apply Exists.intro; refine ⟨fun W => ?_, ?_⟩; (go_simp; with_reducible rfl); go_simp)
            (refine c_ex (by rfl) rfl ?_; apply Exists.intro; refine ⟨fun W => ?_, ?_⟩; (go_simp; with_reducible rfl); go_simp)
            refine c_write3 (by rfl) rfl rfl T2.1 (fun W hD => ?_) ?_
            · replace hD : DCls wc { wc with drawn := wc.drawn + 1 } T1 T2 Em Et 2 W := hD
              have hW := (hD.2.2.1 (.inr rfl)).1
              subst hW
              show stepUpong _ (DCls wc { wc with drawn := wc.drawn + 1 } T1 T2 Em Et 3) _ _
              unfold stepUpong
              go_simp
              refine (HPt.out).mono ?_
              rintro e' w' ⟨he, hw, ho, hb⟩
              subst he; subst hw
              have hbb := Below.trans hD.1 (hb.mono hD.1.size)
              exact ⟨rfl, DCls.third hbb ho⟩
            go_simp
            (refine c_ex (by rfl) rfl ?_; apply Exists.intro; refine ⟨fun W => ?_, ?_⟩; (go_simp; with_reducible rfl); go_simp)
            (refine c_ex (by rfl) rfl ?_; apply Exists.intro; refine ⟨fun W => ?_, ?_⟩; (go_simp; with_reducible rfl); go_simp)
            (refine c_ex (by rfl) rfl ?_; apply Exists.intro; refine ⟨fun W => ?_, ?_⟩; (go_simp; first | (with_reducible rfl) | (rw [if_pos (by omega)])); go_simp; try simp only [Int.toNat_natCast])
            refine c_op (by rfl) rfl (.bool true) (fun b W hb3 h3 h2 h1 hD => ?_) ?_
            · have hbe := h3 (by kernel_rfl)
              subst hbe
              replace hD : DCls wc { wc with drawn := wc.drawn + 1 } T1 T2 Em Et 3 W := hD
              obtain ⟨hW, base, ho⟩ := hD.2.2.2 rfl
              show stepUpong _ (DCls wc { wc with drawn := wc.drawn + 1 } T1 T2 Em Et 3) _ _
              obtain ⟨a5, cap5, h5, hr5, _⟩ := breads_of_owns ho
              clear hW
              unfold stepUpong
              go_simp
              refine (d_SameBytes W a5 ab _ _ cap5 cb Et Et hr5 (HT2.out _ (HBW.out.trans (hD.1.mono HBW.out.size)))).mono ?_
              rintro e' w' ⟨he, hw⟩
              subst he; subst hw
              exact ⟨by simp, hD⟩
            go_simp
            (refine c_ex (by rfl) rfl ?_; apply Exists.intro; refine ⟨fun W => ?_, ?_⟩; (go_simp; with_reducible rfl); go_simp)
            (refine c_ex (by rfl) rfl ?_; apply Exists.intro; refine ⟨fun W => ?_, ?_⟩; (go_simp; with_reducible rfl); go_simp)
            (refine c_ex (by rfl) rfl ?_; apply Exists.intro; refine ⟨fun W => ?_, ?_⟩; (go_simp; with_reducible rfl); go_simp)
            refine c_nil ?_
            intro W hD
            have HD := Lib.hid (show Below wc.heap.size wc W from hD.1)
            clear hD
            go_wp2_with fail
            go_meet
            exact ⟨rfl, HD.out⟩
        · have e2a : (u2' == 0) = false := beq_eq_false_iff_ne.2 e2
          have e2b : decide (u2' = 0) = false := decide_eq_false e2
          obtain ⟨T1, hT1⟩ : ∃ T, appNum m1 (.slice none 0 0) { wc with drawn := wc.drawn + 1 } = T := ⟨_, rfl⟩
          have HPm := Lib.hid (d_Put m1 im { wc with drawn := wc.drawn + 1 })
          rw [hT1, hEm] at HPm
          clear hT1 hEm im
          as_aux_lemma =>
            refine region_three (DCls wc { wc with drawn := wc.drawn + 1 } T1 T1 Em Em) 5 99 98 1 (by decide) (by decide) (by decide) rfl (by intro o h; cases h) (by intro o h; cases h) (by kernel_rfl) (by kernel_rfl) (DCls.zero (Below.drew (Below.refl _ _))) ?_
            (refine c_ex (by rfl) rfl ?_; apply Exists.intro; refine ⟨fun W => ?_, ?_⟩; (go_simp; with_reducible rfl); go_simp)
            (refine c_read (by rfl) rfl ?_; apply Exists.intro; refine ⟨fun b' W _ hD => ?_, ?_⟩; (have hcell := HC1.out W hD.1; go_simp; with_reducible rfl); go_simp)
            (refine c_ex (by rfl) rfl ?_; apply Exists.intro; refine ⟨fun W => ?_, ?_⟩; (go_simp; with_reducible rfl); go_simp)
            (refine c_ex (by rfl) rfl ?_; apply Exists.intro; refine ⟨fun W => ?_, ?_⟩; (go_simp; with_reducible rfl); go_simp)
            (refine c_ex (by rfl) rfl ?_; apply Exists.intro; refine ⟨fun W => ?_, ?_⟩; (go_simp; with_reducible rfl); go_simp)
            refine c_write (by rfl) rfl T1.1 (fun W hD => ?_) ?_
            · replace hD : DCls wc { wc with drawn := wc.drawn + 1 } T1 T1 Em Em 0 W := hD
              have hW := hD.2.1 rfl
              subst hW
              show stepUpong _ (DCls wc { wc with drawn := wc.drawn + 1 } T1 T1 Em Em 1) _ _
              unfold stepUpong
              go_simp
              refine (HPm.out).mono ?_
              rintro e' w' ⟨he, hw, ho, hb⟩
              subst he; subst hw
              have hbb := Below.trans (Below.drew (Below.refl wc.heap.size wc)) hb
              exact ⟨rfl, DCls.first hbb ho⟩
            go_simp
            (refine c_ex (by rfl) rfl ?_; apply Exists.intro; refine ⟨fun W => ?_, ?_⟩; (go_simp; with_reducible rfl); go_simp)
            (refine c_ex (by rfl) rfl ?_; apply Exists.intro; refine ⟨fun W => ?_, ?_⟩; (go_simp; with_reducible rfl); go_simp)
            (refine c_ex (by rfl) rfl ?_; apply Exists.intro; refine ⟨fun W => ?_, ?_⟩; (go_simp; first | (with_reducible rfl) | (rw [if_pos (by omega)])); go_simp; try simp only [Int.toNat_natCast])
            refine c_op (by rfl) rfl (.bool true) (fun b W hb3 h3 h2 h1 hD => ?_) ?_
            · have hbe := h1 (by kernel_rfl)
              replace hD : DCls wc { wc with drawn := wc.drawn + 1 } T1 T1 Em Em b W := hD
              obtain ⟨hW, base, ho⟩ := hD.one hbe hb3
              show stepUpong _ (DCls wc { wc with drawn := wc.drawn + 1 } T1 T1 Em Em b) _ _
              obtain ⟨a5, cap5, h5, hr5, _⟩ := breads_of_owns ho
              clear hW
              unfold stepUpong
              go_simp
              refine (d_SameBytes W a5 ab _ _ cap5 cb Em Em hr5 (HT1.out _ (HBW.out.trans (hD.1.mono HBW.out.size)))).mono ?_
              rintro e' w' ⟨he, hw⟩
              subst he; subst hw
              exact ⟨by simp, hD⟩
            go_simp
            (refine c_ex (by rfl) rfl ?_; apply Exists.intro; refine ⟨fun W => ?_, ?_⟩; (go_simp; with_reducible rfl); go_simp)
            (refine c_ex (by rfl) rfl ?_; apply Exists.intro; refine ⟨fun W => ?_, ?_⟩; (go_simp; with_reducible rfl); go_simp)
            (refine c_ex (by rfl) rfl ?_; apply Exists.intro; refine ⟨fun W => ?_, ?_⟩; (go_simp; with_reducible rfl); go_simp)
            (refine c_ex (by rfl) rfl ?_; apply Exists.intro; refine ⟨fun W => ?_, ?_⟩; (go_simp; with_reducible rfl); go_simp)
            (refine c_read (by rfl) rfl ?_; apply Exists.intro; refine ⟨fun b' W _ hD => ?_, ?_⟩; (have hcell := HC2.out W hD.1; go_simp; with_reducible rfl); go_simp)
            (refine c_ex (by rfl) rfl ?_; apply Exists.intro; refine ⟨fun W => ?_, ?_⟩; (go_simp; (try simp only [e2a, e2b]); with_reducible rfl); go_simp)
            (refine c_ex (by rfl) rfl ?_; apply Exists.intro; refine ⟨fun W => ?_, ?_⟩; (go_simp; with_reducible rfl); go_simp)
            (refine c_skip (by rfl) rfl ?_; go_simp)
            (refine c_skip (by rfl) rfl ?_; go_simp)
            (refine c_skip (by rfl) rfl ?_; go_simp)
            (refine c_skip (by rfl) rfl ?_; go_simp)
            (refine c_skip (by rfl) rfl ?_; go_simp)
            (refine c_skip (by rfl) rfl ?_; go_simp)
            (refine c_skip (by rfl) rfl ?_; go_simp)
            (refine c_ex (by rfl) rfl ?_; apply Exists.intro; refine ⟨fun W => ?_, ?_⟩; (go_simp; with_reducible rfl); go_simp)
            (refine c_ex (by rfl) rfl ?_; apply Exists.intro; refine ⟨fun W => ?_, ?_⟩; (go_simp; with_reducible rfl); go_simp)
            refine c_nil ?_
            intro W hD
            have HD := Lib.hid (show Below wc.heap.size wc W from hD.1)
            clear hD
            go_wp2_with fail
            go_meet
            exact ⟨rfl, HD.out⟩
      · have e1a : (u1 == 0) = false := beq_eq_false_iff_ne.2 e1
        have e1b : decide (u1 = 0) = false := decide_eq_false e1
        by_cases e2 : u2' = 0
        · subst e2
          obtain ⟨it, k2, hk2, hk2l, hk2t⟩ := G2.out rfl
          obtain rfl : t2 = k2 := hk2
          replace it : (m2.length : Int) ≤ 1000 := it
          have HT2 := Lib.hid (fun W (h : Below w4.heap.size w4 W) => (show BReads W ab k2 (encT m2) by rw [← hk2t]; exact breads_take (HIBW.out W h).reads k2 hk2l))
          have hk2c : (k2 : Int) ≤ (cb : Int) := by omega
          clear hk2t
          obtain ⟨Et, hEt⟩ : ∃ E, encT m2 = E := ⟨_, rfl⟩
          rw [hEt] at HT2
          obtain ⟨T2, hT2⟩ : ∃ T, putT m2 { wc with drawn := wc.drawn + 1 } = T := ⟨_, rfl⟩
          have HPt := Lib.hid (d_PutText m2 (by omega) { wc with drawn := wc.drawn + 1 })
          rw [hT2, hEt] at HPt
          clear hT2 hEt it
          as_aux_lemma =>
            refine region_three (DCls wc { wc with drawn := wc.drawn + 1 } T2 T2 Et Et) 18 99 98 1 (by decide) (by decide) (by decide) rfl (by intro o h; cases h) (by intro o h; cases h) (by kernel_rfl) (by kernel_rfl) (DCls.zero (Below.drew (Below.refl _ _))) ?_
            (refine c_ex (by rfl) rfl ?_; apply Exists.intro; refine ⟨fun W => ?_, ?_⟩; (go_simp; with_reducible rfl); go_simp)
            (refine c_read (by rfl) rfl ?_; apply Exists.intro; refine ⟨fun b' W _ hD => ?_, ?_⟩; (have hcell := HC1.out W hD.1; go_simp; with_reducible rfl); go_simp)
            (refine c_ex (by rfl) rfl ?_; apply Exists.intro; refine ⟨fun W => ?_, ?_⟩; (go_simp; (try simp only [e1a, e1b]); with_reducible rfl); go_simp)
            (refine c_ex (by rfl) rfl ?_; apply Exists.intro; refine ⟨fun W => ?_, ?_⟩; (go_simp; with_reducible rfl); go_simp)
            (refine c_skip (by rfl) rfl ?_; go_simp)
            (refine c_skip (by rfl) rfl ?_; go_simp)
            (refine c_skip (by rfl) rfl ?_; go_simp)
            (refine c_skip (by rfl) rfl ?_; go_simp)
            (refine c_skip (by rfl) rfl ?_; go_simp)
            (refine c_skip (by rfl) rfl ?_; go_simp)
            (refine c_skip (by rfl) rfl ?_; go_simp)
            (refine c_ex (by rfl) rfl ?_; apply Exists.intro; refine ⟨fun W => ?_, ?_⟩; (go_simp; with_reducible rfl); go_simp)
            (refine c_ex (by rfl) rfl ?_; apply Exists.intro; refine ⟨fun W => ?_, ?_⟩; (go_simp; with_reducible rfl); go_simp)
            (refine c_ex (by rfl) rfl ?_; apply Exists.intro; refine ⟨fun W => ?_, ?_⟩; (go_simp; with_reducible rfl); go_simp)
            (refine c_read (by rfl) rfl ?_; apply Exists.intro; refine ⟨fun b' W _ hD => ?_, ?_⟩; (have hcell := HC2.out W hD.1; go_simp; with_reducible rfl); go_simp)
            (refine c_ex (by rfl) rfl ?_; apply Exists.intro; refine ⟨fun W => ?_, ?_⟩; (go_simp; with_reducible rfl); go_simp)
            (refine c_ex (by rfl) rfl ?_; apply Exists.intro; refine ⟨fun W => ?_, ?_⟩; (go_simp; with_reducible rfl); go_simp)
            (refine c_ex (by rfl) rfl ?_; apply Exists.intro; refine ⟨fun W => ?_, ?_⟩; (go_simp; with_reducible rfl); go_simp)
            refine c_write (by rfl) rfl T2.1 (fun W hD => ?_) ?_
            · replace hD : DCls wc { wc with drawn := wc.drawn + 1 } T2 T2 Et Et 0 W := hD
              have hW := hD.2.1 rfl
              subst hW
              show stepUpong _ (DCls wc { wc with drawn := wc.drawn + 1 } T2 T2 Et Et 1) _ _
              unfold stepUpong
              go_simp
              refine (HPt.out).mono ?_
              rintro e' w' ⟨he, hw, ho, hb⟩
              subst he; subst hw
              have hbb := Below.trans (Below.drew (Below.refl wc.heap.size wc)) hb
              exact ⟨rfl, DCls.first hbb ho⟩
            go_simp
            (refine c_ex (by rfl) rfl ?_; apply Exists.intro; refine ⟨fun W => ?_, ?_⟩; (go_simp; with_reducible rfl); go_simp)
            (refine c_ex (by rfl) rfl ?_; apply Exists.intro; refine ⟨fun W => ?_, ?_⟩; (go_simp; with_reducible rfl); go_simp)
            (refine c_ex (by rfl) rfl ?_; apply Exists.intro; refine ⟨fun W => ?_, ?_⟩; (go_simp; first | (with_reducible rfl) | (rw [if_pos (by omega)])); go_simp; try simp only [Int.toNat_natCast])
            refine c_op (by rfl) rfl (.bool true) (fun b W hb3 h3 h2 h1 hD => ?_) ?_
            · have hbe := h1 (by kernel_rfl)
              replace hD : DCls wc { wc with drawn := wc.drawn + 1 } T2 T2 Et Et b W := hD
              obtain ⟨hW, base, ho⟩ := hD.one hbe hb3
              show stepUpong _ (DCls wc { wc with drawn := wc.drawn + 1 } T2 T2 Et Et b) _ _
              obtain ⟨a5, cap5, h5, hr5, _⟩ := breads_of_owns ho
              clear hW
              unfold stepUpong
              go_simp
              refine (d_SameBytes W a5 ab _ _ cap5 cb Et Et hr5 (HT2.out _ (HBW.out.trans (hD.1.mono HBW.out.size)))).mono ?_
              rintro e' w' ⟨he, hw⟩
              subst he; subst hw
              exact ⟨by simp, hD⟩
            go_simp
            (refine c_ex (by rfl) rfl ?_; apply Exists.intro; refine ⟨fun W => ?_, ?_⟩; (go_simp; with_reducible rfl); go_simp)
            (refine c_ex (by rfl) rfl ?_; apply Exists.intro; refine ⟨fun W => ?_, ?_⟩; (go_simp; with_reducible rfl); go_simp)
            (refine c_ex (by rfl) rfl ?_; apply Exists.intro; refine ⟨fun W => ?_, ?_⟩; (go_simp; with_reducible rfl); go_simp)
            refine c_nil ?_
            intro W hD
            have HD := Lib.hid (show Below wc.heap.size wc W from hD.1)
            clear hD
            go_wp2_with fail
            go_meet
            exact ⟨rfl, HD.out⟩
        · have e2a : (u2' == 0) = false := beq_eq_false_iff_ne.2 e2
          have e2b : decide (u2' = 0) = false := decide_eq_false e2
          as_aux_lemma =>
            refine region_three (DCls wc { wc with drawn := wc.drawn + 1 } (.bool true, wc) (.bool true, wc) [] []) 99 98 97 0 (by decide) (by decide) (by decide) rfl (by intro o h; cases h) (by intro o h; cases h) (by kernel_rfl) (by kernel_rfl) (DCls.zero (Below.drew (Below.refl _ _))) ?_
            (refine c_ex (by rfl) rfl ?_; apply Exists.intro; refine ⟨fun W => ?_, ?_⟩; (go_simp; with_reducible rfl); go_simp)
            (refine c_read (by rfl) rfl ?_; apply Exists.intro; refine ⟨fun b' W _ hD => ?_, ?_⟩; (have hcell := HC1.out W hD.1; go_simp; with_reducible rfl); go_simp)
            (refine c_ex (by rfl) rfl ?_; apply Exists.intro; refine ⟨fun W => ?_, ?_⟩; (go_simp; (try simp only [e1a, e1b]); with_reducible rfl); go_simp)
            (refine c_ex (by rfl) rfl ?_; apply Exists.intro; refine ⟨fun W => ?_, ?_⟩; (go_simp; with_reducible rfl); go_simp)
            (refine c_skip (by rfl) rfl ?_; go_simp)
            (refine c_skip (by rfl) rfl ?_; go_simp)
            (refine c_skip (by rfl) rfl ?_; go_simp)
            (refine c_skip (by rfl) rfl ?_; go_simp)
            (refine c_skip (by rfl) rfl ?_; go_simp)
            (refine c_skip (by rfl) rfl ?_; go_simp)
            (refine c_skip (by rfl) rfl ?_; go_simp)
            (refine c_ex (by rfl) rfl ?_; apply Exists.intro; refine ⟨fun W => ?_, ?_⟩; (go_simp; with_reducible rfl); go_simp)
            (refine c_ex (by rfl) rfl ?_; apply Exists.intro; refine ⟨fun W => ?_, ?_⟩; (go_simp; with_reducible rfl); go_simp)
            (refine c_ex (by rfl) rfl ?_; apply Exists.intro; refine ⟨fun W => ?_, ?_⟩; (go_simp; with_reducible rfl); go_simp)
            (refine c_read (by rfl) rfl ?_; apply Exists.intro; refine ⟨fun b' W _ hD => ?_, ?_⟩; (have hcell := HC2.out W hD.1; go_simp; with_reducible rfl); go_simp)
            (refine c_ex (by rfl) rfl ?_; apply Exists.intro; refine ⟨fun W => ?_, ?_⟩; (go_simp; (try simp only [e2a, e2b]); with_reducible rfl); go_simp)
            (refine c_ex (by rfl) rfl ?_; apply Exists.intro; refine ⟨fun W => ?_, ?_⟩; (go_simp; with_reducible rfl); go_simp)
            (refine c_skip (by rfl) rfl ?_; go_simp)
            (refine c_skip (by rfl) rfl ?_; go_simp)
            (refine c_skip (by rfl) rfl ?_; go_simp)
            (refine c_skip (by rfl) rfl ?_; go_simp)
            (refine c_skip (by rfl) rfl ?_; go_simp)
            (refine c_skip (by rfl) rfl ?_; go_simp)
            (refine c_skip (by rfl) rfl ?_; go_simp)
            (refine c_ex (by rfl) rfl ?_; apply Exists.intro; refine ⟨fun W => ?_, ?_⟩; (go_simp; with_reducible rfl); go_simp)
            (refine c_ex (by rfl) rfl ?_; apply Exists.intro; refine ⟨fun W => ?_, ?_⟩; (go_simp; with_reducible rfl); go_simp)
            refine c_nil ?_
            intro W hD
            have HD := Lib.hid (show Below wc.heap.size wc W from hD.1)
            clear hD
            go_wp2_with fail
            go_meet
            exact ⟨rfl, HD.out⟩
  obtain ⟨rfl, hj⟩ := hcut
  have HBW' := Lib.hid (HBW.out.trans (hj.mono HBW.out.size))
  clear hj HBW
  have HBW := HBW'
  clear HBW'
  clear hg1 hg2 c10 c20 z1 z2
  go_upto_region 15 with fail
  go_cut [31, 32, 33] from 34 (fun x y p wx => ListAtV wx x m3 ∧ y = .int .i64 t3 ∧ FaultAt wx p u3' f3 ∧ Below wc.heap.size wc wx)
  case first =>
    as_aux_lemma =>
      go_wp2_with fail
      refine (HG3.out _ (HIBW.out _ HBW.out)).mono ?_; rintro e w' ⟨v, rfl, hown, J, dr, rfl⟩; have HLV := Lib.hid (list_of_owns hown HXL.out); clear hown
      go_wp2_with fail
      go_meet
      case rel => exact ⟨HLV.out.below (by (repeat' (first | (with_reducible exact Below.refl _ _) | (with_reducible assumption) | (with_reducible refine Below.alloc ?_ ?_ _) | (with_reducible refine Below.drew ?_) | (with_reducible refine below_drewN ?_ _) | (with_reducible refine below_plus ?_ ?_ _ _) | (with_reducible refine Below.setCell ?_ ?_ _) | (with_reducible refine Below.setRow ?_ ?_ _) | go_size))), rfl, fault_here _ _ _ _ (by simp), by (repeat' (first | (with_reducible exact Below.refl _ _) | (with_reducible assumption) | (with_reducible refine Below.alloc ?_ ?_ _) | (with_reducible refine Below.drew ?_) | (with_reducible refine below_drewN ?_ _) | (with_reducible refine below_plus ?_ ?_ _ _) | (with_reducible refine Below.setCell ?_ ?_ _) | (with_reducible refine Below.setRow ?_ ?_ _) | go_size))⟩
  obtain ⟨hv, rfl, hf, hj⟩ := hcut
  have F3 := Lib.hid hf
  have V3 := Lib.hid hv
  clear hf hv
  have HBW' := Lib.hid (HBW.out.trans (hj.mono HBW.out.size))
  clear hj HBW
  have HBW := HBW'
  clear HBW'
  obtain ⟨va, vcap, rfl, hva⟩ := V3.out
  have HVA := Lib.hid hva
  clear hva V3
  obtain ⟨k3g, hp3, hg3, hr3⟩ := F3.out
  subst hp3
  have c30 := ucell_of_row hr3 0
  have z3 := ufrozen_of_row hr3
  simp at c30
  have HC3 := Lib.hid (fun W (h : Below wc.heap.size wc W) => fault_cell (F3.out.below h))
  clear hr3 F3
  go_upto_region 16 with fail
  clear c30 z3 hg3
  by_cases e3 : u3' = 0
  · subst e3
    obtain ⟨il, ix, k3, hk3, hk3l, hk3t⟩ := G3.out rfl
    obtain rfl : t3 = k3 := hk3
    replace il : (m3.length : Int) ≤ 1000 := il
    have HT3 := Lib.hid (fun W (h : Below w4.heap.size w4 W) => (show BReads W ab k3 (encL m3) by rw [← hk3t]; exact breads_take (HIBW.out W h).reads k3 hk3l))
    have hk3c : (k3 : Int) ≤ (cb : Int) := by omega
    clear hk3t
    obtain ⟨El, hEl⟩ : ∃ E, encL m3 = E := ⟨_, rfl⟩
    rw [hEl] at HT3
    obtain ⟨T3, hT3⟩ : ∃ T, putL m3 { wc with drawn := wc.drawn + 1 } = T := ⟨_, rfl⟩
    have HPl := Lib.hid (d_PutList { wc with drawn := wc.drawn + 1 } va m3.length vcap m3 (HVA.out.below (Below.drew (Below.refl _ _))) (by omega))
    rw [hT3, hEl] at HPl
    clear hT3 hEl ix il
    as_aux_lemma =>
        refine region_three (DCls wc { wc with drawn := wc.drawn + 1 } T3 T3 El El) 7 99 98 1 (by decide) (by decide) (by decide) rfl (by intro o h; cases h) (by intro o h; cases h) (by kernel_rfl) (by kernel_rfl) (DCls.zero (Below.drew (Below.refl _ _))) ?_
        (refine c_ex (by rfl) rfl ?_; apply Exists.intro; refine ⟨fun W => ?_, ?_⟩; (go_simp; with_reducible rfl); go_simp)
        (refine c_ex (by rfl) rfl ?_; apply Exists.intro; refine ⟨fun W => ?_, ?_⟩; (go_simp; with_reducible rfl); go_simp)
        (refine c_ex (by rfl) rfl ?_; apply Exists.intro; refine ⟨fun W => ?_, ?_⟩; (go_simp; with_reducible rfl); go_simp)
        (refine c_read (by rfl) rfl ?_; apply Exists.intro; refine ⟨fun b' W _ hD => ?_, ?_⟩; (have hcell := HC3.out W hD.1; go_simp; with_reducible rfl); go_simp)
        (refine c_ex (by rfl) rfl ?_; apply Exists.intro; refine ⟨fun W => ?_, ?_⟩; (go_simp; with_reducible rfl); go_simp)
        (refine c_ex (by rfl) rfl ?_; apply Exists.intro; refine ⟨fun W => ?_, ?_⟩; (go_simp; with_reducible rfl); go_simp)
        (refine c_ex (by rfl) rfl ?_; apply Exists.intro; refine ⟨fun W => ?_, ?_⟩; (go_simp; with_reducible rfl); go_simp)
        refine c_write (by rfl) rfl T3.1 (fun W hD => ?_) ?_
        · replace hD : DCls wc { wc with drawn := wc.drawn + 1 } T3 T3 El El 0 W := hD
          have hW := hD.2.1 rfl
          subst hW
          show stepUpong _ (DCls wc { wc with drawn := wc.drawn + 1 } T3 T3 El El 1) _ _
          unfold stepUpong
          go_simp
          refine (HPl.out).mono ?_
          rintro e' w' ⟨he, hw, ho, hb⟩
          subst he; subst hw
          have hbb := Below.trans (Below.drew (Below.refl wc.heap.size wc)) hb
          exact ⟨rfl, DCls.first hbb ho⟩
        go_simp
        (refine c_ex (by rfl) rfl ?_; apply Exists.intro; refine ⟨fun W => ?_, ?_⟩; (go_simp; with_reducible rfl); go_simp)
        (refine c_ex (by rfl) rfl ?_; apply Exists.intro; refine ⟨fun W => ?_, ?_⟩; (go_simp; with_reducible rfl); go_simp)
        (refine c_ex (by rfl) rfl ?_; apply Exists.intro; refine ⟨fun W => ?_, ?_⟩; (go_simp; first | (with_reducible rfl) | (rw [if_pos (by omega)])); go_simp; try simp only [Int.toNat_natCast])
        refine c_op (by rfl) rfl (.bool true) (fun b W hb3 h3 h2 h1 hD => ?_) ?_
        · have hbe := h1 (by kernel_rfl)
          replace hD : DCls wc { wc with drawn := wc.drawn + 1 } T3 T3 El El b W := hD
          obtain ⟨hW, base, ho⟩ := hD.one hbe hb3
          show stepUpong _ (DCls wc { wc with drawn := wc.drawn + 1 } T3 T3 El El b) _ _
          obtain ⟨a5, cap5, h5, hr5, _⟩ := breads_of_owns ho
          clear hW
          unfold stepUpong
          go_simp
          refine (d_SameBytes W a5 ab _ _ cap5 cb El El hr5 (HT3.out _ (HBW.out.trans (hD.1.mono HBW.out.size)))).mono ?_
          rintro e' w' ⟨he, hw⟩
          subst he; subst hw
          exact ⟨by simp, hD⟩
        go_simp
        (refine c_ex (by rfl) rfl ?_; apply Exists.intro; refine ⟨fun W => ?_, ?_⟩; (go_simp; with_reducible rfl); go_simp)
        (refine c_ex (by rfl) rfl ?_; apply Exists.intro; refine ⟨fun W => ?_, ?_⟩; (go_simp; with_reducible rfl); go_simp)
        (refine c_ex (by rfl) rfl ?_; apply Exists.intro; refine ⟨fun W => ?_, ?_⟩; (go_simp; with_reducible rfl); go_simp)
        refine c_nil ?_
        intro W hD
        have HD := Lib.hid (show Below wc.heap.size wc W from hD.1)
        clear hD
        go_wp2
        go_ret
        exact ⟨rfl, junk_of_below ((HW.out.trans (HBW.out.mono HW.out.size)).trans (HD.out.mono (Nat.le_trans HW.out.size HBW.out.size)))⟩
  · have e3a : (u3' != 0) = true := bne_iff_ne.2 e3
    have e3b : decide (u3' = 0) = false := decide_eq_false e3
    have e3c : (u3' == 0) = false := beq_eq_false_iff_ne.2 e3
    have e3d : decide (u3' ≠ 0) = true := decide_eq_true e3
    as_aux_lemma =>
        refine region_three (DCls wc { wc with drawn := wc.drawn + 1 } (.bool true, wc) (.bool true, wc) [] []) 99 98 97 0 (by decide) (by decide) (by decide) rfl (by intro o h; cases h) (by intro o h; cases h) (by kernel_rfl) (by kernel_rfl) (DCls.zero (Below.drew (Below.refl _ _))) ?_
        (refine c_ex (by rfl) rfl ?_; apply Exists.intro; refine ⟨fun W => ?_, ?_⟩; (go_simp; with_reducible rfl); go_simp)
        (refine c_ex (by rfl) rfl ?_; apply Exists.intro; refine ⟨fun W => ?_, ?_⟩; (go_simp; with_reducible rfl); go_simp)
        (refine c_ex (by rfl) rfl ?_; apply Exists.intro; refine ⟨fun W => ?_, ?_⟩; (go_simp; with_reducible rfl); go_simp)
        (refine c_read (by rfl) rfl ?_; apply Exists.intro; refine ⟨fun b' W _ hD => ?_, ?_⟩; (have hcell := HC3.out W hD.1; go_simp; with_reducible rfl); go_simp)
        (refine c_ex (by rfl) rfl ?_; apply Exists.intro; refine ⟨fun W => ?_, ?_⟩; (go_simp; (try simp only [e3a, e3b, e3c, e3d, Bool.not_false]); with_reducible rfl); go_simp)
        (refine c_ex (by rfl) rfl ?_; apply Exists.intro; refine ⟨fun W => ?_, ?_⟩; (go_simp; with_reducible rfl); go_simp)
        (refine c_skip (by rfl) rfl ?_; go_simp)
        (refine c_skip (by rfl) rfl ?_; go_simp)
        (refine c_skip (by rfl) rfl ?_; go_simp)
        (refine c_skip (by rfl) rfl ?_; go_simp)
        (refine c_skip (by rfl) rfl ?_; go_simp)
        (refine c_skip (by rfl) rfl ?_; go_simp)
        (refine c_ex (by rfl) rfl ?_; apply Exists.intro; refine ⟨fun W => ?_, ?_⟩; (go_simp; with_reducible rfl); go_simp)
        (refine c_ex (by rfl) rfl ?_; apply Exists.intro; refine ⟨fun W => ?_, ?_⟩; (go_simp; with_reducible rfl); go_simp)
        (refine c_ex (by rfl) rfl ?_; apply Exists.intro; refine ⟨fun W => ?_, ?_⟩; (go_simp; with_reducible rfl); go_simp)
        refine c_nil ?_
        intro W hD
        have HD := Lib.hid (show Below wc.heap.size wc W from hD.1)
        clear hD
        go_wp2
        go_ret
        exact ⟨rfl, junk_of_below ((HW.out.trans (HBW.out.mono HW.out.size)).trans (HD.out.mono (Nat.le_trans HW.out.size HBW.out.size)))⟩
end Go.Proofs.Ytabjhmblfeoiaaa

/- The law SlabStands: the walk. -/
import Derived.Test.YtegliapkbapigaaGreatSbR
import Derived.Test.YtegliapkbapigaaGreatSbTwo
namespace Go.Proofs.YtegliapkbapigaaGreat
set_option linter.unusedVariables false
set_option linter.unusedSimpArgs false
open Go.RowKit

set_option maxRecDepth 100000 in
theorem stands_big (w : World) (a : Option Addr) (n ca : Nat) (R : List (List Pt)) (hR : GRC w a n ca R) (hs : n ≤ 4611686018427387903) (hl : ∀ K ∈ R, K.length ≤ 8796093022208) (i : Int) (h : (decide (22 < R.length) || decide (120 < allN R)) = true) :
    Calls Tryz.prog 4 #[.agg #[.slice a n ca], .int .i64 i] w fun e w' => e = .returned (.bool true) ∧ Junk w w' := by
  have HAw := Lib.hid l_sbAwake
  have HR := Lib.hid hR
  have HL := Lib.hid (fun w' h => k_BigRegion 120 (by decide) w' a n ca R h hs hl)
  rw [h] at HL
  clear hR h
  go_enter Tryz.func4, Tryz.ntmps4
  go_wp2_with (first | (go_at_call 10; refine (HAw.out _).mono ?_; rintro e w1 ⟨rfl, J1, d1, rfl⟩) | (go_at_call 9; refine (HL.out _ (HR.out.below (by ((try simp only [← Array.append_assoc]); repeat' (first | (with_reducible exact Below.refl _ _) | (with_reducible assumption) | (with_reducible refine Below.alloc ?_ ?_ _) | (with_reducible refine Below.drew ?_) | (with_reducible refine below_drewN ?_ _) | (with_reducible exact below_d _ _ _ _ _) | (with_reducible refine below_snoc _ _ ?_ ?_) | (with_reducible refine below_plus ?_ ?_ _ _) | (with_reducible refine Below.setCell ?_ ?_ _) | (with_reducible refine Below.setRow ?_ ?_ _) | go_size))))).mono ?_; rintro e w1 ⟨rfl, J2, d2, rfl⟩))
  go_ret
  exact ⟨rfl, junk_of_below (by (repeat' (first | (with_reducible exact Below.refl _ _) | (with_reducible assumption) | (with_reducible refine Below.alloc ?_ ?_ _) | (with_reducible refine Below.drew ?_) | (with_reducible refine below_drewN ?_ _) | (with_reducible refine below_plus ?_ ?_ _ _) | (with_reducible refine Below.setCell ?_ ?_ _) | (with_reducible refine Below.setRow ?_ ?_ _) | go_size)))⟩
set_option maxRecDepth 100000 in
set_option maxHeartbeats 4000000 in
theorem stands_bad (w : World) (a : Option Addr) (n ca : Nat) (R : List (List Pt)) (hR : GRC w a n ca R) (hs : n ≤ 1000) (hl : ∀ K ∈ R, K.length ≤ 100000) (i : Int) (h : (decide (22 < R.length) || decide (120 < allN R)) = false) (hbad : (checkR R).1 ≠ 0) :
    Calls Tryz.prog 4 #[.agg #[.slice a n ca], .int .i64 i] w fun e w' => e = .returned (.bool true) ∧ Junk w w' := by
  have HAw := Lib.hid l_sbAwake
  have HR := Lib.hid hR
  have HL := Lib.hid (fun w' h => k_BigRegion 120 (by decide) w' a n ca R h (by omega) (fun K hK => by have := hl K hK; omega))
  rw [h] at HL
  obtain ⟨⟨x, y⟩, hxy⟩ : ∃ z, checkR R = z := ⟨_, rfl⟩
  rw [hxy] at hbad
  simp only at hbad
  have HBd := Lib.hid (fun w' h => build_bad w' a n ca R h hs hl x y hxy hbad)
  have e1 : (x != 0) = true := by simpa using hbad
  have e2 : (x == 0) = false := by simpa using hbad
  clear hR h hxy hbad hl
  go_enter Tryz.func4, Tryz.ntmps4
  go_wp2_with (first
    | (go_at_call 10; refine (HAw.out _).mono ?_; rintro e w1 ⟨rfl, J1, d1, rfl⟩)
    | (go_at_call 9; refine (HL.out _ (HR.out.below (by ((try simp only [← Array.append_assoc]); repeat' (first | (with_reducible exact Below.refl _ _) | (with_reducible assumption) | (with_reducible refine Below.alloc ?_ ?_ _) | (with_reducible refine Below.drew ?_) | (with_reducible refine below_drewN ?_ _) | (with_reducible exact below_d _ _ _ _ _) | (with_reducible refine below_snoc _ _ ?_ ?_) | (with_reducible refine below_plus ?_ ?_ _ _) | (with_reducible refine Below.setCell ?_ ?_ _) | (with_reducible refine Below.setRow ?_ ?_ _) | go_size))))).mono ?_; rintro e w1 ⟨rfl, J2, d2, rfl⟩)
    | (go_at_call 12; (with_reducible refine (HBd.out _ (HR.out.below (by ((try simp only [← Array.append_assoc]); repeat' (first | (with_reducible exact Below.refl _ _) | (with_reducible assumption) | (with_reducible refine Below.alloc ?_ ?_ _) | (with_reducible refine Below.drew ?_) | (with_reducible refine below_drewN ?_ _) | (with_reducible exact below_d _ _ _ _ _) | (with_reducible refine below_snoc _ _ ?_ ?_) | (with_reducible refine below_plus ?_ ?_ _ _) | (with_reducible refine Below.setCell ?_ ?_ _) | (with_reducible refine Below.setRow ?_ ?_ _) | go_size))))).mono ?_); rintro e w1 ⟨rfl, J3, d3, rfl⟩))
  go_ret
  exact ⟨rfl, junk_of_below (by (repeat' (first | (with_reducible exact Below.refl _ _) | (with_reducible assumption) | (with_reducible refine Below.alloc ?_ ?_ _) | (with_reducible refine Below.drew ?_) | (with_reducible refine below_drewN ?_ _) | (with_reducible refine below_plus ?_ ?_ _ _) | (with_reducible refine Below.setCell ?_ ?_ _) | (with_reducible refine Below.setRow ?_ ?_ _) | go_size)))⟩
/-- Between two rounds: the greatest number so far. -/
def SdAt (W : World) (R : List (List Pt)) (m : Nat) (x y : Value) (wr : World) : Prop := ∃ k : Nat, y = .int .i64 (k : Int) ∧ k ≤ m ∧ x = .int .i64 ((mostK R k : Nat) : Int) ∧ Cls W wr
set_option maxRecDepth 100000 in
set_option maxHeartbeats 8000000 in
theorem stands_fine (w : World) (a : Option Addr) (n ca : Nat) (R : List (List Pt)) (hR : GRC w a n ca R) (hs : n ≤ 1000) (hf : regFine R) (i : Int) (h : (decide (22 < R.length) || decide (120 < allN R)) = false) :
    Calls Tryz.prog 4 #[.agg #[.slice a n ca], .int .i64 i] w fun e w' => e = .returned (.bool true) ∧ Junk w w' := by
  have hl : ∀ K ∈ R, K.length ≤ 100000 := fun K hK => by have := ring_leR hK; have := hf.many; omega
  have HAw := Lib.hid l_sbAwake
  have HR := Lib.hid hR
  have HL := Lib.hid (fun w' h => k_BigRegion 120 (by decide) w' a n ca R h (by omega) (fun K hK => by have := hl K hK; omega))
  rw [h] at HL
  have HBd := Lib.hid (fun w' h => n_sbBuild w' a n ca R h hs hf (fine_fit2 hf))
  have HHt := Lib.hid (fun w' h => r_sbHeights w' a n ca R h hs (by have := hf.many; omega) (fine_fit2 hf))
  have HEd := Lib.hid (fun lo hi w' h => r_sbEdges lo hi w' a n ca R h hs hl)
  obtain ⟨m, hm, hm0⟩ : ∃ m, (hgtL R).length = m + 1 ∧ 0 < m := ⟨(hgtL R).length - 1, by have := hgtL_len hf; omega, by have := hgtL_len hf; omega⟩
  have hmm : m ≤ 400 := by have := hgtL_few R; have := hf.many; omega
  have HLe := Lib.hid (fun (B T sb : Nat) (W : World) (hW : SlabB W B T sb R) => len_is R m (by omega) W B T sb hW)
  have HMo := Lib.hid (fun (B T sb : Nat) (W : World) (hW : SlabB W B T sb R) => n_slMost hW)
  rw [hm, show m + 1 - 1 = m from rfl] at HMo
  have HSl := Lib.hid (fun (B T sb : Nat) (W : World) (hW : SlabB W B T sb R) (k : Nat) (hk : k < m) => show Calls Tryz.prog 22 #[.pointer (some ⟨sb, 0, none⟩), .int .i64 (k : Int)] W fun e w' => e = .returned (.tuple #[.int .i64 ((hgtL R).getD k 0), .int .i64 ((hgtL R).getD (k + 1) 0), .int .i64 ((slabN R k : Nat) : Int), .int .i64 0]) ∧ Junk W w' by
    have := n_slSlab hW (k : Int)
    unfold slabV at this
    rw [if_pos (by rw [hm]; omega), Int.toNat_natCast] at this
    exact this)
  have HSi := Lib.hid (fun (B T sb : Nat) (W : World) (hW : SlabB W B T sb R) => n_slSlab hW i)
  have HSv := Lib.hid (show ¬ (0 ≤ i ∧ i < m) → slabV R i = .tuple #[.int .i64 0, .int .i64 0, .int .i64 0, .int .i64 6] from fun hn => by unfold slabV; rw [if_neg (by rw [hm]; omega)])
  have HSu := Lib.hid (show (0 ≤ i ∧ i < m) → ∃ a b c, slabV R i = .tuple #[.int .i64 a, .int .i64 b, .int .i64 c, .int .i64 0] from fun hn => by unfold slabV; rw [if_pos (by rw [hm]; omega)]; exact ⟨_, _, _, rfl⟩)
  have hmo := most_le R (fun K hK => by have := (hf.each K hK).few; omega)
  have hmany := hf.many
  have HMl := Lib.hid (fun k => Nat.le_trans (hmo k) hmany)
  have HM1 := Lib.hid hm
  clear hR h hf hl hm hmo hmany
  go_enter Tryz.func4, Tryz.ntmps4
  go_wp2_with (first
    | (go_at_call 9; refine (HL.out _ (HR.out.below (by ((try simp only [← Array.append_assoc]); repeat' (first | (with_reducible exact Below.refl _ _) | (with_reducible assumption) | (with_reducible refine Below.alloc ?_ ?_ _) | (with_reducible refine Below.drew ?_) | (with_reducible refine below_drewN ?_ _) | (with_reducible exact below_d _ _ _ _ _) | (with_reducible refine below_snoc _ _ ?_ ?_) | (with_reducible refine below_plus ?_ ?_ _ _) | (with_reducible refine Below.setCell ?_ ?_ _) | (with_reducible refine Below.setRow ?_ ?_ _) | go_size))))).mono ?_; rintro e w1 ⟨rfl, J2, d2, rfl⟩)
    | (go_at_call 12; (with_reducible refine (HBd.out _ (HR.out.below (by ((try simp only [← Array.append_assoc]); repeat' (first | (with_reducible exact Below.refl _ _) | (with_reducible assumption) | (with_reducible refine Below.alloc ?_ ?_ _) | (with_reducible refine Below.drew ?_) | (with_reducible refine below_drewN ?_ _) | (with_reducible exact below_d _ _ _ _ _) | (with_reducible refine below_snoc _ _ ?_ ?_) | (with_reducible refine below_plus ?_ ?_ _ _) | (with_reducible refine Below.setCell ?_ ?_ _) | (with_reducible refine Below.setRow ?_ ?_ _) | go_size))))).mono ?_); rintro e w1 ⟨⟨sb, rfl, ht⟩, J3, d3, rfl⟩; (try simp only [plus_plus, Array.append_assoc] at ht); obtain ⟨B, T, ht⟩ : ∃ B T, SlabB _ B T sb R := ⟨_, _, ht⟩; have HT := Lib.hid ht; clear ht)
    | (go_at_call 20; (with_reducible refine (HHt.out _ (HR.out.below (by ((try simp only [← Array.append_assoc]); repeat' (first | (with_reducible exact Below.refl _ _) | (with_reducible assumption) | (with_reducible refine Below.alloc ?_ ?_ _) | (with_reducible refine Below.drew ?_) | (with_reducible refine below_drewN ?_ _) | (with_reducible exact below_d _ _ _ _ _) | (with_reducible refine below_snoc _ _ ?_ ?_) | (with_reducible refine below_plus ?_ ?_ _ _) | (with_reducible refine Below.setCell ?_ ?_ _) | (with_reducible refine Below.setRow ?_ ?_ _) | go_size))))).mono ?_); rintro e w1 ⟨⟨v, rfl, hx, hc, rfl, hr⟩, J4, d4, rfl⟩; (try simp only [plus_plus, Array.append_assoc] at hr); have HYr := Lib.hid hr; rw [HM1.out]; clear hr)
    | (go_at_call 21; (with_reducible refine (HLe.out B T sb _ ?_).mono ?_); (exact HT.out.below (by ((try simp only [← Array.append_assoc]); repeat' (first | (with_reducible exact Below.refl _ _) | (with_reducible assumption) | (with_reducible refine Below.alloc ?_ ?_ _) | (with_reducible refine Below.drew ?_) | (with_reducible refine below_drewN ?_ _) | (with_reducible exact below_d _ _ _ _ _) | (with_reducible refine below_snoc _ _ ?_ ?_) | (with_reducible refine below_plus ?_ ?_ _ _) | (with_reducible refine Below.setCell ?_ ?_ _) | (with_reducible refine Below.setRow ?_ ?_ _) | go_size)))); rintro e w1 ⟨rfl, hw⟩; rw [hw]; clear hw))
  obtain ⟨V, hV⟩ : ∃ V, ((((w.alloc (Obj.cells #[Value.slice a n ca] 24)).plus (J2 ++ J3) d3).alloc (Obj.cells #[Value.int IntKind.i64 0, Value.int IntKind.i64 0] 32)).plus J4 d4) = V := ⟨_, rfl⟩
  have r0 : V.cell? ⟨w.heap.size, 0, none⟩ = some (.slice a n ca) := by rw [← hV]; simp [go_sem]
  have hj : Below w.heap.size w V := by rw [← hV]; ((try simp only [← Array.append_assoc]); repeat' (first | (with_reducible exact Below.refl _ _) | (with_reducible assumption) | (with_reducible refine Below.alloc ?_ ?_ _) | (with_reducible refine Below.drew ?_) | (with_reducible refine below_drewN ?_ _) | (with_reducible exact below_d _ _ _ _ _) | (with_reducible refine below_snoc _ _ ?_ ?_) | (with_reducible refine below_plus ?_ ?_ _ _) | (with_reducible refine Below.setCell ?_ ?_ _) | (with_reducible refine Below.setRow ?_ ?_ _) | go_size))
  have HJ := Lib.hid hj
  have HTV := Lib.hid (show SlabB V B T sb R by rw [← hV]; exact HT.out.below (by ((try simp only [← Array.append_assoc]); repeat' (first | (with_reducible exact Below.refl _ _) | (with_reducible assumption) | (with_reducible refine Below.alloc ?_ ?_ _) | (with_reducible refine Below.drew ?_) | (with_reducible refine below_drewN ?_ _) | (with_reducible exact below_d _ _ _ _ _) | (with_reducible refine below_snoc _ _ ?_ ?_) | (with_reducible refine below_plus ?_ ?_ _ _) | (with_reducible refine Below.setCell ?_ ?_ _) | (with_reducible refine Below.setRow ?_ ?_ _) | go_size))))
  have HRV := Lib.hid (HR.out.below (show Below w.heap.size w V from HJ.out))
  rw [hV] at HYr
  rw [hV]
  clear hV hj HT HBd HHt HL
  have l0 := World.block_lt_of_cell? _ _ r0
  rcases HYr.out.2.2 with h0 | ⟨yb, yo, rfl, hyc⟩
  · have := HM1.out; omega
  rw [HM1.out] at hyc
  have HYC := Lib.hid hyc
  clear HYr hyc
  go_loopw [8, 9] (fun x y wr => SdAt V R m x y wr) (fun _ y _ => m - (intOf y).toNat)
  case atStart => exact ⟨0, rfl, by omega, rfl, #[], _, (plus_nil _).symm⟩
  case round =>
    obtain ⟨k, rfl, k1, rfl, J, d, rfl⟩ := hrel
    have hMk := HMl.out k
    have w1 : IntKind.i64.wrap ((k : Int) + 1) = ((k + 1 : Nat) : Int) := by simp [IntKind.wrap, IntKind.signed, IntKind.bits]; omega
    by_cases hlt : k < m
    · have y0 := HYC.out k (by omega)
      have y1 := HYC.out (k + 1) (by omega)
      have hE : totE ((hgtL R).getD k 0) ((hgtL R).getD (k + 1) 0) R = slabN R k := rfl
      have HS1 := Lib.hid (fun W hW => HSl.out B T sb W hW k hlt)
      have HE1 := Lib.hid (fun (J : Array Obj) (d : Nat) => HEd.out ((hgtL R).getD k 0) ((hgtL R).getD (k + 1) 0) (V.plus J d) (HRV.out.below (Junk.below ⟨J, d, rfl⟩)))
      rw [hE] at HE1
      have hN : max (((mostK R k : Nat) : Int)) ((slabN R k : Nat) : Int) = ((mostK R (k + 1) : Nat) : Int) := by show _ = ((max (mostK R k) (slabN R k) : Nat) : Int); omega
      obtain ⟨z, hz⟩ : ∃ z, mostK R (k + 1) = z := ⟨_, rfl⟩
      rw [hz] at hN
      have HZ := Lib.hid hz
      have HN := Lib.hid hN
      clear hz hN hE
      generalize (hgtL R).getD k 0 = a0 at *
      generalize (hgtL R).getD (k + 1) 0 = a1 at *
      generalize slabN R k = q at *
      generalize mostK R k = x at *
      have hz := HN.out
      have ly := World.block_lt_of_cell? _ _ y0
      have c1 : ((k + 1 : Nat) : Int) < ((m + 1 : Nat) : Int) := by omega
      have c2 : ((k + 1 : Nat) : Int) < (m : Int) + 1 := by omega
      have c3 : (k : Int) + 1 < (m : Int) + 1 := by omega
      have c4 : (k : Int) < (m : Int) := by omega
      have c5 : (k : Int) < (m : Int) + 1 := by omega
      have c6 : (k : Int) < ((m + 1 : Nat) : Int) := by omega
      have c7 : (k : Int) ≤ (m : Int) := by omega
      have c8 : ((k + 1 : Nat) : Int) ≤ (m : Int) := by omega
      have c9 : ¬ m + 1 ≤ k := by omega
      have c10 : ¬ m + 1 ≤ k + 1 := by omega
      have c11 : ¬ (k : Int) + 1 < 0 := by omega
      have c12 : (0 : Int) ≤ (k : Int) + 1 := by omega
      have c13 : ((k : Int) + 1).toNat = k + 1 := by omega
      have c14 : (k : Int) + 1 ≤ (m : Int) := by omega
      go_upto_region 14 with (go_at_call 22; (refine (HS1.out _ ?_).mono ?_); (exact HTV.out.below (by ((try simp only [← Array.append_assoc]); repeat' (first | (with_reducible exact Below.refl _ _) | (with_reducible assumption) | (with_reducible refine Below.alloc ?_ ?_ _) | (with_reducible refine Below.drew ?_) | (with_reducible refine below_drewN ?_ _) | (with_reducible exact below_d _ _ _ _ _) | (with_reducible refine below_snoc _ _ ?_ ?_) | (with_reducible refine below_plus ?_ ?_ _ _) | (with_reducible refine Below.setCell ?_ ?_ _) | (with_reducible refine Below.setRow ?_ ?_ _) | go_size)))); rintro e w1 ⟨rfl, J5, d5, rfl⟩)
      refine region_quiet_all (C := Cls V) (by kernel_rfl) (by kernel_rfl) ⟨_, _, rfl⟩ ?_
      repeat (first | (refine qw_skip (by rfl) ?_; simp only [Act.put, List.setIfInBounds_toArray, List.set_cons_succ, List.set_cons_zero]) | (refine qw_want (by rfl) (fun K hK => ?_); go_simp; first | (refine hK _ ?_; clear hK K) | (apply Exists.intro; refine ⟨?_, hK _ ?_⟩; (rintro w3_ ⟨J3_, d3_, rfl⟩; first | (with_reducible exact rfl) | (go_simp; with_reducible exact rfl) | (go_simp; (first | (with_reducible refine (HAw.out _).mono ?_) | (with_reducible refine (HE1.out _ _).mono ?_)); rintro e_ w_ ⟨rfl, J4_, d4_, rfl⟩; exact ⟨rfl, J3_ ++ J4_, d4_, by simp only [plus_plus, Array.append_assoc]⟩)); clear hK K)))
      refine qw_nil ?_
      rintro w4 ⟨J9, d9, rfl⟩
      go_wp2_with fail
      go_roundw
      case rel => exact ⟨k + 1, by go_num, by omega, by rw [HZ.out]; (try rfl); (try (rw [HN.out]; done)), _, _, rfl⟩
      case measure => simp [intOf]; omega
    · obtain rfl : k = m := by omega
      have c1 : ¬ ((k + 1 : Nat) : Int) < ((k + 1 : Nat) : Int) := by omega
      have c3 : ¬ (k : Int) + 1 < (k : Int) + 1 := by omega
      have w2 : IntKind.i64.wrap ((k : Int) + 1 - 1) = (k : Int) := by simp [IntKind.wrap, IntKind.signed, IntKind.bits]; omega
      have HMk := Lib.hid (fun W hW => HMo.out B T sb W hW)
      generalize mostK R k = M at *
      clear HMo HMl
      by_cases hi : 0 ≤ i ∧ i < k
      · obtain ⟨a1, a2, a3, hv⟩ := HSu.out hi
        have HSk := Lib.hid (fun W hW => HSi.out B T sb W hW)
        rw [hv] at HSk
        have i1 : ¬ i < 0 := by omega
        have i2 : ¬ i ≥ (k : Int) := by omega
        have i3 : ¬ (k : Int) ≤ i := by omega
        clear hi hv HSu HSv HSi HSl
        go_wp2_with (first
          | (go_at_call 22; (with_reducible refine (HSk.out _ ?_).mono ?_); (exact HTV.out.below (by ((try simp only [← Array.append_assoc]); repeat' (first | (with_reducible exact Below.refl _ _) | (with_reducible assumption) | (with_reducible refine Below.alloc ?_ ?_ _) | (with_reducible refine Below.drew ?_) | (with_reducible refine below_drewN ?_ _) | (with_reducible exact below_d _ _ _ _ _) | (with_reducible refine below_snoc _ _ ?_ ?_) | (with_reducible refine below_plus ?_ ?_ _ _) | (with_reducible refine Below.setCell ?_ ?_ _) | (with_reducible refine Below.setRow ?_ ?_ _) | go_size)))); rintro e w1 ⟨rfl, J5, d5, rfl⟩)
          | (go_at_call 24; (with_reducible refine (HMk.out _ ?_).mono ?_); (exact HTV.out.below (by ((try simp only [← Array.append_assoc]); repeat' (first | (with_reducible exact Below.refl _ _) | (with_reducible assumption) | (with_reducible refine Below.alloc ?_ ?_ _) | (with_reducible refine Below.drew ?_) | (with_reducible refine below_drewN ?_ _) | (with_reducible exact below_d _ _ _ _ _) | (with_reducible refine below_snoc _ _ ?_ ?_) | (with_reducible refine below_plus ?_ ?_ _ _) | (with_reducible refine Below.setCell ?_ ?_ _) | (with_reducible refine Below.setRow ?_ ?_ _) | go_size)))); rintro e w1 ⟨rfl, J6, d6, rfl⟩)
          | (go_at_call 10; refine (HAw.out _).mono ?_; rintro e w1 ⟨rfl, J7, d7, rfl⟩))
        go_ret
        exact ⟨rfl, junk_of_below (HJ.out.trans ((show Below V.heap.size V _ by ((try simp only [← Array.append_assoc]); repeat' (first | (with_reducible exact Below.refl _ _) | (with_reducible assumption) | (with_reducible refine Below.alloc ?_ ?_ _) | (with_reducible refine Below.drew ?_) | (with_reducible refine below_drewN ?_ _) | (with_reducible exact below_d _ _ _ _ _) | (with_reducible refine below_snoc _ _ ?_ ?_) | (with_reducible refine below_plus ?_ ?_ _ _) | (with_reducible refine Below.setCell ?_ ?_ _) | (with_reducible refine Below.setRow ?_ ?_ _) | go_size))).mono HJ.out.size))⟩
      · have hv := HSv.out hi
        have HSk := Lib.hid (fun W hW => HSi.out B T sb W hW)
        rw [hv] at HSk
        clear hv HSu HSv HSi HSl
        by_cases i1 : i < 0
        · clear hi
          go_wp2_with (first
            | (go_at_call 22; (with_reducible refine (HSk.out _ ?_).mono ?_); (exact HTV.out.below (by ((try simp only [← Array.append_assoc]); repeat' (first | (with_reducible exact Below.refl _ _) | (with_reducible assumption) | (with_reducible refine Below.alloc ?_ ?_ _) | (with_reducible refine Below.drew ?_) | (with_reducible refine below_drewN ?_ _) | (with_reducible exact below_d _ _ _ _ _) | (with_reducible refine below_snoc _ _ ?_ ?_) | (with_reducible refine below_plus ?_ ?_ _ _) | (with_reducible refine Below.setCell ?_ ?_ _) | (with_reducible refine Below.setRow ?_ ?_ _) | go_size)))); rintro e w1 ⟨rfl, J5, d5, rfl⟩)
            | (go_at_call 24; (with_reducible refine (HMk.out _ ?_).mono ?_); (exact HTV.out.below (by ((try simp only [← Array.append_assoc]); repeat' (first | (with_reducible exact Below.refl _ _) | (with_reducible assumption) | (with_reducible refine Below.alloc ?_ ?_ _) | (with_reducible refine Below.drew ?_) | (with_reducible refine below_drewN ?_ _) | (with_reducible exact below_d _ _ _ _ _) | (with_reducible refine below_snoc _ _ ?_ ?_) | (with_reducible refine below_plus ?_ ?_ _ _) | (with_reducible refine Below.setCell ?_ ?_ _) | (with_reducible refine Below.setRow ?_ ?_ _) | go_size)))); rintro e w1 ⟨rfl, J6, d6, rfl⟩)
            | (go_at_call 10; refine (HAw.out _).mono ?_; rintro e w1 ⟨rfl, J7, d7, rfl⟩))
          go_ret
          exact ⟨rfl, junk_of_below (HJ.out.trans ((show Below V.heap.size V _ by ((try simp only [← Array.append_assoc]); repeat' (first | (with_reducible exact Below.refl _ _) | (with_reducible assumption) | (with_reducible refine Below.alloc ?_ ?_ _) | (with_reducible refine Below.drew ?_) | (with_reducible refine below_drewN ?_ _) | (with_reducible exact below_d _ _ _ _ _) | (with_reducible refine below_snoc _ _ ?_ ?_) | (with_reducible refine below_plus ?_ ?_ _ _) | (with_reducible refine Below.setCell ?_ ?_ _) | (with_reducible refine Below.setRow ?_ ?_ _) | go_size))).mono HJ.out.size))⟩
        · have i2 : i ≥ (k : Int) := by omega
          have i3 : (k : Int) ≤ i := by omega
          clear hi
          go_wp2_with (first
            | (go_at_call 22; (with_reducible refine (HSk.out _ ?_).mono ?_); (exact HTV.out.below (by ((try simp only [← Array.append_assoc]); repeat' (first | (with_reducible exact Below.refl _ _) | (with_reducible assumption) | (with_reducible refine Below.alloc ?_ ?_ _) | (with_reducible refine Below.drew ?_) | (with_reducible refine below_drewN ?_ _) | (with_reducible exact below_d _ _ _ _ _) | (with_reducible refine below_snoc _ _ ?_ ?_) | (with_reducible refine below_plus ?_ ?_ _ _) | (with_reducible refine Below.setCell ?_ ?_ _) | (with_reducible refine Below.setRow ?_ ?_ _) | go_size)))); rintro e w1 ⟨rfl, J5, d5, rfl⟩)
            | (go_at_call 24; (with_reducible refine (HMk.out _ ?_).mono ?_); (exact HTV.out.below (by ((try simp only [← Array.append_assoc]); repeat' (first | (with_reducible exact Below.refl _ _) | (with_reducible assumption) | (with_reducible refine Below.alloc ?_ ?_ _) | (with_reducible refine Below.drew ?_) | (with_reducible refine below_drewN ?_ _) | (with_reducible exact below_d _ _ _ _ _) | (with_reducible refine below_snoc _ _ ?_ ?_) | (with_reducible refine below_plus ?_ ?_ _ _) | (with_reducible refine Below.setCell ?_ ?_ _) | (with_reducible refine Below.setRow ?_ ?_ _) | go_size)))); rintro e w1 ⟨rfl, J6, d6, rfl⟩)
            | (go_at_call 10; refine (HAw.out _).mono ?_; rintro e w1 ⟨rfl, J7, d7, rfl⟩))
          go_ret
          exact ⟨rfl, junk_of_below (HJ.out.trans ((show Below V.heap.size V _ by ((try simp only [← Array.append_assoc]); repeat' (first | (with_reducible exact Below.refl _ _) | (with_reducible assumption) | (with_reducible refine Below.alloc ?_ ?_ _) | (with_reducible refine Below.drew ?_) | (with_reducible refine below_drewN ?_ _) | (with_reducible exact below_d _ _ _ _ _) | (with_reducible refine below_snoc _ _ ?_ ?_) | (with_reducible refine below_plus ?_ ?_ _ _) | (with_reducible refine Below.setCell ?_ ?_ _) | (with_reducible refine Below.setRow ?_ ?_ _) | go_size))).mono HJ.out.size))⟩
theorem l_slabStands (w : World) (a : Option Addr) (n ca : Nat) (R : List (List Pt)) (hR : GRC w a n ca R) (hs : n ≤ 4611686018427387903) (hl : ∀ K ∈ R, K.length ≤ 8796093022208) (i : Int) (_ : -9223372036854775808 ≤ i ∧ i ≤ 9223372036854775807) :
    Calls Tryz.prog 4 #[.agg #[.slice a n ca], .int .i64 i] w fun e w' => e = .returned (.bool true) ∧ Junk w w' := by
  cases h : (decide (22 < R.length) || decide (120 < allN R)) with
  | true => exact stands_big w a n ca R hR hs hl i h
  | false =>
    have h2 : R.length ≤ 22 ∧ allN R ≤ 120 := by
      rw [Bool.or_eq_false_iff, decide_eq_false_iff_not, decide_eq_false_iff_not] at h
      omega
    have hn := hR.len
    have hl2 : ∀ K ∈ R, K.length ≤ 100000 := fun K hK => by have := ring_leR hK; omega
    by_cases hb : (checkR R).1 = 0
    · exact stands_fine w a n ca R hR (by omega) (checkR_fine.1 hb) i h
    · exact stands_bad w a n ca R hR (by omega) hl2 i h hb
end Go.Proofs.YtegliapkbapigaaGreat

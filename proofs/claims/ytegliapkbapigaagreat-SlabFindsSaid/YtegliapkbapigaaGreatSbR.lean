/- The law SlabStacks: the walk. -/
import Derived.Test.YtegliapkbapigaaGreatSbTwo
namespace Go.Proofs.YtegliapkbapigaaGreat
set_option linter.unusedVariables false
set_option linter.unusedSimpArgs false
open Go.RowKit

theorem fineR_ok {R : List (List Pt)} (hf : regFine R) : ∀ p ∈ R.flatten, okC p = true := by
  intro p hp
  obtain ⟨K, hK, hp⟩ := List.mem_flatten.1 hp
  obtain ⟨i, hi, e⟩ := List.mem_iff_getElem.1 hp
  have := (hf.each K hK).ok i hi
  rw [List.getD_eq_getElem?_getD, List.getElem?_eq_getElem hi, Option.getD_some, e] at this
  exact this
theorem fine_fit {R : List (List Pt)} (hf : regFine R) : ∀ p ∈ R.flatten, -1099511627775 ≤ p.2 ∧ p.2 ≤ 1099511627775 := fun p hp => by
  have := fineR_ok hf p hp
  unfold okC at this
  exact (okP_iff.1 this).2
theorem fine_fit2 {R : List (List Pt)} (hf : regFine R) : ∀ p ∈ R.flatten, -9223372036854775808 ≤ p.2 ∧ p.2 ≤ 9223372036854775807 := fun p hp => by
  have := fine_fit hf p hp; omega
theorem fine_bnd2 {R : List (List Pt)} (hf : regFine R) : bndOk R.flatten = true := by
  unfold bndOk
  rw [Bool.and_eq_true]
  refine ⟨decide_eq_true (flat_pos hf), ?_⟩
  unfold allOk
  rw [List.all_eq_true]
  intro p hp
  exact fineR_ok hf p hp
theorem hgt_fit {R : List (List Pt)} (hf : regFine R) {i : Nat} (hi : i < (hgtL R).length) : -1099511627775 ≤ (hgtL R).getD i 0 ∧ (hgtL R).getD i 0 ≤ 1099511627775 := by
  obtain ⟨K, hK, p, hp, e⟩ := hgtL_mem.1 (getD_memI hi)
  have := fine_fit hf p (List.mem_flatten.2 ⟨K, hK, hp⟩)
  omega
theorem reg_out {R : List (List Pt)} (hf : regFine R) {px py : Int} (h : py < lyF R.flatten R.flatten.length ∨ hyF R.flatten R.flatten.length + 1 ≤ py ∨ px < lxF R.flatten R.flatten.length ∨ hxF R.flatten R.flatten.length + 1 ≤ px) : regQ (px, py) R = false := by
  cases hq : regQ (px, py) R with
  | false => rfl
  | true =>
    have := reg_bnd (p := (px, py)) (R := R) (fineR_ok hf) hq
    unfold inF at this
    simp only [Bool.and_eq_true, decide_eq_true_eq] at this
    omega
theorem fldS_0 (x y : Int) (w : World) : (Instr.field 32 (.agg #[.int .i64 x, .int .i64 y]) 0).run Tryz.prog w = .ok (.int .i64 x) w := by kernel_rfl
attribute [go_sem] fldS_0
/-- The calls of a law that builds slabs of a region that is none. -/
theorem build_bad (w : World) (a : Option Addr) (n ca : Nat) (R : List (List Pt)) (hR : GRC w a n ca R) (hs : n ≤ 1000) (hl : ∀ K ∈ R, K.length ≤ 100000) (x : Int) (y : Nat) (hxy : checkR R = (x, y)) (hbad : x ≠ 0) :
    Calls Tryz.prog 12 #[.agg #[.slice a n ca]] w fun e w' => e = .returned (.tuple #[.pointer none, .agg #[.int .i64 x, .int .i64 (y : Int)]]) ∧ Junk w w' := by
  have := n_sbBuildBad w a n ca R hR hs hl (by rw [hxy]; exact hbad)
  rw [hxy] at this
  exact this
set_option maxRecDepth 100000 in
theorem stacks_big (w : World) (a : Option Addr) (n ca : Nat) (R : List (List Pt)) (hR : GRC w a n ca R) (hs : n ≤ 4611686018427387903) (hl : ∀ K ∈ R, K.length ≤ 8796093022208) (px py : Int) (h : (decide (22 < R.length) || decide (120 < allN R)) = true) :
    Calls Tryz.prog 7 #[.agg #[.slice a n ca], pt px py] w fun e w' => e = .returned (.bool true) ∧ Junk w w' := by
  have HKn := Lib.hid l_slabKnown
  have HR := Lib.hid hR
  have HL := Lib.hid (fun w' h => k_BigRegion 120 (by decide) w' a n ca R h hs hl)
  rw [h] at HL
  unfold pt
  clear hR h
  go_enter Tryz.func7, Tryz.ntmps7
  go_wp2_with (first | (go_at_call 6; refine (HKn.out _).mono ?_; rintro e w1 ⟨rfl, J1, d1, rfl⟩) | (go_at_call 9; refine (HL.out _ (HR.out.below (by ((try simp only [← Array.append_assoc]); repeat' (first | (with_reducible exact Below.refl _ _) | (with_reducible assumption) | (with_reducible refine Below.alloc ?_ ?_ _) | (with_reducible refine Below.drew ?_) | (with_reducible refine below_drewN ?_ _) | (with_reducible exact below_d _ _ _ _ _) | (with_reducible refine below_snoc _ _ ?_ ?_) | (with_reducible refine below_plus ?_ ?_ _ _) | (with_reducible refine Below.setCell ?_ ?_ _) | (with_reducible refine Below.setRow ?_ ?_ _) | go_size))))).mono ?_; rintro e w1 ⟨rfl, J2, d2, rfl⟩))
  go_ret
  exact ⟨rfl, junk_of_below (by (repeat' (first | (with_reducible exact Below.refl _ _) | (with_reducible assumption) | (with_reducible refine Below.alloc ?_ ?_ _) | (with_reducible refine Below.drew ?_) | (with_reducible refine below_drewN ?_ _) | (with_reducible refine below_plus ?_ ?_ _ _) | (with_reducible refine Below.setCell ?_ ?_ _) | (with_reducible refine Below.setRow ?_ ?_ _) | go_size)))⟩
set_option maxRecDepth 100000 in
set_option maxHeartbeats 4000000 in
theorem stacks_bad (w : World) (a : Option Addr) (n ca : Nat) (R : List (List Pt)) (hR : GRC w a n ca R) (hs : n ≤ 1000) (hl : ∀ K ∈ R, K.length ≤ 100000) (px py : Int) (h : (decide (22 < R.length) || decide (120 < allN R)) = false) (hbad : (checkR R).1 ≠ 0) :
    Calls Tryz.prog 7 #[.agg #[.slice a n ca], pt px py] w fun e w' => e = .returned (.bool true) ∧ Junk w w' := by
  have HKn := Lib.hid l_slabKnown
  have HR := Lib.hid hR
  have HL := Lib.hid (fun w' h => k_BigRegion 120 (by decide) w' a n ca R h (by omega) (fun K hK => by have := hl K hK; omega))
  rw [h] at HL
  obtain ⟨⟨x, y⟩, hxy⟩ : ∃ z, checkR R = z := ⟨_, rfl⟩
  rw [hxy] at hbad
  simp only at hbad
  have HBd := Lib.hid (fun w' h => build_bad w' a n ca R h hs hl x y hxy hbad)
  have HC := Lib.hid (fun w' h => c_reCheck w' a n ca R h hs hl)
  rw [hxy] at HC
  unfold fltV at HC
  simp only at HC
  unfold pt
  have e1 : (x != 0) = true := by simpa using hbad
  have e2 : (x == 0) = false := by simpa using hbad
  clear hR h hxy hbad hl
  go_enter Tryz.func7, Tryz.ntmps7
  go_upto_region 5 with (first
    | (go_at_call 6; refine (HKn.out _).mono ?_; rintro e w1 ⟨rfl, J1, d1, rfl⟩)
    | (go_at_call 9; refine (HL.out _ (HR.out.below (by ((try simp only [← Array.append_assoc]); repeat' (first | (with_reducible exact Below.refl _ _) | (with_reducible assumption) | (with_reducible refine Below.alloc ?_ ?_ _) | (with_reducible refine Below.drew ?_) | (with_reducible refine below_drewN ?_ _) | (with_reducible exact below_d _ _ _ _ _) | (with_reducible refine below_snoc _ _ ?_ ?_) | (with_reducible refine below_plus ?_ ?_ _ _) | (with_reducible refine Below.setCell ?_ ?_ _) | (with_reducible refine Below.setRow ?_ ?_ _) | go_size))))).mono ?_; rintro e w1 ⟨rfl, J2, d2, rfl⟩)
    | (go_at_call 12; (with_reducible refine (HBd.out _ (HR.out.below (by ((try simp only [← Array.append_assoc]); repeat' (first | (with_reducible exact Below.refl _ _) | (with_reducible assumption) | (with_reducible refine Below.alloc ?_ ?_ _) | (with_reducible refine Below.drew ?_) | (with_reducible refine below_drewN ?_ _) | (with_reducible exact below_d _ _ _ _ _) | (with_reducible refine below_snoc _ _ ?_ ?_) | (with_reducible refine below_plus ?_ ?_ _ _) | (with_reducible refine Below.setCell ?_ ?_ _) | (with_reducible refine Below.setRow ?_ ?_ _) | go_size))))).mono ?_); rintro e w1 ⟨rfl, J3, d3, rfl⟩))
  obtain ⟨fb, hfb⟩ : ∃ f, w.heap.size + 1 + 1 + (J1.size + (J2.size + J3.size)) = f := ⟨_, rfl⟩
  obtain ⟨W, hW⟩ : ∃ W, (((w.alloc (Obj.cells #[Value.slice a n ca] 24)).alloc (Obj.cells #[Value.int IntKind.i64 px, Value.int IntKind.i64 py] 40)).plus (J1 ++ (J2 ++ J3)) d3).alloc (Obj.cells #[Value.int IntKind.i64 x, Value.int IntKind.i64 (y : Int)] 32) = W := ⟨_, rfl⟩
  have r0 : W.cell? ⟨w.heap.size, 0, none⟩ = some (.slice a n ca) := by rw [← hW]; simp [go_sem]
  have f0 : W.cell? ⟨fb, 0, none⟩ = some (.int .i64 x) := by rw [← hW, ← hfb]; simp [go_sem]
  have hj : Below w.heap.size w W := by rw [← hW]; ((try simp only [← Array.append_assoc]); repeat' (first | (with_reducible exact Below.refl _ _) | (with_reducible assumption) | (with_reducible refine Below.alloc ?_ ?_ _) | (with_reducible refine Below.drew ?_) | (with_reducible refine below_drewN ?_ _) | (with_reducible exact below_d _ _ _ _ _) | (with_reducible refine below_snoc _ _ ?_ ?_) | (with_reducible refine below_plus ?_ ?_ _ _) | (with_reducible refine Below.setCell ?_ ?_ _) | (with_reducible refine Below.setRow ?_ ?_ _) | go_size))
  have HJ := Lib.hid hj
  have l0 := World.block_lt_of_cell? _ _ r0
  have l1 := World.block_lt_of_cell? _ _ f0
  have HC1 := Lib.hid (fun (J : Array Obj) (d : Nat) => HC.out (W.plus J d) ((HR.out.below (show Below w.heap.size w W from HJ.out)).below (Junk.below ⟨J, d, rfl⟩)))
  rw [hW]
  simp only [hfb]
  clear hW hfb hj
  refine region_quiet_all (C := Cls W) (by kernel_rfl) (by kernel_rfl) (by first | exact cls_drawn _ | exact ⟨#[], _, (plus_nil _).symm⟩) ?_
  repeat (first | (refine qw_skip (by rfl) ?_; simp only [Act.put, List.setIfInBounds_toArray, List.set_cons_succ, List.set_cons_zero]) | (refine qw_want (by rfl) (fun K hK => ?_); go_simp; first | (refine hK _ ?_; clear hK K) | (apply Exists.intro; refine ⟨?_, hK _ ?_⟩; (rintro w3_ ⟨J3_, d3_, rfl⟩; first | (with_reducible exact rfl) | (go_simp; with_reducible exact rfl) | (go_simp; (first | (with_reducible refine (HKn.out _).mono ?_) | (with_reducible refine (HC1.out _ _).mono ?_)); rintro e_ w_ ⟨rfl, J4_, d4_, rfl⟩; exact ⟨rfl, J3_ ++ J4_, d4_, by simp only [plus_plus, Array.append_assoc]⟩)); clear hK K)))
  refine qw_nil ?_
  rintro w4 ⟨J9, d9, rfl⟩
  go_wp2_with fail
  go_ret
  exact ⟨rfl, junk_of_below (HJ.out.trans ((show Below W.heap.size W _ by ((try simp only [← Array.append_assoc]); repeat' (first | (with_reducible exact Below.refl _ _) | (with_reducible assumption) | (with_reducible refine Below.alloc ?_ ?_ _) | (with_reducible refine Below.drew ?_) | (with_reducible refine below_drewN ?_ _) | (with_reducible exact below_d _ _ _ _ _) | (with_reducible refine below_snoc _ _ ?_ ?_) | (with_reducible refine below_plus ?_ ?_ _ _) | (with_reducible refine Below.setCell ?_ ?_ _) | (with_reducible refine Below.setRow ?_ ?_ _) | go_size))).mono HJ.out.size))⟩
/-- Between two rounds: the last slab's end. -/
def StAt (W : World) (H : List Int) (m : Nat) (x y : Value) (wr : World) : Prop := ∃ k : Nat, y = .int .i64 (k : Int) ∧ k ≤ m ∧ x = .int .i64 (H.getD k 0) ∧ Cls W wr
set_option maxRecDepth 100000 in
set_option maxHeartbeats 8000000 in
theorem stacks_fine (w : World) (a : Option Addr) (n ca : Nat) (R : List (List Pt)) (hR : GRC w a n ca R) (hs : n ≤ 1000) (hf : regFine R) (px py : Int) (h : (decide (22 < R.length) || decide (120 < allN R)) = false) :
    Calls Tryz.prog 7 #[.agg #[.slice a n ca], pt px py] w fun e w' => e = .returned (.bool true) ∧ Junk w w' := by
  have hl : ∀ K ∈ R, K.length ≤ 100000 := fun K hK => by have := ring_leR hK; have := hf.many; omega
  have HKn := Lib.hid l_slabKnown
  have HR := Lib.hid hR
  have HL := Lib.hid (fun w' h => k_BigRegion 120 (by decide) w' a n ca R h (by omega) (fun K hK => by have := hl K hK; omega))
  rw [h] at HL
  have HBd := Lib.hid (fun w' h => n_sbBuild w' a n ca R h hs hf (fine_fit2 hf))
  have HC := Lib.hid (fun w' h => c_reCheck w' a n ca R h hs hl)
  rw [check_zero (checkR_fine.2 hf)] at HC
  have HBx := Lib.hid (fun w' h => c_reBox w' a n ca R h hs (by have h1 := hf.many; unfold allN at h1; rw [List.length_flatten]; omega))
  rw [boxV_some (fine_bnd2 hf), fine_bnd2 hf] at HBx
  unfold fltV at HC
  simp only at HC
  obtain ⟨m, hm, hm0⟩ : ∃ m, (hgtL R).length = m + 1 ∧ 0 < m := ⟨(hgtL R).length - 1, by have := hgtL_len hf; omega, by have := hgtL_len hf; omega⟩
  have hmm : m ≤ 400 := by have := hgtL_few R; have := hf.many; omega
  have hfirst := hgt_first hf
  have hlast := hgt_last hf
  rw [hm, show m + 1 - 1 = m from rfl] at hlast
  have hlf := hgt_fit hf (i := m) (by omega)
  have hout := fun hh => reg_out (px := px) (py := py) hf hh
  have HI := Lib.hid (fun (B T sb : Nat) (W : World) (hW : SlabB W B T sb R) => n_slIn hW px py)
  have HLe := Lib.hid (fun (B T sb : Nat) (W : World) (hW : SlabB W B T sb R) => len_is R m (by omega) W B T sb hW)
  have HMo := Lib.hid (fun (B T sb : Nat) (W : World) (hW : SlabB W B T sb R) => n_slMost hW)
  rw [hm, show m + 1 - 1 = m from rfl] at HMo
  have HSl := Lib.hid (fun (B T sb : Nat) (W : World) (hW : SlabB W B T sb R) (k : Nat) (hk : k < m) => show Calls Tryz.prog 22 #[.pointer (some ⟨sb, 0, none⟩), .int .i64 (k : Int)] W fun e w' => e = .returned (.tuple #[.int .i64 ((hgtL R).getD k 0), .int .i64 ((hgtL R).getD (k + 1) 0), .int .i64 ((slabN R k : Nat) : Int), .int .i64 0]) ∧ Junk W w' by
    have := n_slSlab hW (k : Int)
    unfold slabV at this
    rw [if_pos (by rw [hm]; omega), Int.toNat_natCast] at this
    exact this)
  have HFa := Lib.hid (show ∀ k, k < m → (hgtL R).getD k 0 < (hgtL R).getD (k + 1) 0 ∧ slabN R k % 2 = 0 ∧ slabN R k ≤ mostK R m ∧ (k = 0 ∨ k + 1 = m → 2 ≤ slabN R k) from fun k hk => ⟨hgtL_up (by omega), tot_slab_even (by omega), most_ge R hk, fun he => tot_edge hf (by omega) (by omega)⟩)
  have hmo := most_le R (fun K hK => by have := (hf.each K hK).few; omega) m
  have hmany := hf.many
  generalize lyF R.flatten R.flatten.length = A2 at *
  generalize hyF R.flatten R.flatten.length = A4 at *
  generalize lxF R.flatten R.flatten.length = A1 at *
  generalize hxF R.flatten R.flatten.length + 1 = A3 at *
  have HFir := Lib.hid hfirst
  have HLas := Lib.hid hlast
  have hA4 : -1099511627775 ≤ A4 ∧ A4 ≤ 1099511627775 := by rw [← hlast]; exact hlf
  have hA5 : IntKind.i64.wrap (A4 + 1 - 1) = A4 := by simp [IntKind.wrap, IntKind.signed, IntKind.bits]; omega
  have HOut := Lib.hid hout
  generalize mostK R m = M at *
  unfold pt bxV at *
  clear hR h hf hl hm hfirst hlast hlf hout
  go_enter Tryz.func7, Tryz.ntmps7
  go_upto_region 5 with (first
    | (go_at_call 6; refine (HKn.out _).mono ?_; rintro e w1 ⟨rfl, J1, d1, rfl⟩)
    | (go_at_call 9; refine (HL.out _ (HR.out.below (by ((try simp only [← Array.append_assoc]); repeat' (first | (with_reducible exact Below.refl _ _) | (with_reducible assumption) | (with_reducible refine Below.alloc ?_ ?_ _) | (with_reducible refine Below.drew ?_) | (with_reducible refine below_drewN ?_ _) | (with_reducible exact below_d _ _ _ _ _) | (with_reducible refine below_snoc _ _ ?_ ?_) | (with_reducible refine below_plus ?_ ?_ _ _) | (with_reducible refine Below.setCell ?_ ?_ _) | (with_reducible refine Below.setRow ?_ ?_ _) | go_size))))).mono ?_; rintro e w1 ⟨rfl, J2, d2, rfl⟩)
    | (go_at_call 12; (with_reducible refine (HBd.out _ (HR.out.below (by ((try simp only [← Array.append_assoc]); repeat' (first | (with_reducible exact Below.refl _ _) | (with_reducible assumption) | (with_reducible refine Below.alloc ?_ ?_ _) | (with_reducible refine Below.drew ?_) | (with_reducible refine below_drewN ?_ _) | (with_reducible exact below_d _ _ _ _ _) | (with_reducible refine below_snoc _ _ ?_ ?_) | (with_reducible refine below_plus ?_ ?_ _ _) | (with_reducible refine Below.setCell ?_ ?_ _) | (with_reducible refine Below.setRow ?_ ?_ _) | go_size))))).mono ?_); rintro e w1 ⟨⟨sb, rfl, ht⟩, J3, d3, rfl⟩; (try simp only [plus_plus, Array.append_assoc] at ht); have HT := Lib.hid ht; clear ht))
  obtain ⟨fb, hfb⟩ : ∃ f, w.heap.size + 1 + 1 + (J1.size + (J2.size + J3.size)) = f := ⟨_, rfl⟩
  obtain ⟨W, hW⟩ : ∃ W, (((w.alloc (Obj.cells #[Value.slice a n ca] 24)).alloc (Obj.cells #[Value.int IntKind.i64 px, Value.int IntKind.i64 py] 40)).plus (J1 ++ (J2 ++ J3)) d3).alloc (Obj.cells #[Value.int IntKind.i64 0, Value.int IntKind.i64 0] 32) = W := ⟨_, rfl⟩
  have r0 : W.cell? ⟨w.heap.size, 0, none⟩ = some (.slice a n ca) := by rw [← hW]; simp [go_sem]
  have p0 : W.cell? ⟨w.heap.size + 1, 0, none⟩ = some (.int .i64 px) := by rw [← hW]; simp [go_sem]
  have p1 : W.cell? ⟨w.heap.size + 1, 1, none⟩ = some (.int .i64 py) := by rw [← hW]; simp [go_sem]
  have f0 : W.cell? ⟨fb, 0, none⟩ = some (.int .i64 0) := by rw [← hW, ← hfb]; simp [go_sem]
  have hj : Below w.heap.size w W := by rw [← hW]; ((try simp only [← Array.append_assoc]); repeat' (first | (with_reducible exact Below.refl _ _) | (with_reducible assumption) | (with_reducible refine Below.alloc ?_ ?_ _) | (with_reducible refine Below.drew ?_) | (with_reducible refine below_drewN ?_ _) | (with_reducible exact below_d _ _ _ _ _) | (with_reducible refine below_snoc _ _ ?_ ?_) | (with_reducible refine below_plus ?_ ?_ _ _) | (with_reducible refine Below.setCell ?_ ?_ _) | (with_reducible refine Below.setRow ?_ ?_ _) | go_size))
  have HJ := Lib.hid hj
  have hT : ∃ B T, SlabB W B T sb R := ⟨_, _, by rw [← hW]; exact HT.out.below (by ((try simp only [← Array.append_assoc]); repeat' (first | (with_reducible exact Below.refl _ _) | (with_reducible assumption) | (with_reducible refine Below.alloc ?_ ?_ _) | (with_reducible refine Below.drew ?_) | (with_reducible refine below_drewN ?_ _) | (with_reducible exact below_d _ _ _ _ _) | (with_reducible refine below_snoc _ _ ?_ ?_) | (with_reducible refine below_plus ?_ ?_ _ _) | (with_reducible refine Below.setCell ?_ ?_ _) | (with_reducible refine Below.setRow ?_ ?_ _) | go_size)))⟩
  obtain ⟨B, T, hT⟩ := hT
  have HTW := Lib.hid hT
  have HRW := Lib.hid (HR.out.below (show Below w.heap.size w W from HJ.out))
  have l0 := World.block_lt_of_cell? _ _ r0
  have l1 := World.block_lt_of_cell? _ _ f0
  have l2 := World.block_lt_of_cell? _ _ p0
  have HC1 := Lib.hid (fun (J : Array Obj) (d : Nat) => HC.out (W.plus J d) (HRW.out.below (Junk.below ⟨J, d, rfl⟩)))
  rw [hW]
  simp only [hfb]
  clear hW hfb hj hT HT
  refine region_quiet_all (C := Cls W) (by kernel_rfl) (by kernel_rfl) (by first | exact cls_drawn _ | exact ⟨#[], _, (plus_nil _).symm⟩) ?_
  repeat (first | (refine qw_skip (by rfl) ?_; simp only [Act.put, List.setIfInBounds_toArray, List.set_cons_succ, List.set_cons_zero]) | (refine qw_want (by rfl) (fun K hK => ?_); go_simp; first | (refine hK _ ?_; clear hK K) | (apply Exists.intro; refine ⟨?_, hK _ ?_⟩; (rintro w3_ ⟨J3_, d3_, rfl⟩; first | (with_reducible exact rfl) | (go_simp; with_reducible exact rfl) | (go_simp; (first | (with_reducible refine (HKn.out _).mono ?_) | (with_reducible refine (HC1.out _ _).mono ?_)); rintro e_ w_ ⟨rfl, J4_, d4_, rfl⟩; exact ⟨rfl, J3_ ++ J4_, d4_, by simp only [plus_plus, Array.append_assoc]⟩)); clear hK K)))
  refine qw_nil ?_
  rintro w4 ⟨J9, d9, rfl⟩
  go_wp2_with (first
    | (go_at_call 28; refine (HBx.out _ (HRW.out.below (by ((try simp only [← Array.append_assoc]); repeat' (first | (with_reducible exact Below.refl _ _) | (with_reducible assumption) | (with_reducible refine Below.alloc ?_ ?_ _) | (with_reducible refine Below.drew ?_) | (with_reducible refine below_drewN ?_ _) | (with_reducible exact below_d _ _ _ _ _) | (with_reducible refine below_snoc _ _ ?_ ?_) | (with_reducible refine below_plus ?_ ?_ _ _) | (with_reducible refine Below.setCell ?_ ?_ _) | (with_reducible refine Below.setRow ?_ ?_ _) | go_size))))).mono ?_; rintro e w1 ⟨rfl, J4, d4, rfl⟩)
    | (go_at_call 21; (with_reducible refine (HLe.out B T sb _ ?_).mono ?_); (exact HTW.out.below (by ((try simp only [← Array.append_assoc]); repeat' (first | (with_reducible exact Below.refl _ _) | (with_reducible assumption) | (with_reducible refine Below.alloc ?_ ?_ _) | (with_reducible refine Below.drew ?_) | (with_reducible refine below_drewN ?_ _) | (with_reducible exact below_d _ _ _ _ _) | (with_reducible refine below_snoc _ _ ?_ ?_) | (with_reducible refine below_plus ?_ ?_ _ _) | (with_reducible refine Below.setCell ?_ ?_ _) | (with_reducible refine Below.setRow ?_ ?_ _) | go_size)))); rintro e w1 ⟨rfl, hw⟩; rw [hw]; clear hw))
  obtain ⟨vb, hvb⟩ : ∃ v, W.heap.size + (J9.size + J4.size) = v := ⟨_, rfl⟩
  obtain ⟨V, hV⟩ : ∃ V, (W.plus (J9 ++ J4) d4).alloc (Obj.cells #[Value.int IntKind.i64 A1, Value.int IntKind.i64 A2, Value.int IntKind.i64 A3, Value.int IntKind.i64 (A4 + 1)] 59) = V := ⟨_, rfl⟩
  have b0 : V.cell? ⟨vb, 0, none⟩ = some (.int .i64 A1) := by rw [← hV, ← hvb]; simp [go_sem]
  have b1 : V.cell? ⟨vb, 1, none⟩ = some (.int .i64 A2) := by rw [← hV, ← hvb]; simp [go_sem]
  have b2 : V.cell? ⟨vb, 2, none⟩ = some (.int .i64 A3) := by rw [← hV, ← hvb]; simp [go_sem]
  have b3 : V.cell? ⟨vb, 3, none⟩ = some (.int .i64 (A4 + 1)) := by rw [← hV, ← hvb]; simp [go_sem]
  have hWV : Below W.heap.size W V := by rw [← hV]; ((try simp only [← Array.append_assoc]); repeat' (first | (with_reducible exact Below.refl _ _) | (with_reducible assumption) | (with_reducible refine Below.alloc ?_ ?_ _) | (with_reducible refine Below.drew ?_) | (with_reducible refine below_drewN ?_ _) | (with_reducible exact below_d _ _ _ _ _) | (with_reducible refine below_snoc _ _ ?_ ?_) | (with_reducible refine below_plus ?_ ?_ _ _) | (with_reducible refine Below.setCell ?_ ?_ _) | (with_reducible refine Below.setRow ?_ ?_ _) | go_size))
  have q0 : V.cell? ⟨w.heap.size + 1, 0, none⟩ = some (.int .i64 px) := (World.cell?_of_block (a := ⟨w.heap.size + 1, 0, none⟩) (hWV.block (w.heap.size + 1) l2)).trans p0
  have q1 : V.cell? ⟨w.heap.size + 1, 1, none⟩ = some (.int .i64 py) := (World.cell?_of_block (a := ⟨w.heap.size + 1, 1, none⟩) (hWV.block (w.heap.size + 1) l2)).trans p1
  have HTV := Lib.hid (HTW.out.below hWV)
  have HJV := Lib.hid (HJ.out.trans (hWV.mono HJ.out.size))
  have m0 := World.block_lt_of_cell? _ _ b0
  have m1 := World.block_lt_of_cell? _ _ q0
  rw [hV]
  simp only [hvb]
  clear hV hvb hWV r0 p0 p1 f0 l0 l1 l2 HTW HRW HC1 HC HBx HBd HL HJ
  go_loopw [10, 11] (fun x y wr => StAt V (hgtL R) m x y wr) (fun _ y _ => m - (intOf y).toNat)
  case atStart => exact ⟨0, rfl, by omega, by rw [HFir.out], #[], _, (plus_nil _).symm⟩
  case round =>
    obtain ⟨k, rfl, k1, rfl, J, d, rfl⟩ := hrel
    by_cases hlt : k < m
    · obtain ⟨g1, g2, g3, g4⟩ := HFa.out k hlt
      have HS1 := Lib.hid (fun W hW => HSl.out B T sb W hW k hlt)
      obtain ⟨y1, hy1⟩ : ∃ y, (hgtL R).getD (k + 1) 0 = y := ⟨_, rfl⟩
      rw [hy1] at g1 HS1
      have HY := Lib.hid hy1
      generalize (hgtL R).getD k 0 = y0 at *
      generalize slabN R k = q at *
      have i1 : (k : Int) < (m : Int) := by omega
      have i2 : ¬ y1 ≤ y0 := by omega
      have i3 : ¬ (q : Int) < 0 := by omega
      have i4 : (q : Int).tmod 2 = 0 := by rw [Int.tmod_eq_emod_of_nonneg (by omega)]; omega
      have i5 : (q : Int) % 2 = 0 := by omega
      have i6 : ¬ (q : Int) > (M : Int) := by omega
      have i7 : IntKind.i64.wrap ((m : Int) - 1) = ((m - 1 : Nat) : Int) := by simp [IntKind.wrap, IntKind.signed, IntKind.bits]; omega
      clear hy1 g2 g3
      by_cases hk0 : k = 0
      · subst hk0
        have i8 : ¬ (q : Int) < 2 := by have := g4 (.inl rfl); omega
        clear g4
        go_wp2_with (first
          | (go_at_call 21; (with_reducible refine (HLe.out B T sb _ ?_).mono ?_); (exact HTV.out.below (by ((try simp only [← Array.append_assoc]); repeat' (first | (with_reducible exact Below.refl _ _) | (with_reducible assumption) | (with_reducible refine Below.alloc ?_ ?_ _) | (with_reducible refine Below.drew ?_) | (with_reducible refine below_drewN ?_ _) | (with_reducible exact below_d _ _ _ _ _) | (with_reducible refine below_snoc _ _ ?_ ?_) | (with_reducible refine below_plus ?_ ?_ _ _) | (with_reducible refine Below.setCell ?_ ?_ _) | (with_reducible refine Below.setRow ?_ ?_ _) | go_size)))); rintro e w1 ⟨rfl, hw⟩; rw [hw]; clear hw)
          | (go_at_call 22; (refine (HS1.out _ ?_).mono ?_); (exact HTV.out.below (by ((try simp only [← Array.append_assoc]); repeat' (first | (with_reducible exact Below.refl _ _) | (with_reducible assumption) | (with_reducible refine Below.alloc ?_ ?_ _) | (with_reducible refine Below.drew ?_) | (with_reducible refine below_drewN ?_ _) | (with_reducible exact below_d _ _ _ _ _) | (with_reducible refine below_snoc _ _ ?_ ?_) | (with_reducible refine below_plus ?_ ?_ _ _) | (with_reducible refine Below.setCell ?_ ?_ _) | (with_reducible refine Below.setRow ?_ ?_ _) | go_size)))); rintro e w1 ⟨rfl, J5, d5, rfl⟩)
          | (go_at_call 24; (with_reducible refine (HMo.out B T sb _ ?_).mono ?_); (exact HTV.out.below (by ((try simp only [← Array.append_assoc]); repeat' (first | (with_reducible exact Below.refl _ _) | (with_reducible assumption) | (with_reducible refine Below.alloc ?_ ?_ _) | (with_reducible refine Below.drew ?_) | (with_reducible refine below_drewN ?_ _) | (with_reducible exact below_d _ _ _ _ _) | (with_reducible refine below_snoc _ _ ?_ ?_) | (with_reducible refine below_plus ?_ ?_ _ _) | (with_reducible refine Below.setCell ?_ ?_ _) | (with_reducible refine Below.setRow ?_ ?_ _) | go_size)))); rintro e w1 ⟨rfl, J6, d6, rfl⟩))
        go_roundw
        case rel => exact ⟨1, by go_num, by omega, by rw [HY.out], _, _, rfl⟩
        case measure => simp [intOf]; omega
      · have j0 : ((k : Int) == 0) = false := by rw [beq_eq_false_iff_ne]; omega
        by_cases hkm : k + 1 = m
        · have j1 : ((k : Int) == ((m - 1 : Nat) : Int)) = true := by rw [beq_iff_eq]; omega
          have i8 : ¬ (q : Int) < 2 := by have := g4 (.inr hkm); omega
          clear g4 hkm hk0
          go_wp2_with (first
            | (go_at_call 21; (with_reducible refine (HLe.out B T sb _ ?_).mono ?_); (exact HTV.out.below (by ((try simp only [← Array.append_assoc]); repeat' (first | (with_reducible exact Below.refl _ _) | (with_reducible assumption) | (with_reducible refine Below.alloc ?_ ?_ _) | (with_reducible refine Below.drew ?_) | (with_reducible refine below_drewN ?_ _) | (with_reducible exact below_d _ _ _ _ _) | (with_reducible refine below_snoc _ _ ?_ ?_) | (with_reducible refine below_plus ?_ ?_ _ _) | (with_reducible refine Below.setCell ?_ ?_ _) | (with_reducible refine Below.setRow ?_ ?_ _) | go_size)))); rintro e w1 ⟨rfl, hw⟩; rw [hw]; clear hw)
            | (go_at_call 22; (refine (HS1.out _ ?_).mono ?_); (exact HTV.out.below (by ((try simp only [← Array.append_assoc]); repeat' (first | (with_reducible exact Below.refl _ _) | (with_reducible assumption) | (with_reducible refine Below.alloc ?_ ?_ _) | (with_reducible refine Below.drew ?_) | (with_reducible refine below_drewN ?_ _) | (with_reducible exact below_d _ _ _ _ _) | (with_reducible refine below_snoc _ _ ?_ ?_) | (with_reducible refine below_plus ?_ ?_ _ _) | (with_reducible refine Below.setCell ?_ ?_ _) | (with_reducible refine Below.setRow ?_ ?_ _) | go_size)))); rintro e w1 ⟨rfl, J5, d5, rfl⟩)
            | (go_at_call 24; (with_reducible refine (HMo.out B T sb _ ?_).mono ?_); (exact HTV.out.below (by ((try simp only [← Array.append_assoc]); repeat' (first | (with_reducible exact Below.refl _ _) | (with_reducible assumption) | (with_reducible refine Below.alloc ?_ ?_ _) | (with_reducible refine Below.drew ?_) | (with_reducible refine below_drewN ?_ _) | (with_reducible exact below_d _ _ _ _ _) | (with_reducible refine below_snoc _ _ ?_ ?_) | (with_reducible refine below_plus ?_ ?_ _ _) | (with_reducible refine Below.setCell ?_ ?_ _) | (with_reducible refine Below.setRow ?_ ?_ _) | go_size)))); rintro e w1 ⟨rfl, J6, d6, rfl⟩))
          go_roundw
          case rel => exact ⟨k + 1, by go_num, by omega, by rw [HY.out], _, _, rfl⟩
          case measure => simp [intOf]; omega
        · have j1 : ((k : Int) == ((m - 1 : Nat) : Int)) = false := by rw [beq_eq_false_iff_ne]; omega
          clear g4 hkm hk0
          go_wp2_with (first
            | (go_at_call 21; (with_reducible refine (HLe.out B T sb _ ?_).mono ?_); (exact HTV.out.below (by ((try simp only [← Array.append_assoc]); repeat' (first | (with_reducible exact Below.refl _ _) | (with_reducible assumption) | (with_reducible refine Below.alloc ?_ ?_ _) | (with_reducible refine Below.drew ?_) | (with_reducible refine below_drewN ?_ _) | (with_reducible exact below_d _ _ _ _ _) | (with_reducible refine below_snoc _ _ ?_ ?_) | (with_reducible refine below_plus ?_ ?_ _ _) | (with_reducible refine Below.setCell ?_ ?_ _) | (with_reducible refine Below.setRow ?_ ?_ _) | go_size)))); rintro e w1 ⟨rfl, hw⟩; rw [hw]; clear hw)
            | (go_at_call 22; (refine (HS1.out _ ?_).mono ?_); (exact HTV.out.below (by ((try simp only [← Array.append_assoc]); repeat' (first | (with_reducible exact Below.refl _ _) | (with_reducible assumption) | (with_reducible refine Below.alloc ?_ ?_ _) | (with_reducible refine Below.drew ?_) | (with_reducible refine below_drewN ?_ _) | (with_reducible exact below_d _ _ _ _ _) | (with_reducible refine below_snoc _ _ ?_ ?_) | (with_reducible refine below_plus ?_ ?_ _ _) | (with_reducible refine Below.setCell ?_ ?_ _) | (with_reducible refine Below.setRow ?_ ?_ _) | go_size)))); rintro e w1 ⟨rfl, J5, d5, rfl⟩)
            | (go_at_call 24; (with_reducible refine (HMo.out B T sb _ ?_).mono ?_); (exact HTV.out.below (by ((try simp only [← Array.append_assoc]); repeat' (first | (with_reducible exact Below.refl _ _) | (with_reducible assumption) | (with_reducible refine Below.alloc ?_ ?_ _) | (with_reducible refine Below.drew ?_) | (with_reducible refine below_drewN ?_ _) | (with_reducible exact below_d _ _ _ _ _) | (with_reducible refine below_snoc _ _ ?_ ?_) | (with_reducible refine below_plus ?_ ?_ _ _) | (with_reducible refine Below.setCell ?_ ?_ _) | (with_reducible refine Below.setRow ?_ ?_ _) | go_size)))); rintro e w1 ⟨rfl, J6, d6, rfl⟩))
          go_roundw
          case rel => exact ⟨k + 1, by go_num, by omega, by rw [HY.out], _, _, rfl⟩
          case measure => simp [intOf]; omega
    · obtain rfl : k = m := by omega
      rw [HLas.out]
      have i1 : ¬ (k : Int) < (k : Int) := by omega
      have hO := HOut.out
      generalize regQ (px, py) R = r at *
      have HIn := Lib.hid (fun W hW => HI.out B T sb W hW)
      clear HFa HSl HMo HOut HI
      by_cases c1 : py < A2
      · obtain rfl := hO (.inl c1)
        clear hO
        go_wp2_with (first
          | (go_at_call 21; (with_reducible refine (HLe.out B T sb _ ?_).mono ?_); (exact HTV.out.below (by ((try simp only [← Array.append_assoc]); repeat' (first | (with_reducible exact Below.refl _ _) | (with_reducible assumption) | (with_reducible refine Below.alloc ?_ ?_ _) | (with_reducible refine Below.drew ?_) | (with_reducible refine below_drewN ?_ _) | (with_reducible exact below_d _ _ _ _ _) | (with_reducible refine below_snoc _ _ ?_ ?_) | (with_reducible refine below_plus ?_ ?_ _ _) | (with_reducible refine Below.setCell ?_ ?_ _) | (with_reducible refine Below.setRow ?_ ?_ _) | go_size)))); rintro e w1 ⟨rfl, hw⟩; rw [hw]; clear hw)
          | (go_at_call 16; (with_reducible refine (HIn.out _ ?_).mono ?_); (exact HTV.out.below (by ((try simp only [← Array.append_assoc]); repeat' (first | (with_reducible exact Below.refl _ _) | (with_reducible assumption) | (with_reducible refine Below.alloc ?_ ?_ _) | (with_reducible refine Below.drew ?_) | (with_reducible refine below_drewN ?_ _) | (with_reducible exact below_d _ _ _ _ _) | (with_reducible refine below_snoc _ _ ?_ ?_) | (with_reducible refine below_plus ?_ ?_ _ _) | (with_reducible refine Below.setCell ?_ ?_ _) | (with_reducible refine Below.setRow ?_ ?_ _) | go_size)))); rintro e w1 ⟨rfl, J5, d5, rfl⟩))
        go_ret
        exact ⟨rfl, junk_of_below (HJV.out.trans ((show Below V.heap.size V _ by ((try simp only [← Array.append_assoc]); repeat' (first | (with_reducible exact Below.refl _ _) | (with_reducible assumption) | (with_reducible refine Below.alloc ?_ ?_ _) | (with_reducible refine Below.drew ?_) | (with_reducible refine below_drewN ?_ _) | (with_reducible exact below_d _ _ _ _ _) | (with_reducible refine below_snoc _ _ ?_ ?_) | (with_reducible refine below_plus ?_ ?_ _ _) | (with_reducible refine Below.setCell ?_ ?_ _) | (with_reducible refine Below.setRow ?_ ?_ _) | go_size))).mono HJV.out.size))⟩
      · by_cases c2 : A4 + 1 ≤ py
        · obtain rfl := hO (.inr (.inl c2))
          have c2' : py ≥ A4 + 1 := c2
          clear hO
          go_wp2_with (first
            | (go_at_call 21; (with_reducible refine (HLe.out B T sb _ ?_).mono ?_); (exact HTV.out.below (by ((try simp only [← Array.append_assoc]); repeat' (first | (with_reducible exact Below.refl _ _) | (with_reducible assumption) | (with_reducible refine Below.alloc ?_ ?_ _) | (with_reducible refine Below.drew ?_) | (with_reducible refine below_drewN ?_ _) | (with_reducible exact below_d _ _ _ _ _) | (with_reducible refine below_snoc _ _ ?_ ?_) | (with_reducible refine below_plus ?_ ?_ _ _) | (with_reducible refine Below.setCell ?_ ?_ _) | (with_reducible refine Below.setRow ?_ ?_ _) | go_size)))); rintro e w1 ⟨rfl, hw⟩; rw [hw]; clear hw)
            | (go_at_call 16; (with_reducible refine (HIn.out _ ?_).mono ?_); (exact HTV.out.below (by ((try simp only [← Array.append_assoc]); repeat' (first | (with_reducible exact Below.refl _ _) | (with_reducible assumption) | (with_reducible refine Below.alloc ?_ ?_ _) | (with_reducible refine Below.drew ?_) | (with_reducible refine below_drewN ?_ _) | (with_reducible exact below_d _ _ _ _ _) | (with_reducible refine below_snoc _ _ ?_ ?_) | (with_reducible refine below_plus ?_ ?_ _ _) | (with_reducible refine Below.setCell ?_ ?_ _) | (with_reducible refine Below.setRow ?_ ?_ _) | go_size)))); rintro e w1 ⟨rfl, J5, d5, rfl⟩))
          go_ret
          exact ⟨rfl, junk_of_below (HJV.out.trans ((show Below V.heap.size V _ by ((try simp only [← Array.append_assoc]); repeat' (first | (with_reducible exact Below.refl _ _) | (with_reducible assumption) | (with_reducible refine Below.alloc ?_ ?_ _) | (with_reducible refine Below.drew ?_) | (with_reducible refine below_drewN ?_ _) | (with_reducible exact below_d _ _ _ _ _) | (with_reducible refine below_snoc _ _ ?_ ?_) | (with_reducible refine below_plus ?_ ?_ _ _) | (with_reducible refine Below.setCell ?_ ?_ _) | (with_reducible refine Below.setRow ?_ ?_ _) | go_size))).mono HJV.out.size))⟩
        · have c2' : ¬ py ≥ A4 + 1 := c2
          by_cases c3 : px < A1
          · obtain rfl := hO (.inr (.inr (.inl c3)))
            clear hO
            go_wp2_with (first
              | (go_at_call 21; (with_reducible refine (HLe.out B T sb _ ?_).mono ?_); (exact HTV.out.below (by ((try simp only [← Array.append_assoc]); repeat' (first | (with_reducible exact Below.refl _ _) | (with_reducible assumption) | (with_reducible refine Below.alloc ?_ ?_ _) | (with_reducible refine Below.drew ?_) | (with_reducible refine below_drewN ?_ _) | (with_reducible exact below_d _ _ _ _ _) | (with_reducible refine below_snoc _ _ ?_ ?_) | (with_reducible refine below_plus ?_ ?_ _ _) | (with_reducible refine Below.setCell ?_ ?_ _) | (with_reducible refine Below.setRow ?_ ?_ _) | go_size)))); rintro e w1 ⟨rfl, hw⟩; rw [hw]; clear hw)
              | (go_at_call 16; (with_reducible refine (HIn.out _ ?_).mono ?_); (exact HTV.out.below (by ((try simp only [← Array.append_assoc]); repeat' (first | (with_reducible exact Below.refl _ _) | (with_reducible assumption) | (with_reducible refine Below.alloc ?_ ?_ _) | (with_reducible refine Below.drew ?_) | (with_reducible refine below_drewN ?_ _) | (with_reducible exact below_d _ _ _ _ _) | (with_reducible refine below_snoc _ _ ?_ ?_) | (with_reducible refine below_plus ?_ ?_ _ _) | (with_reducible refine Below.setCell ?_ ?_ _) | (with_reducible refine Below.setRow ?_ ?_ _) | go_size)))); rintro e w1 ⟨rfl, J5, d5, rfl⟩))
            go_ret
            exact ⟨rfl, junk_of_below (HJV.out.trans ((show Below V.heap.size V _ by ((try simp only [← Array.append_assoc]); repeat' (first | (with_reducible exact Below.refl _ _) | (with_reducible assumption) | (with_reducible refine Below.alloc ?_ ?_ _) | (with_reducible refine Below.drew ?_) | (with_reducible refine below_drewN ?_ _) | (with_reducible exact below_d _ _ _ _ _) | (with_reducible refine below_snoc _ _ ?_ ?_) | (with_reducible refine below_plus ?_ ?_ _ _) | (with_reducible refine Below.setCell ?_ ?_ _) | (with_reducible refine Below.setRow ?_ ?_ _) | go_size))).mono HJV.out.size))⟩
          · by_cases c4 : A3 ≤ px
            · obtain rfl := hO (.inr (.inr (.inr c4)))
              have c4' : px ≥ A3 := c4
              clear hO
              go_wp2_with (first
                | (go_at_call 21; (with_reducible refine (HLe.out B T sb _ ?_).mono ?_); (exact HTV.out.below (by ((try simp only [← Array.append_assoc]); repeat' (first | (with_reducible exact Below.refl _ _) | (with_reducible assumption) | (with_reducible refine Below.alloc ?_ ?_ _) | (with_reducible refine Below.drew ?_) | (with_reducible refine below_drewN ?_ _) | (with_reducible exact below_d _ _ _ _ _) | (with_reducible refine below_snoc _ _ ?_ ?_) | (with_reducible refine below_plus ?_ ?_ _ _) | (with_reducible refine Below.setCell ?_ ?_ _) | (with_reducible refine Below.setRow ?_ ?_ _) | go_size)))); rintro e w1 ⟨rfl, hw⟩; rw [hw]; clear hw)
                | (go_at_call 16; (with_reducible refine (HIn.out _ ?_).mono ?_); (exact HTV.out.below (by ((try simp only [← Array.append_assoc]); repeat' (first | (with_reducible exact Below.refl _ _) | (with_reducible assumption) | (with_reducible refine Below.alloc ?_ ?_ _) | (with_reducible refine Below.drew ?_) | (with_reducible refine below_drewN ?_ _) | (with_reducible exact below_d _ _ _ _ _) | (with_reducible refine below_snoc _ _ ?_ ?_) | (with_reducible refine below_plus ?_ ?_ _ _) | (with_reducible refine Below.setCell ?_ ?_ _) | (with_reducible refine Below.setRow ?_ ?_ _) | go_size)))); rintro e w1 ⟨rfl, J5, d5, rfl⟩))
              go_ret
              exact ⟨rfl, junk_of_below (HJV.out.trans ((show Below V.heap.size V _ by ((try simp only [← Array.append_assoc]); repeat' (first | (with_reducible exact Below.refl _ _) | (with_reducible assumption) | (with_reducible refine Below.alloc ?_ ?_ _) | (with_reducible refine Below.drew ?_) | (with_reducible refine below_drewN ?_ _) | (with_reducible exact below_d _ _ _ _ _) | (with_reducible refine below_snoc _ _ ?_ ?_) | (with_reducible refine below_plus ?_ ?_ _ _) | (with_reducible refine Below.setCell ?_ ?_ _) | (with_reducible refine Below.setRow ?_ ?_ _) | go_size))).mono HJV.out.size))⟩
            · have c4' : ¬ px ≥ A3 := c4
              clear hO
              go_wp2_with (first
                | (go_at_call 21; (with_reducible refine (HLe.out B T sb _ ?_).mono ?_); (exact HTV.out.below (by ((try simp only [← Array.append_assoc]); repeat' (first | (with_reducible exact Below.refl _ _) | (with_reducible assumption) | (with_reducible refine Below.alloc ?_ ?_ _) | (with_reducible refine Below.drew ?_) | (with_reducible refine below_drewN ?_ _) | (with_reducible exact below_d _ _ _ _ _) | (with_reducible refine below_snoc _ _ ?_ ?_) | (with_reducible refine below_plus ?_ ?_ _ _) | (with_reducible refine Below.setCell ?_ ?_ _) | (with_reducible refine Below.setRow ?_ ?_ _) | go_size)))); rintro e w1 ⟨rfl, hw⟩; rw [hw]; clear hw)
                | (go_at_call 16; (with_reducible refine (HIn.out _ ?_).mono ?_); (exact HTV.out.below (by ((try simp only [← Array.append_assoc]); repeat' (first | (with_reducible exact Below.refl _ _) | (with_reducible assumption) | (with_reducible refine Below.alloc ?_ ?_ _) | (with_reducible refine Below.drew ?_) | (with_reducible refine below_drewN ?_ _) | (with_reducible exact below_d _ _ _ _ _) | (with_reducible refine below_snoc _ _ ?_ ?_) | (with_reducible refine below_plus ?_ ?_ _ _) | (with_reducible refine Below.setCell ?_ ?_ _) | (with_reducible refine Below.setRow ?_ ?_ _) | go_size)))); rintro e w1 ⟨rfl, J5, d5, rfl⟩))
              go_ret
              exact ⟨rfl, junk_of_below (HJV.out.trans ((show Below V.heap.size V _ by ((try simp only [← Array.append_assoc]); repeat' (first | (with_reducible exact Below.refl _ _) | (with_reducible assumption) | (with_reducible refine Below.alloc ?_ ?_ _) | (with_reducible refine Below.drew ?_) | (with_reducible refine below_drewN ?_ _) | (with_reducible exact below_d _ _ _ _ _) | (with_reducible refine below_snoc _ _ ?_ ?_) | (with_reducible refine below_plus ?_ ?_ _ _) | (with_reducible refine Below.setCell ?_ ?_ _) | (with_reducible refine Below.setRow ?_ ?_ _) | go_size))).mono HJV.out.size))⟩
theorem l_slabStacks (w : World) (a : Option Addr) (n ca : Nat) (R : List (List Pt)) (hR : GRC w a n ca R) (hs : n ≤ 4611686018427387903) (hl : ∀ K ∈ R, K.length ≤ 8796093022208) (px py : Int) :
    Calls Tryz.prog 7 #[.agg #[.slice a n ca], pt px py] w fun e w' => e = .returned (.bool true) ∧ Junk w w' := by
  cases h : (decide (22 < R.length) || decide (120 < allN R)) with
  | true => exact stacks_big w a n ca R hR hs hl px py h
  | false =>
    have h2 : R.length ≤ 22 ∧ allN R ≤ 120 := by
      rw [Bool.or_eq_false_iff, decide_eq_false_iff_not, decide_eq_false_iff_not] at h
      omega
    have hn := hR.len
    have hl2 : ∀ K ∈ R, K.length ≤ 100000 := fun K hK => by have := ring_leR hK; omega
    by_cases hb : (checkR R).1 = 0
    · exact stacks_fine w a n ca R hR (by omega) (checkR_fine.1 hb) px py h
    · exact stacks_bad w a n ca R hR (by omega) hl2 px py h hb
end Go.Proofs.YtegliapkbapigaaGreat

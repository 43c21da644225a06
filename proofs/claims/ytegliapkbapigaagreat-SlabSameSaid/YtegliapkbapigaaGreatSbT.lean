/- The law SlabFinds: the walk. -/
import Derived.Test.YtegliapkbapigaaGreatSbR
import Derived.Test.YtegliapkbapigaaGreatSbTwo
import Derived.Test.YtegliapkbapigaaGreatReOne
namespace Go.Proofs.YtegliapkbapigaaGreat
set_option linter.unusedVariables false
set_option linter.unusedSimpArgs false
open Go.RowKit

theorem gown_grc {w : World} {base n c : Nat} {x : Option Addr} {ps : List (Value × List Pt)} {R : List (List Pt)} (h : GOwn w base (.slice x n c) ps) (hp : ps.map (·.2) = R) : GRC w x n c R := by
  obtain ⟨a, ca, e, hg⟩ := h.grc
  injection e with e1 e2 e3
  subst e1 e2 e3
  rw [← hp]; exact hg
set_option maxRecDepth 100000 in
set_option maxHeartbeats 2000000 in
theorem finds_big (w : World) (a : Option Addr) (n ca : Nat) (R : List (List Pt)) (hR : GRC w a n ca R) (hs : n ≤ 4611686018427387903) (hl : ∀ K ∈ R, K.length ≤ 8796093022208) (pa : Option Addr) (pn pc : Nat) (h : (decide (22 < R.length) || decide (120 < allN R)) = true ∨ 30 < pn) :
    Calls Tryz.prog 3 #[.agg #[.slice a n ca], .slice pa pn pc] w fun e w' => e = .returned (.bool true) ∧ Junk w w' := by
  have HAw := Lib.hid l_sbAwake
  have HR := Lib.hid hR
  have HL := Lib.hid (fun w' h => k_BigRegion 120 (by decide) w' a n ca R h hs hl)
  cases hb : (decide (22 < R.length) || decide (120 < allN R)) with
  | true =>
    rw [hb] at HL
    clear hR h hb
    go_enter Tryz.func3, Tryz.ntmps3
    go_wp2_with (first | (go_at_call 10; refine (HAw.out _).mono ?_; rintro e w1 ⟨rfl, J1, d1, rfl⟩) | (go_at_call 9; refine (HL.out _ (HR.out.below (by ((try simp only [← Array.append_assoc]); repeat' (first | (with_reducible exact Below.refl _ _) | (with_reducible assumption) | (with_reducible refine Below.alloc ?_ ?_ _) | (with_reducible refine Below.drew ?_) | (with_reducible refine below_drewN ?_ _) | (with_reducible exact below_d _ _ _ _ _) | (with_reducible refine below_snoc _ _ ?_ ?_) | (with_reducible refine below_plus ?_ ?_ _ _) | (with_reducible refine Below.setCell ?_ ?_ _) | (with_reducible refine Below.setRow ?_ ?_ _) | go_size))))).mono ?_; rintro e w1 ⟨rfl, J2, d2, rfl⟩))
    go_ret
    exact ⟨rfl, junk_of_below (by (repeat' (first | (with_reducible exact Below.refl _ _) | (with_reducible assumption) | (with_reducible refine Below.alloc ?_ ?_ _) | (with_reducible refine Below.drew ?_) | (with_reducible refine below_drewN ?_ _) | (with_reducible refine below_plus ?_ ?_ _ _) | (with_reducible refine Below.setCell ?_ ?_ _) | (with_reducible refine Below.setRow ?_ ?_ _) | go_size)))⟩
  | false =>
    rw [hb] at HL h
    have hp : 30 < pn := by rcases h with h | h; cases h; exact h
    have i1 : (pn : Int) > 30 := by omega
    clear hR h hb hp
    go_enter Tryz.func3, Tryz.ntmps3
    go_wp2_with (first | (go_at_call 10; refine (HAw.out _).mono ?_; rintro e w1 ⟨rfl, J1, d1, rfl⟩) | (go_at_call 9; refine (HL.out _ (HR.out.below (by ((try simp only [← Array.append_assoc]); repeat' (first | (with_reducible exact Below.refl _ _) | (with_reducible assumption) | (with_reducible refine Below.alloc ?_ ?_ _) | (with_reducible refine Below.drew ?_) | (with_reducible refine below_drewN ?_ _) | (with_reducible exact below_d _ _ _ _ _) | (with_reducible refine below_snoc _ _ ?_ ?_) | (with_reducible refine below_plus ?_ ?_ _ _) | (with_reducible refine Below.setCell ?_ ?_ _) | (with_reducible refine Below.setRow ?_ ?_ _) | go_size))))).mono ?_; rintro e w1 ⟨rfl, J2, d2, rfl⟩))
    go_ret
    exact ⟨rfl, junk_of_below (by (repeat' (first | (with_reducible exact Below.refl _ _) | (with_reducible assumption) | (with_reducible refine Below.alloc ?_ ?_ _) | (with_reducible refine Below.drew ?_) | (with_reducible refine below_drewN ?_ _) | (with_reducible refine below_plus ?_ ?_ _ _) | (with_reducible refine Below.setCell ?_ ?_ _) | (with_reducible refine Below.setRow ?_ ?_ _) | go_size)))⟩
set_option maxRecDepth 100000 in
set_option maxHeartbeats 4000000 in
theorem finds_bad (w : World) (a : Option Addr) (n ca : Nat) (R : List (List Pt)) (hR : GRC w a n ca R) (hs : n ≤ 1000) (hl : ∀ K ∈ R, K.length ≤ 100000) (pa : Option Addr) (pn pc : Nat) (hp : pn ≤ 30) (h : (decide (22 < R.length) || decide (120 < allN R)) = false) (hbad : (checkR R).1 ≠ 0) :
    Calls Tryz.prog 3 #[.agg #[.slice a n ca], .slice pa pn pc] w fun e w' => e = .returned (.bool true) ∧ Junk w w' := by
  have HAw := Lib.hid l_sbAwake
  have HR := Lib.hid hR
  have HL := Lib.hid (fun w' h => k_BigRegion 120 (by decide) w' a n ca R h (by omega) (fun K hK => by have := hl K hK; omega))
  rw [h] at HL
  obtain ⟨⟨x, y⟩, hxy⟩ : ∃ z, checkR R = z := ⟨_, rfl⟩
  rw [hxy] at hbad
  simp only at hbad
  have HCp := Lib.hid (fun w' h => k_CopyRegion w' a n ca R h hs hl)
  have HBd := Lib.hid (fun w' x1 c1 h => build_bad w' x1 n c1 R h hs hl x y hxy hbad)
  have HC := Lib.hid (fun w' h => r_reCheck w' a n ca R h (fun K hK => by have := hl K hK; omega))
  rw [hxy] at HC
  unfold fltV at HC
  simp only at HC
  have HSm := Lib.hid (fun w' x1 c1 h1 h2 => k_SameRings w' x1 a n c1 ca R h1 h2 hs hl)
  have e1 : (x != 0) = true := by simpa using hbad
  have e2 : (x == 0) = false := by simpa using hbad
  have i1 : ¬ (pn : Int) > 30 := by omega
  clear hR h hxy hbad hl hp
  go_enter Tryz.func3, Tryz.ntmps3
  go_upto_region 5 with (first
    | (go_at_call 9; refine (HL.out _ (HR.out.below (by ((try simp only [← Array.append_assoc]); repeat' (first | (with_reducible exact Below.refl _ _) | (with_reducible assumption) | (with_reducible refine Below.alloc ?_ ?_ _) | (with_reducible refine Below.drew ?_) | (with_reducible refine below_drewN ?_ _) | (with_reducible exact below_d _ _ _ _ _) | (with_reducible refine below_snoc _ _ ?_ ?_) | (with_reducible refine below_plus ?_ ?_ _ _) | (with_reducible refine Below.setCell ?_ ?_ _) | (with_reducible refine Below.setRow ?_ ?_ _) | go_size))))).mono ?_; rintro e w1 ⟨rfl, J1, d1, rfl⟩)
    | (go_at_call 11; refine (HCp.out _ (HR.out.below (by ((try simp only [← Array.append_assoc]); repeat' (first | (with_reducible exact Below.refl _ _) | (with_reducible assumption) | (with_reducible refine Below.alloc ?_ ?_ _) | (with_reducible refine Below.drew ?_) | (with_reducible refine below_drewN ?_ _) | (with_reducible exact below_d _ _ _ _ _) | (with_reducible refine below_snoc _ _ ?_ ?_) | (with_reducible refine below_plus ?_ ?_ _ _) | (with_reducible refine Below.setCell ?_ ?_ _) | (with_reducible refine Below.setRow ?_ ?_ _) | go_size))))).mono ?_; rintro e w1 ⟨⟨x1, c1, ps, rfl, hg, hps⟩, J2, d2, rfl⟩; (try simp only [plus_plus, Array.append_assoc] at hg); have HG := Lib.hid (gown_grc hg hps); have HGo := Lib.hid hg; have HPs := Lib.hid hps; clear hg hps)
    | (go_at_call 12; (refine (HBd.out _ _ _ (HG.out.below (by ((try simp only [← Array.append_assoc]); repeat' (first | (with_reducible exact Below.refl _ _) | (with_reducible assumption) | (with_reducible refine Below.alloc ?_ ?_ _) | (with_reducible refine Below.drew ?_) | (with_reducible refine below_drewN ?_ _) | (with_reducible exact below_d _ _ _ _ _) | (with_reducible refine below_snoc _ _ ?_ ?_) | (with_reducible refine below_plus ?_ ?_ _ _) | (with_reducible refine Below.setCell ?_ ?_ _) | (with_reducible refine Below.setRow ?_ ?_ _) | go_size))))).mono ?_); rintro e w1 ⟨rfl, J3, d3, rfl⟩))
  obtain ⟨cb, hcb⟩ : ∃ c, w.heap.size + 1 + (J1.size + J2.size) = c := ⟨_, rfl⟩
  obtain ⟨fb, hfb⟩ : ∃ f, cb + 1 + J3.size = f := ⟨_, rfl⟩
  obtain ⟨W, hW⟩ : ∃ W, (((((w.alloc (Obj.cells #[Value.slice a n ca] 24)).plus (J1 ++ J2) d2).alloc (Obj.cells #[Value.slice x1 n c1] 24)).plus J3 d3).alloc (Obj.cells #[Value.int IntKind.i64 x, Value.int IntKind.i64 (y : Int)] 32)) = W := ⟨_, rfl⟩
  have r0 : W.cell? ⟨w.heap.size, 0, none⟩ = some (.slice a n ca) := by rw [← hW]; simp [go_sem]
  have r1 : W.cell? ⟨cb, 0, none⟩ = some (.slice x1 n c1) := by rw [← hW, ← hcb]; simp [go_sem]
  have f0 : W.cell? ⟨fb, 0, none⟩ = some (.int .i64 x) := by rw [← hW, ← hfb, ← hcb]; simp [go_sem]
  have f1 : W.cell? ⟨fb, 1, none⟩ = some (.int .i64 (y : Int)) := by rw [← hW, ← hfb, ← hcb]; simp [go_sem]
  have hj : Below w.heap.size w W := by rw [← hW]; ((try simp only [← Array.append_assoc]); repeat' (first | (with_reducible exact Below.refl _ _) | (with_reducible assumption) | (with_reducible refine Below.alloc ?_ ?_ _) | (with_reducible refine Below.drew ?_) | (with_reducible refine below_drewN ?_ _) | (with_reducible exact below_d _ _ _ _ _) | (with_reducible refine below_snoc _ _ ?_ ?_) | (with_reducible refine below_plus ?_ ?_ _ _) | (with_reducible refine Below.setCell ?_ ?_ _) | (with_reducible refine Below.setRow ?_ ?_ _) | go_size))
  have HJ := Lib.hid hj
  have HGW := Lib.hid (show GRC W x1 n c1 R by rw [← hW]; exact HG.out.below (by ((try simp only [← Array.append_assoc]); repeat' (first | (with_reducible exact Below.refl _ _) | (with_reducible assumption) | (with_reducible refine Below.alloc ?_ ?_ _) | (with_reducible refine Below.drew ?_) | (with_reducible refine below_drewN ?_ _) | (with_reducible exact below_d _ _ _ _ _) | (with_reducible refine below_snoc _ _ ?_ ?_) | (with_reducible refine below_plus ?_ ?_ _ _) | (with_reducible refine Below.setCell ?_ ?_ _) | (with_reducible refine Below.setRow ?_ ?_ _) | go_size))))
  have HRW := Lib.hid (HR.out.below (show Below w.heap.size w W from HJ.out))
  have l0 := World.block_lt_of_cell? _ _ r0
  have l1 := World.block_lt_of_cell? _ _ r1
  have l2 := World.block_lt_of_cell? _ _ f0
  have HC1 := Lib.hid (fun (J : Array Obj) (d : Nat) => HC.out (W.plus J d) (HRW.out.below (Junk.below ⟨J, d, rfl⟩)))
  have HC2 := Lib.hid (fun (J : Array Obj) (d : Nat) => HSm.out (W.plus J d) x1 c1 (HGW.out.below (Junk.below ⟨J, d, rfl⟩)) (HRW.out.below (Junk.below ⟨J, d, rfl⟩)))
  rw [hW]
  simp only [hcb, hfb]
  clear hW hcb hfb hj HG
  refine region_quiet_all (C := Cls W) (by kernel_rfl) (by kernel_rfl) (by first | exact cls_drawn _ | exact ⟨#[], _, (plus_nil _).symm⟩) ?_
  repeat (first | (refine qw_skip (by rfl) ?_; simp only [Act.put, List.setIfInBounds_toArray, List.set_cons_succ, List.set_cons_zero]) | (refine qw_want (by rfl) (fun K hK => ?_); go_simp; first | (refine hK _ ?_; clear hK K) | (apply Exists.intro; refine ⟨?_, hK _ ?_⟩; (rintro w3_ ⟨J3_, d3_, rfl⟩; first | (with_reducible exact rfl) | (go_simp; with_reducible exact rfl) | (go_simp; (first | (with_reducible refine (HAw.out _).mono ?_) | (with_reducible refine (HC1.out _ _).mono ?_) | (with_reducible refine (HC2.out _ _).mono ?_)); rintro e_ w_ ⟨rfl, J4_, d4_, rfl⟩; exact ⟨rfl, J3_ ++ J4_, d4_, by simp only [plus_plus, Array.append_assoc]⟩)); clear hK K)))
  refine qw_nil ?_
  rintro w4 ⟨J9, d9, rfl⟩
  go_wp2_with (go_at_call 10; refine (HAw.out _).mono ?_; rintro e w1 ⟨rfl, J4, d4, rfl⟩)
  go_ret
  exact ⟨rfl, junk_of_below (HJ.out.trans ((show Below W.heap.size W _ by ((try simp only [← Array.append_assoc]); repeat' (first | (with_reducible exact Below.refl _ _) | (with_reducible assumption) | (with_reducible refine Below.alloc ?_ ?_ _) | (with_reducible refine Below.drew ?_) | (with_reducible refine below_drewN ?_ _) | (with_reducible exact below_d _ _ _ _ _) | (with_reducible refine below_snoc _ _ ?_ ?_) | (with_reducible refine below_plus ?_ ?_ _ _) | (with_reducible refine Below.setCell ?_ ?_ _) | (with_reducible refine Below.setRow ?_ ?_ _) | go_size))).mono HJ.out.size))⟩
/-- Between two rounds. -/
def FnAt (W : World) (m : Nat) (x : Value) (wr : World) : Prop := ∃ k : Nat, x = .int .i64 (k : Int) ∧ k ≤ m ∧ Cls W wr
set_option maxRecDepth 100000 in
set_option maxHeartbeats 8000000 in
theorem finds_fine (w : World) (a : Option Addr) (n ca : Nat) (R : List (List Pt)) (hR : GRC w a n ca R) (hs : n ≤ 1000) (hf : regFine R) (pa : Option Addr) (pn pc : Nat) (P : List Pt) (hP : PRC w pa pn pc P) (hp : pn ≤ 30) (h : (decide (22 < R.length) || decide (120 < allN R)) = false) :
    Calls Tryz.prog 3 #[.agg #[.slice a n ca], .slice pa pn pc] w fun e w' => e = .returned (.bool true) ∧ Junk w w' := by
  have hl : ∀ K ∈ R, K.length ≤ 100000 := fun K hK => by have := ring_leR hK; have := hf.many; omega
  have HAw := Lib.hid l_sbAwake
  have HR := Lib.hid hR
  have HPr := Lib.hid hP
  have hRl := hR.len
  have HL := Lib.hid (fun w' h => k_BigRegion 120 (by decide) w' a n ca R h (by omega) (fun K hK => by have := hl K hK; omega))
  rw [h] at HL
  have HCp := Lib.hid (fun w' h => k_CopyRegion w' a n ca R h hs hl)
  have HBd := Lib.hid (fun w' x1 c1 h => n_sbBuild w' x1 n c1 R h hs hf (fine_fit2 hf))
  have HC := Lib.hid (fun w' h => r_reCheck w' a n ca R h (fun K hK => by have := hl K hK; omega))
  rw [check_zero (checkR_fine.2 hf)] at HC
  unfold fltV at HC
  simp only at HC
  have HSm := Lib.hid (fun w' x1 c1 h1 h2 => k_SameRings w' x1 a n c1 ca R h1 h2 hs hl)
  have HOv := Lib.hid (fun W0 base x1 c1 ps (h1 : GOwn W0 base (.slice x1 n c1) ps) (h2 : ps.map (·.2) = R) (h3 : base ≤ W0.heap.size) w' h4 => k_OverRegion W0 base x1 c1 n ps h1 (by rw [← hRl, ← h2, List.length_map]) h3 w' h4 hs (fun p hp => hl _ (by rw [← h2]; exact List.mem_map.2 ⟨p, hp, rfl⟩)))
  have HI := Lib.hid (fun (B T sb : Nat) (W : World) (px py : Int) (hW : SlabB W B T sb R) => n_slIn hW px py)
  have HCr := Lib.hid (fun (B T sb : Nat) (W : World) (px py : Int) (hW : SlabB W B T sb R) => n_slCross hW px py)
  have HI2 := Lib.hid (fun (W : World) (px py : Int) (hW : GRC W a n ca R) => r_reIn px py W a n ca R hW (by omega) (fun K hK => by have := hl K hK; omega))
  have HCr2 := Lib.hid (fun (W : World) (px py : Int) (hW : GRC W a n ca R) => r_sbCross px py W a n ca R hW hs hl)
  have i1 : ¬ (pn : Int) > 30 := by omega
  clear hR h hl hP hRl
  go_enter Tryz.func3, Tryz.ntmps3
  go_upto_region 5 with (first
    | (go_at_call 9; refine (HL.out _ (HR.out.below (by ((try simp only [← Array.append_assoc]); repeat' (first | (with_reducible exact Below.refl _ _) | (with_reducible assumption) | (with_reducible refine Below.alloc ?_ ?_ _) | (with_reducible refine Below.drew ?_) | (with_reducible refine below_drewN ?_ _) | (with_reducible exact below_d _ _ _ _ _) | (with_reducible refine below_snoc _ _ ?_ ?_) | (with_reducible refine below_plus ?_ ?_ _ _) | (with_reducible refine Below.setCell ?_ ?_ _) | (with_reducible refine Below.setRow ?_ ?_ _) | go_size))))).mono ?_; rintro e w1 ⟨rfl, J1, d1, rfl⟩)
    | (go_at_call 11; refine (HCp.out _ (HR.out.below (by ((try simp only [← Array.append_assoc]); repeat' (first | (with_reducible exact Below.refl _ _) | (with_reducible assumption) | (with_reducible refine Below.alloc ?_ ?_ _) | (with_reducible refine Below.drew ?_) | (with_reducible refine below_drewN ?_ _) | (with_reducible exact below_d _ _ _ _ _) | (with_reducible refine below_snoc _ _ ?_ ?_) | (with_reducible refine below_plus ?_ ?_ _ _) | (with_reducible refine Below.setCell ?_ ?_ _) | (with_reducible refine Below.setRow ?_ ?_ _) | go_size))))).mono ?_; rintro e w1 ⟨⟨x1, c1, ps, rfl, hg, hps⟩, J2, d2, rfl⟩; (try simp only [plus_plus, Array.append_assoc] at hg); have HG := Lib.hid (gown_grc hg hps); have HGo := Lib.hid hg; have HPs := Lib.hid hps; clear hg hps)
    | (go_at_call 12; (refine (HBd.out _ _ _ (HG.out.below (by ((try simp only [← Array.append_assoc]); repeat' (first | (with_reducible exact Below.refl _ _) | (with_reducible assumption) | (with_reducible refine Below.alloc ?_ ?_ _) | (with_reducible refine Below.drew ?_) | (with_reducible refine below_drewN ?_ _) | (with_reducible exact below_d _ _ _ _ _) | (with_reducible refine below_snoc _ _ ?_ ?_) | (with_reducible refine below_plus ?_ ?_ _ _) | (with_reducible refine Below.setCell ?_ ?_ _) | (with_reducible refine Below.setRow ?_ ?_ _) | go_size))))).mono ?_); rintro e w1 ⟨⟨sb, rfl, ht⟩, J3, d3, rfl⟩; have HT := Lib.hid ht; clear ht))
  obtain ⟨cb, hcb⟩ : ∃ c, w.heap.size + 1 + (J1.size + J2.size) = c := ⟨_, rfl⟩
  obtain ⟨fb, hfb⟩ : ∃ f, cb + 1 + J3.size = f := ⟨_, rfl⟩
  obtain ⟨W, hW⟩ : ∃ W, (((((w.alloc (Obj.cells #[Value.slice a n ca] 24)).plus (J1 ++ J2) d2).alloc (Obj.cells #[Value.slice x1 n c1] 24)).plus J3 d3).alloc (Obj.cells #[Value.int IntKind.i64 0, Value.int IntKind.i64 0] 32)) = W := ⟨_, rfl⟩
  have r0 : W.cell? ⟨w.heap.size, 0, none⟩ = some (.slice a n ca) := by rw [← hW]; simp [go_sem]
  have r1 : W.cell? ⟨cb, 0, none⟩ = some (.slice x1 n c1) := by rw [← hW, ← hcb]; simp [go_sem]
  have f0 : W.cell? ⟨fb, 0, none⟩ = some (.int .i64 0) := by rw [← hW, ← hfb, ← hcb]; simp [go_sem]
  have f1 : W.cell? ⟨fb, 1, none⟩ = some (.int .i64 0) := by rw [← hW, ← hfb, ← hcb]; simp [go_sem]
  have hj : Below w.heap.size w W := by rw [← hW]; ((try simp only [← Array.append_assoc]); repeat' (first | (with_reducible exact Below.refl _ _) | (with_reducible assumption) | (with_reducible refine Below.alloc ?_ ?_ _) | (with_reducible refine Below.drew ?_) | (with_reducible refine below_drewN ?_ _) | (with_reducible exact below_d _ _ _ _ _) | (with_reducible refine below_snoc _ _ ?_ ?_) | (with_reducible refine below_plus ?_ ?_ _ _) | (with_reducible refine Below.setCell ?_ ?_ _) | (with_reducible refine Below.setRow ?_ ?_ _) | go_size))
  have HJ := Lib.hid hj
  have HGW := Lib.hid (show GRC W x1 n c1 R by rw [← hW]; exact HG.out.below (by ((try simp only [← Array.append_assoc]); repeat' (first | (with_reducible exact Below.refl _ _) | (with_reducible assumption) | (with_reducible refine Below.alloc ?_ ?_ _) | (with_reducible refine Below.drew ?_) | (with_reducible refine below_drewN ?_ _) | (with_reducible exact below_d _ _ _ _ _) | (with_reducible refine below_snoc _ _ ?_ ?_) | (with_reducible refine below_plus ?_ ?_ _ _) | (with_reducible refine Below.setCell ?_ ?_ _) | (with_reducible refine Below.setRow ?_ ?_ _) | go_size))))
  have HRW := Lib.hid (HR.out.below (show Below w.heap.size w W from HJ.out))
  have l0 := World.block_lt_of_cell? _ _ r0
  have l1 := World.block_lt_of_cell? _ _ r1
  have l2 := World.block_lt_of_cell? _ _ f0
  have HC1 := Lib.hid (fun (J : Array Obj) (d : Nat) => HC.out (W.plus J d) (HRW.out.below (Junk.below ⟨J, d, rfl⟩)))
  have HC2 := Lib.hid (fun (J : Array Obj) (d : Nat) => HSm.out (W.plus J d) x1 c1 (HGW.out.below (Junk.below ⟨J, d, rfl⟩)) (HRW.out.below (Junk.below ⟨J, d, rfl⟩)))
  obtain ⟨W0, hW0⟩ : ∃ W0, (w.alloc (Obj.cells #[Value.slice a n ca] 24)).plus (J1 ++ J2) d2 = W0 := ⟨_, rfl⟩
  have hcs : W0.heap.size = cb := by rw [← hW0, ← hcb]; simp
  have HW0 := Lib.hid (show Below W0.heap.size W0 W by rw [← hW, ← hW0]; ((try simp only [← Array.append_assoc]); repeat' (first | (with_reducible exact Below.refl _ _) | (with_reducible assumption) | (with_reducible refine Below.alloc ?_ ?_ _) | (with_reducible refine Below.drew ?_) | (with_reducible refine below_drewN ?_ _) | (with_reducible exact below_d _ _ _ _ _) | (with_reducible refine below_snoc _ _ ?_ ?_) | (with_reducible refine below_plus ?_ ?_ _ _) | (with_reducible refine Below.setCell ?_ ?_ _) | (with_reducible refine Below.setRow ?_ ?_ _) | go_size)))
  obtain ⟨base, hbase⟩ : ∃ b, ((w.alloc (Obj.cells #[Value.slice a n ca] 24)).plus J1 d1).heap.size = b := ⟨_, rfl⟩
  have hb1 : w.heap.size < base ∧ base ≤ W0.heap.size := by rw [← hbase, ← hW0]; first | (simp; done) | (simp; omega)
  rw [hW0, hbase] at HGo
  have hT : ∃ B T, SlabB W B T sb R ∧ cb ≤ B := ⟨_, _, by rw [← hW]; exact HT.out.below (by ((try simp only [← Array.append_assoc]); repeat' (first | (with_reducible exact Below.refl _ _) | (with_reducible assumption) | (with_reducible refine Below.alloc ?_ ?_ _) | (with_reducible refine Below.drew ?_) | (with_reducible refine below_drewN ?_ _) | (with_reducible exact below_d _ _ _ _ _) | (with_reducible refine below_snoc _ _ ?_ ?_) | (with_reducible refine below_plus ?_ ?_ _ _) | (with_reducible refine Below.setCell ?_ ?_ _) | (with_reducible refine Below.setRow ?_ ?_ _) | go_size))), by rw [← hcb]; first | (simp; done) | (simp; omega)⟩
  obtain ⟨B, T, hT, hBc⟩ := hT
  have HTW := Lib.hid hT
  have HBase := Lib.hid hb1
  have HCs := Lib.hid hcs
  have HBc := Lib.hid hBc
  clear HT hT hW0 hcs hbase hb1 hBc
  rw [hW]
  simp only [hcb, hfb]
  clear hW hcb hfb hj HG
  refine region_quiet_all (C := Cls W) (by kernel_rfl) (by kernel_rfl) (by first | exact cls_drawn _ | exact ⟨#[], _, (plus_nil _).symm⟩) ?_
  repeat (first | (refine qw_skip (by rfl) ?_; simp only [Act.put, List.setIfInBounds_toArray, List.set_cons_succ, List.set_cons_zero]) | (refine qw_want (by rfl) (fun K hK => ?_); go_simp; first | (refine hK _ ?_; clear hK K) | (apply Exists.intro; refine ⟨?_, hK _ ?_⟩; (rintro w3_ ⟨J3_, d3_, rfl⟩; first | (with_reducible exact rfl) | (go_simp; with_reducible exact rfl) | (go_simp; (first | (with_reducible refine (HAw.out _).mono ?_) | (with_reducible refine (HC1.out _ _).mono ?_) | (with_reducible refine (HC2.out _ _).mono ?_)); rintro e_ w_ ⟨rfl, J4_, d4_, rfl⟩; exact ⟨rfl, J3_ ++ J4_, d4_, by simp only [plus_plus, Array.append_assoc]⟩)); clear hK K)))
  refine qw_nil ?_
  rintro w4 ⟨J9, d9, rfl⟩
  go_wp2_with (go_at_call 15; (refine (HOv.out W0 base x1 c1 ps HGo.out HPs.out HBase.out.2 _ (HW0.out.trans ((show Below W.heap.size W _ by ((try simp only [← Array.append_assoc]); repeat' (first | (with_reducible exact Below.refl _ _) | (with_reducible assumption) | (with_reducible refine Below.alloc ?_ ?_ _) | (with_reducible refine Below.drew ?_) | (with_reducible refine below_drewN ?_ _) | (with_reducible exact below_d _ _ _ _ _) | (with_reducible refine below_snoc _ _ ?_ ?_) | (with_reducible refine below_plus ?_ ?_ _ _) | (with_reducible refine Below.setCell ?_ ?_ _) | (with_reducible refine Below.setRow ?_ ?_ _) | go_size))).mono HW0.out.size))).mono ?_); rintro e w5 ⟨rfl, hk⟩; have HK := Lib.hid hk; clear hk)
  have hk := HK.out
  have hbs := HBase.out
  have hcs := HCs.out
  have hb5 : Below w.heap.size w w5 := (HJ.out.trans ((show Below W.heap.size W (W.plus J9 d9) by ((try simp only [← Array.append_assoc]); repeat' (first | (with_reducible exact Below.refl _ _) | (with_reducible assumption) | (with_reducible refine Below.alloc ?_ ?_ _) | (with_reducible refine Below.drew ?_) | (with_reducible refine below_drewN ?_ _) | (with_reducible exact below_d _ _ _ _ _) | (with_reducible refine below_snoc _ _ ?_ ?_) | (with_reducible refine below_plus ?_ ?_ _ _) | (with_reducible refine Below.setCell ?_ ?_ _) | (with_reducible refine Below.setRow ?_ ?_ _) | go_size))).mono HJ.out.size)).trans (hk.low.mono (by omega))
  have r5 : w5.cell? ⟨w.heap.size, 0, none⟩ = some (.slice a n ca) := (World.cell?_of_block (a := ⟨w.heap.size, 0, none⟩) (hk.low.block w.heap.size hbs.1)).trans ((World.cell?_of_block (a := ⟨w.heap.size, 0, none⟩) ((show Below W.heap.size W (W.plus J9 d9) by ((try simp only [← Array.append_assoc]); repeat' (first | (with_reducible exact Below.refl _ _) | (with_reducible assumption) | (with_reducible refine Below.alloc ?_ ?_ _) | (with_reducible refine Below.drew ?_) | (with_reducible refine below_drewN ?_ _) | (with_reducible exact below_d _ _ _ _ _) | (with_reducible refine below_snoc _ _ ?_ ?_) | (with_reducible refine below_plus ?_ ?_ _ _) | (with_reducible refine Below.setCell ?_ ?_ _) | (with_reducible refine Below.setRow ?_ ?_ _) | go_size))).block w.heap.size l0)).trans r0)
  have hT5 : SlabB w5 B T sb R := by
    have h1 := HTW.out.below (show Below W.heap.size W (W.plus J9 d9) by ((try simp only [← Array.append_assoc]); repeat' (first | (with_reducible exact Below.refl _ _) | (with_reducible assumption) | (with_reducible refine Below.alloc ?_ ?_ _) | (with_reducible refine Below.drew ?_) | (with_reducible refine below_drewN ?_ _) | (with_reducible exact below_d _ _ _ _ _) | (with_reducible refine below_snoc _ _ ?_ ?_) | (with_reducible refine below_plus ?_ ?_ _ _) | (with_reducible refine Below.setCell ?_ ?_ _) | (with_reducible refine Below.setRow ?_ ?_ _) | go_size)))
    have hBb := HBc.out
    refine h1.only (fun k k1 k2 => hk.high k (by omega) (Nat.lt_of_lt_of_le k2 h1.size)) ?_
    exact Nat.le_trans h1.size hk.low.size
  have HT5 := Lib.hid hT5
  have HR5 := Lib.hid (HR.out.below hb5)
  have HP5 := Lib.hid (HPr.out.below hb5)
  have HJ5 := Lib.hid hb5
  have l5 := World.block_lt_of_cell? _ _ r5
  clear hk hbs hcs hb5 hT5 r0 r1 f0 f1 l0 l1 l2 HK HTW HGW HRW HW0 HC1 HC2 HC HSm HOv HGo HPs HBd HCp HL HBase HCs HBc HJ
  go_loopw [8] (fun x wr => FnAt w5 pn x wr) (fun x _ => pn - (intOf x).toNat)
  case atStart => exact ⟨0, rfl, by omega, #[], _, (plus_nil _).symm⟩
  case round =>
    obtain ⟨k, rfl, k1, J, d, rfl⟩ := hrel
    by_cases hlt : k < pn
    · rcases HP5.out.rd.2 with h | ⟨pb, po, rfl, hpc⟩
      · omega
      obtain ⟨p1, p2⟩ := hpc k hlt
      obtain ⟨⟨px, py⟩, hz⟩ : ∃ z, P.getD k (0, 0) = z := ⟨_, rfl⟩
      rw [hz] at p1 p2
      simp only at p1 p2
      have lp := World.block_lt_of_cell? _ _ p1
      have i2 : (k : Int) < (pn : Int) := by omega
      have HC1 := Lib.hid (fun (J : Array Obj) (d : Nat) => HI.out B T sb (w5.plus J d) px py (HT5.out.below (Junk.below ⟨J, d, rfl⟩)))
      have HC2 := Lib.hid (fun (J : Array Obj) (d : Nat) => HI2.out (w5.plus J d) px py (HR5.out.below (Junk.below ⟨J, d, rfl⟩)))
      have HC3 := Lib.hid (fun (J : Array Obj) (d : Nat) => HCr.out B T sb (w5.plus J d) px py (HT5.out.below (Junk.below ⟨J, d, rfl⟩)))
      have HC4 := Lib.hid (fun (J : Array Obj) (d : Nat) => HCr2.out (w5.plus J d) px py (HR5.out.below (Junk.below ⟨J, d, rfl⟩)))
      generalize regQ (px, py) R = g at *
      generalize crossR (px, py) R = cr at *
      unfold pt at HC1 HC2 HC3 HC4
      clear hpc hz
      go_upto_region 15 with fail
      refine region_quiet_all (C := Cls w5) (by kernel_rfl) (by kernel_rfl) ⟨_, _, rfl⟩ ?_
      repeat (first | (refine qw_skip (by rfl) ?_; simp only [Act.put, List.setIfInBounds_toArray, List.set_cons_succ, List.set_cons_zero]) | (refine qw_want (by rfl) (fun K hK => ?_); go_simp; first | (refine hK _ ?_; clear hK K) | (apply Exists.intro; refine ⟨?_, hK _ ?_⟩; (rintro w3_ ⟨J3_, d3_, rfl⟩; first | (with_reducible exact rfl) | (go_simp; with_reducible exact rfl) | (go_simp; (first | (with_reducible refine (HAw.out _).mono ?_) | (with_reducible refine (HC1.out _ _).mono ?_) | (with_reducible refine (HC2.out _ _).mono ?_) | (with_reducible refine (HC3.out _ _).mono ?_) | (with_reducible refine (HC4.out _ _).mono ?_)); rintro e_ w_ ⟨rfl, J4_, d4_, rfl⟩; exact ⟨rfl, J3_ ++ J4_, d4_, by simp only [plus_plus, Array.append_assoc]⟩)); clear hK K)))
      refine qw_nil ?_
      rintro w6 ⟨J10, d10, rfl⟩
      go_wp2_with fail
      go_roundw
      case rel => exact ⟨k + 1, by go_num, by omega, _, _, rfl⟩
      case measure => simp [intOf]; omega
    · obtain rfl : k = pn := by omega
      have i2 : ¬ (k : Int) < (k : Int) := by omega
      go_wp2_with (go_at_call 10; refine (HAw.out _).mono ?_; rintro e w1 ⟨rfl, J4, d4, rfl⟩)
      go_ret
      exact ⟨rfl, junk_of_below (HJ5.out.trans ((show Below w5.heap.size w5 _ by ((try simp only [← Array.append_assoc]); repeat' (first | (with_reducible exact Below.refl _ _) | (with_reducible assumption) | (with_reducible refine Below.alloc ?_ ?_ _) | (with_reducible refine Below.drew ?_) | (with_reducible refine below_drewN ?_ _) | (with_reducible exact below_d _ _ _ _ _) | (with_reducible refine below_snoc _ _ ?_ ?_) | (with_reducible refine below_plus ?_ ?_ _ _) | (with_reducible refine Below.setCell ?_ ?_ _) | (with_reducible refine Below.setRow ?_ ?_ _) | go_size))).mono HJ5.out.size))⟩
theorem l_slabFinds (w : World) (a : Option Addr) (n ca : Nat) (R : List (List Pt)) (hR : GRC w a n ca R) (hs : n ≤ 4611686018427387903) (hl : ∀ K ∈ R, K.length ≤ 8796093022208) (pa : Option Addr) (pn pc : Nat) (P : List Pt) (hP : PRC w pa pn pc P) (_ : pn ≤ 9223372036854775807) (_ : pa = none → pn = 0 ∧ pc = 0) :
    Calls Tryz.prog 3 #[.agg #[.slice a n ca], .slice pa pn pc] w fun e w' => e = .returned (.bool true) ∧ Junk w w' := by
  by_cases hp : 30 < pn
  · exact finds_big w a n ca R hR hs hl pa pn pc (.inr hp)
  cases h : (decide (22 < R.length) || decide (120 < allN R)) with
  | true => exact finds_big w a n ca R hR hs hl pa pn pc (.inl h)
  | false =>
    have h2 : R.length ≤ 22 ∧ allN R ≤ 120 := by
      rw [Bool.or_eq_false_iff, decide_eq_false_iff_not, decide_eq_false_iff_not] at h
      omega
    have hn := hR.len
    have hl2 : ∀ K ∈ R, K.length ≤ 100000 := fun K hK => by have := ring_leR hK; omega
    by_cases hb : (checkR R).1 = 0
    · exact finds_fine w a n ca R hR (by omega) (checkR_fine.1 hb) pa pn pc P hP (by omega) h
    · exact finds_bad w a n ca R hR (by omega) hl2 pa pn pc (by omega) h hb
end Go.Proofs.YtegliapkbapigaaGreat

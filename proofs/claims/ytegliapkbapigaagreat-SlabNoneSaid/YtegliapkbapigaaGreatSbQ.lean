/- The law SlabNone: what is no slabs; the walk. -/
import Derived.Test.YtegliapkbapigaaGreatSbTwo
namespace Go.Proofs.YtegliapkbapigaaGreat
set_option linter.unusedVariables false
set_option linter.unusedSimpArgs false
open Go.RowKit

/-- No slabs: nil, or ones that Build did not make. -/
def NoSl (w : World) (p : Option Addr) : Prop := p = none ∨ ∃ g, p = some ⟨g, 0, none⟩ ∧ w.cell? ⟨g, 0, none⟩ = some (.pointer none)
theorem NoSl.below {w w' : World} {p : Option Addr} (h : NoSl w p) (hb : Below w.heap.size w w') : NoSl w' p := by
  rcases h with h | ⟨g, e, h⟩
  · exact .inl h
  · exact .inr ⟨g, e, (World.cell?_of_block (a := ⟨g, 0, none⟩) (hb.block g (World.block_lt_of_cell? _ _ h))).trans h⟩
section
variable {w : World} {p : Option Addr}
theorem n_noMade (h : NoSl w p) : Calls Tryz.prog 42 #[.pointer p] w fun e w' => e = .returned (.bool false) ∧ w' = w := by
  rcases h with rfl | ⟨g, rfl, h⟩
  · exact n_slNil w
  · exact n_slNot g w h
set_option maxRecDepth 100000 in
theorem n_noLen (h : NoSl w p) : Calls Tryz.prog 21 #[.pointer p] w fun e w' => e = .returned (.int .i64 0) ∧ Junk w w' := by
  have HM := Lib.hid (n_noMade h)
  clear h
  go_enter Tryz.func21, Tryz.ntmps21
  go_wp2_with (go_at_call 42; refine HM.out.mono ?_; rintro e w1 ⟨rfl, hw⟩; rw [hw]; clear hw)
  go_ret
  exact ⟨rfl, junk_of_below (by (repeat' (first | (with_reducible exact Below.refl _ _) | (with_reducible assumption) | (with_reducible refine Below.alloc ?_ ?_ _) | (with_reducible refine Below.drew ?_) | (with_reducible refine below_drewN ?_ _) | (with_reducible refine below_plus ?_ ?_ _ _) | (with_reducible refine Below.setCell ?_ ?_ _) | (with_reducible refine Below.setRow ?_ ?_ _) | go_size)))⟩
set_option maxRecDepth 100000 in
theorem n_noMost (h : NoSl w p) : Calls Tryz.prog 24 #[.pointer p] w fun e w' => e = .returned (.int .i64 0) ∧ Junk w w' := by
  have HM := Lib.hid (n_noMade h)
  clear h
  go_enter Tryz.func24, Tryz.ntmps24
  go_wp2_with (go_at_call 42; refine HM.out.mono ?_; rintro e w1 ⟨rfl, hw⟩; rw [hw]; clear hw)
  go_ret
  exact ⟨rfl, junk_of_below (by (repeat' (first | (with_reducible exact Below.refl _ _) | (with_reducible assumption) | (with_reducible refine Below.alloc ?_ ?_ _) | (with_reducible refine Below.drew ?_) | (with_reducible refine below_drewN ?_ _) | (with_reducible refine below_plus ?_ ?_ _ _) | (with_reducible refine Below.setCell ?_ ?_ _) | (with_reducible refine Below.setRow ?_ ?_ _) | go_size)))⟩
set_option maxRecDepth 100000 in
theorem n_noSlab (h : NoSl w p) (i : Int) : Calls Tryz.prog 22 #[.pointer p, .int .i64 i] w fun e w' => e = .returned (.tuple #[.int .i64 0, .int .i64 0, .int .i64 0, .int .i64 1]) ∧ Junk w w' := by
  have HM := Lib.hid (n_noMade h)
  clear h
  go_enter Tryz.func22, Tryz.ntmps22
  go_wp2_with (go_at_call 42; refine HM.out.mono ?_; rintro e w1 ⟨rfl, hw⟩; rw [hw]; clear hw)
  (try simp only [Exit.inBlock, Exit.then])
  refine bodyPost_ret (results_tmp4 rfl _ _ _) rfl ?_
  exact ⟨rfl, junk_of_below (by (repeat' (first | (with_reducible exact Below.refl _ _) | (with_reducible assumption) | (with_reducible refine Below.alloc ?_ ?_ _) | (with_reducible refine Below.drew ?_) | (with_reducible refine below_drewN ?_ _) | (with_reducible refine below_plus ?_ ?_ _ _) | (with_reducible refine Below.setCell ?_ ?_ _) | (with_reducible refine Below.setRow ?_ ?_ _) | go_size)))⟩
set_option maxRecDepth 100000 in
theorem n_noAt (h : NoSl w p) (y : Int) : Calls Tryz.prog 39 #[.pointer p, .int .i64 y] w fun e w' => e = .returned (.slice none 0 0) ∧ Junk w w' := by
  have HM := Lib.hid (n_noMade h)
  clear h
  go_enter Tryz.func39, Tryz.ntmps39
  go_wp2_with (go_at_call 42; refine HM.out.mono ?_; rintro e w1 ⟨rfl, hw⟩; rw [hw]; clear hw)
  go_ret
  exact ⟨rfl, junk_of_below (by (repeat' (first | (with_reducible exact Below.refl _ _) | (with_reducible assumption) | (with_reducible refine Below.alloc ?_ ?_ _) | (with_reducible refine Below.drew ?_) | (with_reducible refine below_drewN ?_ _) | (with_reducible refine below_plus ?_ ?_ _ _) | (with_reducible refine Below.setCell ?_ ?_ _) | (with_reducible refine Below.setRow ?_ ?_ _) | go_size)))⟩
/-- No round at all. -/
def N0At (W : World) (x y : Value) (wr : World) : Prop := x = .int .i64 0 ∧ y = .int .i64 0 ∧ Cls W wr
set_option maxRecDepth 100000 in
theorem n_noCross (h : NoSl w p) (px py : Int) : Calls Tryz.prog 18 #[.pointer p, pt px py] w fun e w' => e = .returned (.int .i64 0) ∧ Junk w w' := by
  have HN := Lib.hid h
  have HA := Lib.hid (fun (W : World) (hW : NoSl W p) => n_noAt hW py)
  clear h
  unfold pt
  go_enter Tryz.func18, Tryz.ntmps18
  go_wp2_with (go_at_call 39; refine (HA.out _ (HN.out.below (by ((try simp only [← Array.append_assoc]); repeat' (first | (with_reducible exact Below.refl _ _) | (with_reducible assumption) | (with_reducible refine Below.alloc ?_ ?_ _) | (with_reducible refine Below.drew ?_) | (with_reducible refine below_drewN ?_ _) | (with_reducible exact below_d _ _ _ _ _) | (with_reducible refine below_snoc _ _ ?_ ?_) | (with_reducible refine below_plus ?_ ?_ _ _) | (with_reducible refine Below.setCell ?_ ?_ _) | (with_reducible refine Below.setRow ?_ ?_ _) | go_size))))).mono ?_; rintro e w1 ⟨rfl, J1, d1, rfl⟩)
  obtain ⟨W, hW⟩ : ∃ W, (w.alloc (.cells #[.int .i64 px, .int .i64 py] 40)).plus J1 d1 = W := ⟨_, rfl⟩
  have hj : Below w.heap.size w W := by rw [← hW]; ((try simp only [← Array.append_assoc]); repeat' (first | (with_reducible exact Below.refl _ _) | (with_reducible assumption) | (with_reducible refine Below.alloc ?_ ?_ _) | (with_reducible refine Below.drew ?_) | (with_reducible refine below_drewN ?_ _) | (with_reducible exact below_d _ _ _ _ _) | (with_reducible refine below_snoc _ _ ?_ ?_) | (with_reducible refine below_plus ?_ ?_ _ _) | (with_reducible refine Below.setCell ?_ ?_ _) | (with_reducible refine Below.setRow ?_ ?_ _) | go_size))
  have HJ := Lib.hid hj
  rw [hW]
  clear hW hj
  go_loopw [5, 13] (fun x y wr => N0At W x y wr) (fun _ _ _ => 0)
  case atStart => exact ⟨rfl, rfl, #[], _, (plus_nil _).symm⟩
  case round =>
    obtain ⟨rfl, rfl, J, d, rfl⟩ := hrel
    go_wp2_with fail
    go_ret
    exact ⟨rfl, junk_of_below (HJ.out.trans ((Junk.below ⟨_, _, rfl⟩).mono HJ.out.size))⟩
set_option maxRecDepth 100000 in
theorem n_noIn (h : NoSl w p) (px py : Int) : Calls Tryz.prog 16 #[.pointer p, pt px py] w fun e w' => e = .returned (.bool false) ∧ Junk w w' := by
  have HN := Lib.hid h
  have HA := Lib.hid (fun (W : World) (hW : NoSl W p) => n_noCross hW px py)
  clear h
  unfold pt at *
  go_enter Tryz.func16, Tryz.ntmps16
  go_wp2_with (go_at_call 18; refine (HA.out _ (HN.out.below (by ((try simp only [← Array.append_assoc]); repeat' (first | (with_reducible exact Below.refl _ _) | (with_reducible assumption) | (with_reducible refine Below.alloc ?_ ?_ _) | (with_reducible refine Below.drew ?_) | (with_reducible refine below_drewN ?_ _) | (with_reducible exact below_d _ _ _ _ _) | (with_reducible refine below_snoc _ _ ?_ ?_) | (with_reducible refine below_plus ?_ ?_ _ _) | (with_reducible refine Below.setCell ?_ ?_ _) | (with_reducible refine Below.setRow ?_ ?_ _) | go_size))))).mono ?_; rintro e w1 ⟨rfl, J1, d1, rfl⟩)
  go_ret
  exact ⟨rfl, junk_of_below (by (repeat' (first | (with_reducible exact Below.refl _ _) | (with_reducible assumption) | (with_reducible refine Below.alloc ?_ ?_ _) | (with_reducible refine Below.drew ?_) | (with_reducible refine below_drewN ?_ _) | (with_reducible refine below_plus ?_ ?_ _ _) | (with_reducible refine Below.setCell ?_ ?_ _) | (with_reducible refine Below.setRow ?_ ?_ _) | go_size)))⟩
end
/-- Between two rounds. -/
def NnAt (W : World) (x : Value) (wr : World) : Prop := ∃ k : Nat, x = .int .i64 (k : Int) ∧ k ≤ 2 ∧ ∃ J d, wr = W.plus J d
set_option maxRecDepth 100000 in
set_option maxHeartbeats 4000000 in
theorem l_slabNone (w : World) (px py i : Int) (_ : -9223372036854775808 ≤ i ∧ i ≤ 9223372036854775807) : Calls Tryz.prog 5 #[pt px py, .int .i64 i] w fun e w' => e = .returned (.bool true) ∧ Junk w w' := by
  have HAw := Lib.hid l_sbAwake
  have HS := Lib.hid (fun W p (h : NoSl W p) => n_noSlab h i)
  unfold pt at *
  go_enter Tryz.func5, Tryz.ntmps5
  go_wp2_with fail
  obtain ⟨b0, hb0⟩ : ∃ b, w.heap.size = b := ⟨_, rfl⟩
  obtain ⟨W, hW⟩ : ∃ W, ((w.alloc (Obj.cells #[Value.int IntKind.i64 px, Value.int IntKind.i64 py] 40)).alloc (Obj.cells #[Value.pointer none, Value.slice none 0 0, Value.slice none 0 0] 53)).alloc (Obj.cells #[Value.pointer none, Value.pointer (some ⟨w.heap.size + 1, 0, none⟩)] 29) = W := ⟨_, rfl⟩
  have p0 : W.cell? ⟨b0, 0, none⟩ = some (.int .i64 px) := by rw [← hW, ← hb0]; simp [go_sem]
  have p1 : W.cell? ⟨b0, 1, none⟩ = some (.int .i64 py) := by rw [← hW, ← hb0]; simp [go_sem]
  have u0 : W.cell? ⟨b0 + 1, 0, none⟩ = some (.pointer none) := by rw [← hW, ← hb0]; simp [go_sem]
  have s0 : W.cell? ⟨b0 + 1 + 1, 0, none⟩ = some (.pointer none) := by rw [← hW, ← hb0]; simp [go_sem]
  have s1 : W.cell? ⟨b0 + 1 + 1, 1, none⟩ = some (.pointer (some ⟨b0 + 1, 0, none⟩)) := by rw [← hW, ← hb0]; simp [go_sem]
  have hj : Below w.heap.size w W := by rw [← hW]; (repeat' (first | (with_reducible exact Below.refl _ _) | (with_reducible assumption) | (with_reducible refine Below.alloc ?_ ?_ _) | (with_reducible refine Below.drew ?_) | (with_reducible refine below_drewN ?_ _) | (with_reducible refine below_plus ?_ ?_ _ _) | (with_reducible refine Below.setCell ?_ ?_ _) | (with_reducible refine Below.setRow ?_ ?_ _) | go_size))
  have HJ := Lib.hid hj
  rw [hW, hb0]
  clear hW hj hb0
  obtain ⟨b1, hb1⟩ : ∃ b, b0 + 1 = b := ⟨_, rfl⟩
  rw [hb1] at u0 s0 s1 ⊢
  obtain ⟨b2, hb2⟩ : ∃ b, b1 + 1 = b := ⟨_, rfl⟩
  rw [hb2] at s0 s1 ⊢
  clear hb1 hb2
  have l0 := World.block_lt_of_cell? _ _ p0
  have l1 := World.block_lt_of_cell? _ _ u0
  have l2 := World.block_lt_of_cell? _ _ s0
  go_loopw [7] (fun x wr => NnAt W x wr) (fun x _ => 2 - (intOf x).toNat)
  case atStart => exact ⟨0, rfl, by omega, #[], _, (plus_nil _).symm⟩
  case round =>
    obtain ⟨k, rfl, hk, J0, d0, rfl⟩ := hrel
    by_cases hk2 : k < 2
    · have hN : ∃ p, W.cell? ⟨b2, k, none⟩ = some (.pointer p) ∧ NoSl W p := by
        have : k = 0 ∨ k = 1 := by omega
        rcases this with rfl | rfl
        · exact ⟨_, s0, .inl rfl⟩
        · exact ⟨_, s1, .inr ⟨b1, rfl, u0⟩⟩
      obtain ⟨p, sk, hN⟩ := hN
      have HN := Lib.hid hN
      have HC1 := Lib.hid (fun J d => n_noIn (w := W.plus J d) (hN.below (Junk.below ⟨J, d, rfl⟩)) px py)
      have HC2 := Lib.hid (fun J d => n_noCross (w := W.plus J d) (hN.below (Junk.below ⟨J, d, rfl⟩)) px py)
      have HC3 := Lib.hid (fun J d => n_noLen (w := W.plus J d) (hN.below (Junk.below ⟨J, d, rfl⟩)))
      have HC4 := Lib.hid (fun J d => n_noMost (w := W.plus J d) (hN.below (Junk.below ⟨J, d, rfl⟩)))
      unfold pt at HC1 HC2
      have i1 : (k : Int) < 2 := by omega
      clear hN s0 s1 u0
      go_upto_region 7 with (go_at_call 22; refine (HS.out _ p (HN.out.below (by ((try simp only [← Array.append_assoc]); repeat' (first | (with_reducible exact Below.refl _ _) | (with_reducible assumption) | (with_reducible refine Below.alloc ?_ ?_ _) | (with_reducible refine Below.drew ?_) | (with_reducible refine below_drewN ?_ _) | (with_reducible exact below_d _ _ _ _ _) | (with_reducible refine below_snoc _ _ ?_ ?_) | (with_reducible refine below_plus ?_ ?_ _ _) | (with_reducible refine Below.setCell ?_ ?_ _) | (with_reducible refine Below.setRow ?_ ?_ _) | go_size))))).mono ?_; rintro e w1 ⟨rfl, J1, d1, rfl⟩)
      refine region_quiet_all (C := Cls W) (by kernel_rfl) (by kernel_rfl) ⟨_, _, rfl⟩ ?_
      repeat (first | (refine qw_skip (by rfl) ?_; simp only [Act.put, List.setIfInBounds_toArray, List.set_cons_succ, List.set_cons_zero]) | (refine qw_want (by rfl) (fun K hK => ?_); go_simp; first | (refine hK _ ?_; clear hK K) | (apply Exists.intro; refine ⟨?_, hK _ ?_⟩; (rintro w3_ ⟨J3_, d3_, rfl⟩; first | (with_reducible exact rfl) | (go_simp; with_reducible exact rfl) | (go_simp; (first | (with_reducible refine (HAw.out _).mono ?_) | (with_reducible refine (HC1.out _ _).mono ?_) | (with_reducible refine (HC2.out _ _).mono ?_) | (with_reducible refine (HC3.out _ _).mono ?_) | (with_reducible refine (HC4.out _ _).mono ?_)); rintro e_ w_ ⟨rfl, J4_, d4_, rfl⟩; exact ⟨rfl, J3_ ++ J4_, d4_, by simp only [plus_plus, Array.append_assoc]⟩)); clear hK K)))
      refine qw_nil ?_
      rintro w4 ⟨J3, d3, rfl⟩
      go_wp2_with fail
      go_roundw
      case rel => exact ⟨k + 1, by go_num, by omega, _, _, rfl⟩
      case measure => simp [intOf]; omega
    · obtain rfl : k = 2 := by omega
      have i1 : ¬ ((2 : Nat) : Int) < 2 := by omega
      go_wp2_with (go_at_call 10; refine (HAw.out _).mono ?_; rintro e w1 ⟨rfl, J3, d3, rfl⟩)
      go_ret
      exact ⟨rfl, junk_of_below (HJ.out.trans ((show Below W.heap.size W _ by ((try simp only [← Array.append_assoc]); repeat' (first | (with_reducible exact Below.refl _ _) | (with_reducible assumption) | (with_reducible refine Below.alloc ?_ ?_ _) | (with_reducible refine Below.drew ?_) | (with_reducible refine below_drewN ?_ _) | (with_reducible exact below_d _ _ _ _ _) | (with_reducible refine below_snoc _ _ ?_ ?_) | (with_reducible refine below_plus ?_ ?_ _ _) | (with_reducible refine Below.setCell ?_ ?_ _) | (with_reducible refine Below.setRow ?_ ?_ _) | go_size))).mono HJ.out.size))⟩
end Go.Proofs.YtegliapkbapigaaGreat

/- The law IndexNone: what is no index; the walk. -/
import Derived.Test.YthphdiigjimchaaGreatIxLaw
namespace Go.Proofs.YthphdiigjimchaaGreat
set_option linter.unusedVariables false
set_option linter.unusedSimpArgs false
open Go.RowKit
def NoIx (w : World) (p : Option Addr) : Prop := p = none ∨ ∃ g, p = some ⟨g, 0, none⟩ ∧ w.cell? ⟨g, 0, none⟩ = some (.pointer none)
theorem NoIx.below {w w' : World} {p : Option Addr} (h : NoIx w p) (hb : Below w.heap.size w w') : NoIx w' p := by
  rcases h with h | ⟨g, e, h⟩
  · exact .inl h
  · exact .inr ⟨g, e, (World.cell?_of_block (a := ⟨g, 0, none⟩) (hb.block g (World.block_lt_of_cell? _ _ h))).trans h⟩
section
variable {w : World} {p : Option Addr}
theorem n_xnMade (h : NoIx w p) : Calls Tryz.prog 34 #[.pointer p] w fun e w' => e = .returned (.bool false) ∧ w' = w := by
  rcases h with rfl | ⟨g, rfl, h⟩
  · exact n_ixNil w
  · exact n_ixNot g w h
set_option maxRecDepth 100000 in
theorem n_xnLen (h : NoIx w p) : Calls Tryz.prog 13 #[.pointer p] w fun e w' => e = .returned (.int .i64 0) ∧ Junk w w' := by
  have HM := Lib.hid (n_xnMade h)
  clear h
  go_enter Tryz.func13, Tryz.ntmps13
  go_wp2_with (go_at_call 34; refine HM.out.mono ?_; rintro e w1 ⟨rfl, hw⟩; rw [hw]; clear hw)
  go_ret
  exact ⟨rfl, junk_of_below (by (repeat' first | with_reducible (first | apply Below.refl | assumption | apply bw_a | apply bw_d | apply bw_n | apply bw_p | apply bw_c | apply bw_r) | go_size))⟩
set_option maxRecDepth 100000 in
theorem n_xnNear (h : NoIx w p) (px py : Int) : Calls Tryz.prog 16 #[.pointer p, pt px py] w fun e w' => e = .returned (.slice none 0 0) ∧ Junk w w' := by
  have HH := Lib.hid h
  have HM := Lib.hid (fun (W : World) (h : NoIx W p) => n_xnMade h)
  clear h
  unfold pt
  go_enter Tryz.func16, Tryz.ntmps16
  go_wp2_with (go_at_call 34; refine (HM.out _ (HH.out.below (by (repeat' first | with_reducible (first | apply Below.refl | assumption | apply bw_a | apply bw_d | apply bw_n | apply bw_p | apply bw_c | apply bw_r) | go_size)))).mono ?_; rintro e w1 ⟨rfl, hw⟩; rw [hw]; clear hw)
  go_ret
  exact ⟨rfl, junk_of_below (by (repeat' first | with_reducible (first | apply Below.refl | assumption | apply bw_a | apply bw_d | apply bw_n | apply bw_p | apply bw_c | apply bw_r) | go_size))⟩
set_option maxRecDepth 100000 in
theorem n_xnAt (h : NoIx w p) (px py : Int) : Calls Tryz.prog 15 #[.pointer p, pt px py] w fun e w' => e = .returned (.slice none 0 0) ∧ Junk w w' := by
  have HN := Lib.hid (fun (W : World) (h : NoIx W p) => n_xnNear h px py)
  have HH := Lib.hid h
  have HD := Lib.hid n_slDeleteNil
  clear h
  unfold pt at *
  go_enter Tryz.func15, Tryz.ntmps15
  go_wp2_with (first
    | (go_at_call 16; refine (HN.out _ (HH.out.below (by ((try simp only [← Array.append_assoc]); repeat' first | with_reducible (first | apply Below.refl | assumption | apply bw_a | apply bw_d | apply bw_n | apply bw_e | apply bw_s | apply bw_p | apply bw_c | apply bw_r) | go_size)))).mono ?_; rintro e w1 ⟨rfl, J1, d1, rfl⟩)
    | (go_at_call 35; refine (HD.out _ _).mono ?_; rintro e w1 ⟨rfl, hw⟩; rw [hw]; clear hw))
  go_ret
  exact ⟨rfl, junk_of_below (by (repeat' first | with_reducible (first | apply Below.refl | assumption | apply bw_a | apply bw_d | apply bw_n | apply bw_p | apply bw_c | apply bw_r) | go_size))⟩
set_option maxRecDepth 100000 in
theorem n_xnIn (h : NoIx w p) (i px py : Int) : Calls Tryz.prog 20 #[.pointer p, .int .i64 i, pt px py] w fun e w' => e = .returned (.tuple #[.bool false, .int .i64 1]) ∧ Junk w w' := by
  have HH := Lib.hid h
  have HM := Lib.hid (fun (W : World) (h : NoIx W p) => n_xnMade h)
  clear h
  unfold pt
  go_enter Tryz.func20, Tryz.ntmps20
  go_wp2_with (go_at_call 34; refine (HM.out _ (HH.out.below (by ((try simp only [← Array.append_assoc]); repeat' first | with_reducible (first | apply Below.refl | assumption | apply bw_a | apply bw_d | apply bw_n | apply bw_e | apply bw_s | apply bw_p | apply bw_c | apply bw_r) | go_size)))).mono ?_; rintro e w1 ⟨rfl, hw⟩; rw [hw]; clear hw)
  go_ret2
  exact ⟨rfl, junk_of_below (by (repeat' first | with_reducible (first | apply Below.refl | assumption | apply bw_a | apply bw_d | apply bw_n | apply bw_p | apply bw_c | apply bw_r) | go_size))⟩
end
def XnAt (W : World) (x : Value) (wr : World) : Prop := ∃ k : Nat, x = .int .i64 (k : Int) ∧ k ≤ 2 ∧ ∃ J d, wr = W.plus J d
set_option maxRecDepth 100000 in
set_option maxHeartbeats 4000000 in
theorem l_indexNone (w : World) (i : Int) (_ : -9223372036854775808 ≤ i ∧ i ≤ 9223372036854775807) (px py : Int) : Calls Tryz.prog 4 #[.int .i64 i, pt px py] w fun e w' => e = .returned (.bool true) ∧ Junk w w' := by
  have HAw := Lib.hid l_ixAwake
  have HS := Lib.hid (fun W p (h : NoIx W p) => n_xnIn h i px py)
  unfold pt at *
  go_enter Tryz.func4, Tryz.ntmps4
  go_wp2_with fail
  obtain ⟨b0, hb0⟩ : ∃ b, w.heap.size = b := ⟨_, rfl⟩
  obtain ⟨W, hW⟩ : ∃ W, ((w.alloc (Obj.cells #[Value.int IntKind.i64 px, Value.int IntKind.i64 py] 42)).alloc (Obj.cells #[Value.pointer none, Value.pointer none, Value.slice none 0 0, Value.slice none 0 0, Value.slice none 0 0] 52)).alloc (Obj.cells #[Value.pointer none, Value.pointer (some ⟨w.heap.size + 1, 0, none⟩)] 30) = W := ⟨_, rfl⟩
  have p0 : W.cell? ⟨b0, 0, none⟩ = some (.int .i64 px) := by rw [← hW, ← hb0]; simp [go_sem]
  have p1 : W.cell? ⟨b0, 1, none⟩ = some (.int .i64 py) := by rw [← hW, ← hb0]; simp [go_sem]
  have u0 : W.cell? ⟨b0 + 1, 0, none⟩ = some (.pointer none) := by rw [← hW, ← hb0]; simp [go_sem]
  have s0 : W.cell? ⟨b0 + 1 + 1, 0, none⟩ = some (.pointer none) := by rw [← hW, ← hb0]; simp [go_sem]
  have s1 : W.cell? ⟨b0 + 1 + 1, 1, none⟩ = some (.pointer (some ⟨b0 + 1, 0, none⟩)) := by rw [← hW, ← hb0]; simp [go_sem]
  have hj : Below w.heap.size w W := by rw [← hW]; (repeat' first | with_reducible (first | apply Below.refl | assumption | apply bw_a | apply bw_d | apply bw_n | apply bw_p | apply bw_c | apply bw_r) | go_size)
  have HJ := Lib.hid hj
  rw [hW, hb0]
  clear hW hj hb0
  obtain ⟨b1, hb1⟩ : ∃ b, b0 + 1 = b := ⟨_, rfl⟩
  rw [hb1] at u0 s0 s1 ⊢
  obtain ⟨b2, hb2⟩ : ∃ b, b1 + 1 = b := ⟨_, rfl⟩
  rw [hb2] at s0 s1 ⊢
  clear hb1 hb2
  have l0 := World.block_lt_of_cell? _ _ p0
  have l1 := World.block_lt_of_cell? _ _ u0
  have l2 := World.block_lt_of_cell? _ _ s0
  go_loopw [7] (fun x wr => XnAt W x wr) (fun x _ => 2 - (intOf x).toNat)
  case atStart => exact ⟨0, rfl, by omega, #[], _, (plus_nil _).symm⟩
  case round =>
    obtain ⟨k, rfl, hk, J0, d0, rfl⟩ := hrel
    by_cases hk2 : k < 2
    · have hN : ∃ p, W.cell? ⟨b2, k, none⟩ = some (.pointer p) ∧ NoIx W p := by
        have : k = 0 ∨ k = 1 := by omega
        rcases this with rfl | rfl
        · exact ⟨_, s0, .inl rfl⟩
        · exact ⟨_, s1, .inr ⟨b1, rfl, u0⟩⟩
      obtain ⟨p, sk, hN⟩ := hN
      have HN := Lib.hid hN
      have HC1 := Lib.hid (fun J d => n_xnAt (w := W.plus J d) (hN.below (Junk.below ⟨J, d, rfl⟩)) px py)
      have HC2 := Lib.hid (fun J d => n_xnNear (w := W.plus J d) (hN.below (Junk.below ⟨J, d, rfl⟩)) px py)
      have HC3 := Lib.hid (fun J d => n_xnLen (w := W.plus J d) (hN.below (Junk.below ⟨J, d, rfl⟩)))
      have HC4 := Lib.hid (fun J d => n_xnIn (w := W.plus J d) (hN.below (Junk.below ⟨J, d, rfl⟩)) i px py)
      unfold pt at HC1 HC2 HC4
      have i1 : (k : Int) < 2 := by omega
      clear hN s0 s1 u0
      go_upto_region 6 with fail
      refine region_quiet_all (C := Cls W) (by kernel_rfl) (by kernel_rfl) ⟨_, _, rfl⟩ ?_
      repeat (first | (refine qw_skip (by rfl) ?_; simp only [Act.put, List.setIfInBounds_toArray, List.set_cons_succ, List.set_cons_zero]) | (refine qw_want (by rfl) (fun K hK => ?_); go_simp; first | (refine hK _ ?_; clear hK K) | (apply Exists.intro; refine ⟨?_, hK _ ?_⟩; (rintro w3_ ⟨J3_, d3_, rfl⟩; first | (with_reducible exact rfl) | (go_simp; with_reducible exact rfl) | (go_simp; (first | (with_reducible refine (HAw.out _).mono ?_) | (with_reducible refine (HC4.out _ _).mono ?_)); rintro e_ w_ ⟨rfl, J4_, d4_, rfl⟩; exact ⟨rfl, J3_ ++ J4_, d4_, by simp only [plus_plus, Array.append_assoc]⟩)); clear hK K)))
      refine qw_nil ?_
      rintro w4 ⟨J3, d3, rfl⟩
      go_upto_region 7 with fail
      refine region_quiet_all (C := Cls W) (by kernel_rfl) (by kernel_rfl) ⟨_, _, rfl⟩ ?_
      repeat (first | (refine qw_skip (by rfl) ?_; simp only [Act.put, List.setIfInBounds_toArray, List.set_cons_succ, List.set_cons_zero]) | (refine qw_want (by rfl) (fun K hK => ?_); go_simp; first | (refine hK _ ?_; clear hK K) | (apply Exists.intro; refine ⟨?_, hK _ ?_⟩; (rintro w3_ ⟨J3_, d3_, rfl⟩; first | (with_reducible exact rfl) | (go_simp; with_reducible exact rfl) | (go_simp; (first | (with_reducible refine (HAw.out _).mono ?_) | (with_reducible refine (HC1.out _ _).mono ?_) | (with_reducible refine (HC2.out _ _).mono ?_) | (with_reducible refine (HC3.out _ _).mono ?_)); rintro e_ w_ ⟨rfl, J4_, d4_, rfl⟩; exact ⟨rfl, J3_ ++ J4_, d4_, by simp only [plus_plus, Array.append_assoc]⟩)); clear hK K)))
      refine qw_nil ?_
      rintro w5 ⟨J4, d4, rfl⟩
      go_wp2_with fail
      go_roundw
      case rel => exact ⟨k + 1, by go_num, by omega, _, _, rfl⟩
      case measure => simp [intOf]; omega
    · obtain rfl : k = 2 := by omega
      have i1 : ¬ ((2 : Nat) : Int) < 2 := by omega
      go_wp2_with (go_at_call 9; refine (HAw.out _).mono ?_; rintro e w1 ⟨rfl, J3, d3, rfl⟩)
      go_ret
      exact ⟨rfl, junk_of_below (HJ.out.trans ((show Below W.heap.size W _ by ((try simp only [← Array.append_assoc]); repeat' first | with_reducible (first | apply Below.refl | assumption | apply bw_a | apply bw_d | apply bw_n | apply bw_e | apply bw_s | apply bw_p | apply bw_c | apply bw_r) | go_size)).mono HJ.out.size))⟩
end Go.Proofs.YthphdiigjimchaaGreat

/- The law BoxtreeNone: what is no tree; the walk. -/
import Derived.Test.YtnpkhhchbahcpaaBnLaw
namespace Go.Proofs.Ytnpkhhchbahcpaa
set_option linter.unusedVariables false
set_option linter.unusedSimpArgs false
open Go.RowKit

/-- No tree: nil, or one that Build did not make. -/
def NoTr (w : World) (p : Option Addr) : Prop := p = none ∨ ∃ g, p = some ⟨g, 0, none⟩ ∧ w.cell? ⟨g, 0, none⟩ = some (.pointer none)
theorem NoTr.below {w w' : World} {p : Option Addr} (h : NoTr w p) (hb : Below w.heap.size w w') : NoTr w' p := by
  rcases h with h | ⟨g, e, h⟩
  · exact .inl h
  · exact .inr ⟨g, e, (World.cell?_of_block (a := ⟨g, 0, none⟩) (hb.block g (World.block_lt_of_cell? _ _ h))).trans h⟩
section
variable {w : World} {p : Option Addr}
theorem n_noMade (h : NoTr w p) : Calls Try.prog 31 #[.pointer p] w fun e w' => e = .returned (.bool false) ∧ w' = w := by
  rcases h with rfl | ⟨g, rfl, h⟩
  · exact n_btNil w
  · exact n_btNot g w h
theorem n_noLen (h : NoTr w p) : Calls Try.prog 12 #[.pointer p] w fun e w' => e = .returned (.int .i64 0) ∧ w' = w := n_btLen0 p w (n_noMade h)
set_option maxRecDepth 100000 in
theorem n_noAt (h : NoTr w p) (px py : Int) : Calls Try.prog 13 #[.pointer p, pt px py] w fun e w' => e = .returned (.slice none 0 0) ∧ Junk w w' := by
  have HN := Lib.hid h
  have HF := Lib.hid (fun (W : World) fv (hW : NoTr W p) => n_btFind0 p fv W (n_noLen hW))
  clear h
  unfold pt
  go_enter Try.func13, Try.ntmps13
  go_wp2_with (go_at_call 32; refine (HF.out _ _ (HN.out.below (by ((try simp only [← Array.append_assoc]); repeat' (first | (with_reducible exact Below.refl _ _) | (with_reducible assumption) | (with_reducible refine Below.alloc ?_ ?_ _) | (with_reducible refine Below.drew ?_) | (with_reducible refine below_drewN ?_ _) | (with_reducible exact below_d _ _ _ _ _) | (with_reducible refine below_snoc _ _ ?_ ?_) | (with_reducible refine below_plus ?_ ?_ _ _) | (with_reducible refine Below.setCell ?_ ?_ _) | (with_reducible refine Below.setRow ?_ ?_ _) | go_size))))).mono ?_; rintro e w1 ⟨rfl, hw⟩; rw [hw]; clear hw)
  go_ret
  exact ⟨rfl, junk_of_below (by (repeat' (first | (with_reducible exact Below.refl _ _) | (with_reducible assumption) | (with_reducible refine Below.alloc ?_ ?_ _) | (with_reducible refine Below.drew ?_) | (with_reducible refine below_drewN ?_ _) | (with_reducible refine below_plus ?_ ?_ _ _) | (with_reducible refine Below.setCell ?_ ?_ _) | (with_reducible refine Below.setRow ?_ ?_ _) | go_size)))⟩
set_option maxRecDepth 100000 in
theorem n_noOver (h : NoTr w p) (x1 x2 x3 x4 : Int) : Calls Try.prog 16 #[.pointer p, bxV x1 x2 x3 x4] w fun e w' => e = .returned (.slice none 0 0) ∧ Junk w w' := by
  have HN := Lib.hid h
  have HF := Lib.hid (fun (W : World) fv (hW : NoTr W p) => n_btFind0 p fv W (n_noLen hW))
  clear h
  unfold bxV
  go_enter Try.func16, Try.ntmps16
  go_wp2_with (go_at_call 32; refine (HF.out _ _ (HN.out.below (by ((try simp only [← Array.append_assoc]); repeat' (first | (with_reducible exact Below.refl _ _) | (with_reducible assumption) | (with_reducible refine Below.alloc ?_ ?_ _) | (with_reducible refine Below.drew ?_) | (with_reducible refine below_drewN ?_ _) | (with_reducible exact below_d _ _ _ _ _) | (with_reducible refine below_snoc _ _ ?_ ?_) | (with_reducible refine below_plus ?_ ?_ _ _) | (with_reducible refine Below.setCell ?_ ?_ _) | (with_reducible refine Below.setRow ?_ ?_ _) | go_size))))).mono ?_; rintro e w1 ⟨rfl, hw⟩; rw [hw]; clear hw)
  go_ret
  exact ⟨rfl, junk_of_below (by (repeat' (first | (with_reducible exact Below.refl _ _) | (with_reducible assumption) | (with_reducible refine Below.alloc ?_ ?_ _) | (with_reducible refine Below.drew ?_) | (with_reducible refine below_drewN ?_ _) | (with_reducible refine below_plus ?_ ?_ _ _) | (with_reducible refine Below.setCell ?_ ?_ _) | (with_reducible refine Below.setRow ?_ ?_ _) | go_size)))⟩
set_option maxRecDepth 100000 in
theorem n_noDepth (h : NoTr w p) : Calls Try.prog 18 #[.pointer p] w fun e w' => e = .returned (.int .i64 0) ∧ Junk w w' := by
  have HL := Lib.hid (n_noLen h)
  clear h
  go_enter Try.func18, Try.ntmps18
  go_wp2_with (go_at_call 12; refine HL.out.mono ?_; rintro e w1 ⟨rfl, hw⟩; rw [hw]; clear hw)
  go_ret
  exact ⟨rfl, junk_of_below (by (repeat' (first | (with_reducible exact Below.refl _ _) | (with_reducible assumption) | (with_reducible refine Below.alloc ?_ ?_ _) | (with_reducible refine Below.drew ?_) | (with_reducible refine below_drewN ?_ _) | (with_reducible refine below_plus ?_ ?_ _ _) | (with_reducible refine Below.setCell ?_ ?_ _) | (with_reducible refine Below.setRow ?_ ?_ _) | go_size)))⟩
set_option maxRecDepth 100000 in
theorem n_noOrder (h : NoTr w p) : Calls Try.prog 20 #[.pointer p] w fun e w' => e = .returned (.slice none 0 0) ∧ Junk w w' := by
  have HL := Lib.hid (n_noMade h)
  clear h
  go_enter Try.func20, Try.ntmps20
  go_wp2_with (go_at_call 31; refine HL.out.mono ?_; rintro e w1 ⟨rfl, hw⟩; rw [hw]; clear hw)
  go_ret
  exact ⟨rfl, junk_of_below (by (repeat' (first | (with_reducible exact Below.refl _ _) | (with_reducible assumption) | (with_reducible refine Below.alloc ?_ ?_ _) | (with_reducible refine Below.drew ?_) | (with_reducible refine below_drewN ?_ _) | (with_reducible refine below_plus ?_ ?_ _ _) | (with_reducible refine Below.setCell ?_ ?_ _) | (with_reducible refine Below.setRow ?_ ?_ _) | go_size)))⟩
set_option maxRecDepth 100000 in
theorem n_noBox (h : NoTr w p) (i : Int) : Calls Try.prog 22 #[.pointer p, .int .i64 i] w fun e w' => e = .returned (.tuple #[bxV 0 0 0 0, .int .i64 1]) ∧ Junk w w' := by
  have HN := Lib.hid h
  have HM := Lib.hid (fun (W : World) (hW : NoTr W p) => n_noMade hW)
  clear h
  unfold bxV
  go_enter Try.func22, Try.ntmps22
  go_wp2_with (go_at_call 31; refine (HM.out _ (HN.out.below (by ((try simp only [← Array.append_assoc]); repeat' (first | (with_reducible exact Below.refl _ _) | (with_reducible assumption) | (with_reducible refine Below.alloc ?_ ?_ _) | (with_reducible refine Below.drew ?_) | (with_reducible refine below_drewN ?_ _) | (with_reducible exact below_d _ _ _ _ _) | (with_reducible refine below_snoc _ _ ?_ ?_) | (with_reducible refine below_plus ?_ ?_ _ _) | (with_reducible refine Below.setCell ?_ ?_ _) | (with_reducible refine Below.setRow ?_ ?_ _) | go_size))))).mono ?_; rintro e w1 ⟨rfl, hw⟩; rw [hw]; clear hw)
  refine bodyPost_ret (results_bxe rfl _ _ w.heap.size #[.int .i64 0, .int .i64 0, .int .i64 0, .int .i64 0] rfl (by simp [go_sem]) rfl) rfl ⟨rfl, junk_of_below (by (repeat' (first | (with_reducible exact Below.refl _ _) | (with_reducible assumption) | (with_reducible refine Below.alloc ?_ ?_ _) | (with_reducible refine Below.drew ?_) | (with_reducible refine below_drewN ?_ _) | (with_reducible refine below_plus ?_ ?_ _ _) | (with_reducible refine Below.setCell ?_ ?_ _) | (with_reducible refine Below.setRow ?_ ?_ _) | go_size)))⟩
end

/-- Between two rounds. -/
def NnAt (W : World) (x : Value) (wr : World) : Prop := ∃ k : Nat, x = .int .i64 (k : Int) ∧ k ≤ 2 ∧ ∃ J d, wr = W.plus J d
set_option maxRecDepth 100000 in
set_option maxHeartbeats 4000000 in
theorem l_boxtreeNone (w : World) (px py x1 x2 x3 x4 i : Int) (_ : -9223372036854775808 ≤ i ∧ i ≤ 9223372036854775807) : Calls Try.prog 5 #[pt px py, bxV x1 x2 x3 x4, .int .i64 i] w fun e w' => e = .returned (.bool true) ∧ Junk w w' := by
  have HAw := Lib.hid l_btAwake
  have HA := Lib.hid (fun W p (h : NoTr W p) => n_noAt h px py)
  have HO := Lib.hid (fun W p (h : NoTr W p) => n_noOver h x1 x2 x3 x4)
  have HX := Lib.hid (fun W p (h : NoTr W p) => n_noBox h i)
  unfold pt bxV at *
  go_enter Try.func5, Try.ntmps5
  go_wp2_with fail
  obtain ⟨b0, hb0⟩ : ∃ b, w.heap.size = b := ⟨_, rfl⟩
  obtain ⟨W, hW⟩ : ∃ W, (((w.alloc (Obj.cells #[Value.int IntKind.i64 px, Value.int IntKind.i64 py] 31)).alloc (Obj.cells #[Value.int IntKind.i64 x1, Value.int IntKind.i64 x2, Value.int IntKind.i64 x3, Value.int IntKind.i64 x4] 33)).alloc (Obj.cells #[Value.pointer none, Value.slice none 0 0, Value.slice none 0 0] 48)).alloc (Obj.cells #[Value.pointer none, Value.pointer (some ⟨w.heap.size + 1 + 1, 0, none⟩)] 25) = W := ⟨_, rfl⟩
  have p0 : W.cell? ⟨b0, 0, none⟩ = some (.int .i64 px) := by rw [← hW, ← hb0]; simp [go_sem]
  have p1 : W.cell? ⟨b0, 1, none⟩ = some (.int .i64 py) := by rw [← hW, ← hb0]; simp [go_sem]
  have q0 : W.cell? ⟨b0 + 1, 0, none⟩ = some (.int .i64 x1) := by rw [← hW, ← hb0]; simp [go_sem]
  have q1 : W.cell? ⟨b0 + 1, 1, none⟩ = some (.int .i64 x2) := by rw [← hW, ← hb0]; simp [go_sem]
  have q2 : W.cell? ⟨b0 + 1, 2, none⟩ = some (.int .i64 x3) := by rw [← hW, ← hb0]; simp [go_sem]
  have q3 : W.cell? ⟨b0 + 1, 3, none⟩ = some (.int .i64 x4) := by rw [← hW, ← hb0]; simp [go_sem]
  have u0 : W.cell? ⟨b0 + 1 + 1, 0, none⟩ = some (.pointer none) := by rw [← hW, ← hb0]; simp [go_sem]
  have s0 : W.cell? ⟨b0 + 1 + 1 + 1, 0, none⟩ = some (.pointer none) := by rw [← hW, ← hb0]; simp [go_sem]
  have s1 : W.cell? ⟨b0 + 1 + 1 + 1, 1, none⟩ = some (.pointer (some ⟨b0 + 1 + 1, 0, none⟩)) := by rw [← hW, ← hb0]; simp [go_sem]
  have hj : Below w.heap.size w W := by rw [← hW]; (repeat' (first | (with_reducible exact Below.refl _ _) | (with_reducible assumption) | (with_reducible refine Below.alloc ?_ ?_ _) | (with_reducible refine Below.drew ?_) | (with_reducible refine below_drewN ?_ _) | (with_reducible refine below_plus ?_ ?_ _ _) | (with_reducible refine Below.setCell ?_ ?_ _) | (with_reducible refine Below.setRow ?_ ?_ _) | go_size))
  have HJ := Lib.hid hj
  rw [hW, hb0]
  clear hW hj hb0
  obtain ⟨b1, hb1⟩ : ∃ b, b0 + 1 = b := ⟨_, rfl⟩
  rw [hb1] at q0 q1 q2 q3 u0 s0 s1 ⊢
  obtain ⟨b2, hb2⟩ : ∃ b, b1 + 1 = b := ⟨_, rfl⟩
  rw [hb2] at u0 s0 s1 ⊢
  obtain ⟨b3, hb3⟩ : ∃ b, b2 + 1 = b := ⟨_, rfl⟩
  rw [hb3] at s0 s1 ⊢
  clear hb1 hb2 hb3
  have l0 := World.block_lt_of_cell? _ _ p0
  have l1 := World.block_lt_of_cell? _ _ q0
  have l2 := World.block_lt_of_cell? _ _ u0
  have l3 := World.block_lt_of_cell? _ _ s0
  go_loopw [9] (fun x wr => NnAt W x wr) (fun x _ => 2 - (intOf x).toNat)
  case atStart => exact ⟨0, rfl, by omega, #[], _, (plus_nil _).symm⟩
  case round =>
    obtain ⟨k, rfl, hk, J0, d0, rfl⟩ := hrel
    by_cases hk2 : k < 2
    · have hN : ∃ p, W.cell? ⟨b3, k, none⟩ = some (.pointer p) ∧ NoTr W p := by
        have : k = 0 ∨ k = 1 := by omega
        rcases this with rfl | rfl
        · exact ⟨_, s0, .inl rfl⟩
        · exact ⟨_, s1, .inr ⟨b2, rfl, u0⟩⟩
      obtain ⟨p, sk, hN⟩ := hN
      have HN := Lib.hid hN
      have i1 : (k : Int) < 2 := by omega
      clear hN s0 s1 u0
      go_wp2_with (go_at_call 22; refine (HX.out _ p (HN.out.below (by ((try simp only [← Array.append_assoc]); repeat' (first | (with_reducible exact Below.refl _ _) | (with_reducible assumption) | (with_reducible refine Below.alloc ?_ ?_ _) | (with_reducible refine Below.drew ?_) | (with_reducible refine below_drewN ?_ _) | (with_reducible exact below_d _ _ _ _ _) | (with_reducible refine below_snoc _ _ ?_ ?_) | (with_reducible refine below_plus ?_ ?_ _ _) | (with_reducible refine Below.setCell ?_ ?_ _) | (with_reducible refine Below.setRow ?_ ?_ _) | go_size))))).mono ?_; rintro e w1 ⟨rfl, J1, d1, rfl⟩)
      obtain ⟨V, hV⟩ : ∃ V, ((W.plus (J0 ++ J1) d1).alloc (Obj.cells #[Value.int IntKind.i64 0, Value.int IntKind.i64 0, Value.int IntKind.i64 0, Value.int IntKind.i64 0] 33)) = V := ⟨_, rfl⟩
      obtain ⟨bx, hbx⟩ : ∃ b, W.heap.size + (J0.size + J1.size) = b := ⟨_, rfl⟩
      have hWV : Below W.heap.size W V := by rw [← hV]; ((try simp only [← Array.append_assoc]); repeat' (first | (with_reducible exact Below.refl _ _) | (with_reducible assumption) | (with_reducible refine Below.alloc ?_ ?_ _) | (with_reducible refine Below.drew ?_) | (with_reducible refine below_drewN ?_ _) | (with_reducible exact below_d _ _ _ _ _) | (with_reducible refine below_snoc _ _ ?_ ?_) | (with_reducible refine below_plus ?_ ?_ _ _) | (with_reducible refine Below.setCell ?_ ?_ _) | (with_reducible refine Below.setRow ?_ ?_ _) | go_size))
      have kc : ∀ {b o : Nat} {v : Value}, W.cell? ⟨b, o, none⟩ = some v → V.cell? ⟨b, o, none⟩ = some v := fun hc => (World.cell?_of_block (a := ⟨_, _, none⟩) (hWV.block _ (World.block_lt_of_cell? _ _ hc))).trans hc
      have p0' := kc p0
      have p1' := kc p1
      have q0' := kc q0
      have q1' := kc q1
      have q2' := kc q2
      have q3' := kc q3
      have sk' := kc sk
      have z0 : V.cell? ⟨bx, 0, none⟩ = some (.int .i64 0) := by rw [← hV, ← hbx]; simp [go_sem]
      have z1 : V.cell? ⟨bx, 1, none⟩ = some (.int .i64 0) := by rw [← hV, ← hbx]; simp [go_sem]
      have z2 : V.cell? ⟨bx, 2, none⟩ = some (.int .i64 0) := by rw [← hV, ← hbx]; simp [go_sem]
      have z3 : V.cell? ⟨bx, 3, none⟩ = some (.int .i64 0) := by rw [← hV, ← hbx]; simp [go_sem]
      have HW := Lib.hid (show Junk W V from junk_of_below hWV)
      have HNV := Lib.hid (fun J d => show NoTr (V.plus J d) p from (HN.out.below hWV).below (Junk.below ⟨J, d, rfl⟩))
      have m0 := World.block_lt_of_cell? _ _ p0'
      have m1 := World.block_lt_of_cell? _ _ q0'
      have m2 := World.block_lt_of_cell? _ _ sk'
      have m3 := World.block_lt_of_cell? _ _ z0
      simp only at m0 m1 m2 m3
      rw [hV, hbx]
      clear hV hbx hWV kc p0 p1 q0 q1 q2 q3 sk l0 l1 l2 l3 HX
      have HA' := Lib.hid (fun J d => HA.out (V.plus J d) p (HNV.out J d))
      have HO' := Lib.hid (fun J d => HO.out (V.plus J d) p (HNV.out J d))
      have HD' := Lib.hid (fun J d => n_noDepth (HNV.out J d))
      have HR' := Lib.hid (fun J d => n_noOrder (HNV.out J d))
      have HL' := Lib.hid (fun J d => show Calls Try.prog 12 #[.pointer p] (V.plus J d) fun e w' => e = .returned (.int .i64 0) ∧ Junk (V.plus J d) w' from
        (n_noLen (HNV.out J d)).mono fun e w' ⟨h1, h2⟩ => ⟨h1, by rw [h2]; exact ⟨#[], _, (plus_nil _).symm⟩⟩)
      refine region_quiet_all (C := Cls V) (by kernel_rfl) (by kernel_rfl) (cls_drawn _) ?_
      repeat (first | (refine qw_skip (by rfl) ?_; simp only [Act.put, List.setIfInBounds_toArray, List.set_cons_succ, List.set_cons_zero]) | (refine qw_want (by rfl) (fun K hK => ?_); go_simp; first | (refine hK _ ?_; clear hK K) | (apply Exists.intro; refine ⟨?_, hK _ ?_⟩; (rintro w3_ ⟨J3_, d3_, rfl⟩; first | (with_reducible exact rfl) | (go_simp; with_reducible exact rfl) | (go_simp; (first | (with_reducible refine (HAw.out _).mono ?_) | (with_reducible refine (HA'.out _ _).mono ?_) | (with_reducible refine (HO'.out _ _).mono ?_) | (with_reducible refine (HD'.out _ _).mono ?_) | (with_reducible refine (HR'.out _ _).mono ?_) | (with_reducible refine (HL'.out _ _).mono ?_)); rintro e_ w_ ⟨rfl, J4_, d4_, rfl⟩; exact ⟨rfl, J3_ ++ J4_, d4_, by simp only [plus_plus, Array.append_assoc]⟩)); clear hK K)))
      refine qw_nil ?_
      rintro w3 ⟨J9, d9, rfl⟩
      go_wp2_with fail
      go_roundw
      case rel =>
        obtain ⟨Jv, dv, hv⟩ := HW.out
        exact ⟨k + 1, by go_num, by omega, Jv ++ J9, d9, by rw [hv, plus_plus]⟩
      case measure => simp [intOf]; omega
    · obtain rfl : k = 2 := by omega
      go_wp2_with (go_at_call 10; refine (HAw.out _).mono ?_; rintro e w1 ⟨rfl, J2, d2, rfl⟩)
      go_ret
      exact ⟨rfl, junk_of_below (HJ.out.trans ((show Below W.heap.size W _ by ((try simp only [← Array.append_assoc]); repeat' (first | (with_reducible exact Below.refl _ _) | (with_reducible assumption) | (with_reducible refine Below.alloc ?_ ?_ _) | (with_reducible refine Below.drew ?_) | (with_reducible refine below_drewN ?_ _) | (with_reducible exact below_d _ _ _ _ _) | (with_reducible refine below_snoc _ _ ?_ ?_) | (with_reducible refine below_plus ?_ ?_ _ _) | (with_reducible refine Below.setCell ?_ ?_ _) | (with_reducible refine Below.setRow ?_ ?_ _) | go_size))).mono HJ.out.size))⟩
end Go.Proofs.Ytnpkhhchbahcpaa

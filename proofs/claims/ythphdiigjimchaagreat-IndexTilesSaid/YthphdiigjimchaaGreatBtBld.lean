/- Package boxtree: divide: the order and the nodes of a part. Slices of boxes that come in as arguments, with their numbers' bounds. Package boxtree: Build. -/
import Derived.Test.YthphdiigjimchaaGreatBtTree
import Derived.Test.YthphdiigjimchaaGreatBtRef
import Derived.Test.YthphdiigjimchaaGreatReH
import Derived.Test.YthphdiigjimchaaGreatBtFind
namespace Go.Proofs.YthphdiigjimchaaGreat
section
set_option linter.unusedVariables false
set_option linter.unusedSimpArgs false
open Go.RowKit Go.Shelf Go.Lib Go.Sort
set_option maxRecDepth 100000 in
set_option maxHeartbeats 8000000 in
theorem n_btDivide (L : List Bx) (hin : ∀ b ∈ L, InB b) (tb bb ob n cb co : Nat) : ∀ (f lv first count node : Nat) (O : List Nat) (N : Nat → Bx) (w : World), count ≤ f → 0 < count → first + count ≤ n → n ≤ node → node + count ≤ 2 * n → TrB tb bb ob n cb co L O N w →
    Calls Tryz.prog 48 #[.pointer (some ⟨tb, 0, none⟩), ptV first count node (lvY lv)] w fun e w' => e = .returned (.tuple #[]) ∧
      (∃ N', TrB tb bb ob n cb co L (spl O first (ordK (keyB L) f lv (slc O first count))) N' w' ∧ (∀ i, (i < node ∨ node + count ≤ i + 1) → N' i = N i) ∧ GoodB L N' f (ordK (keyB L) f lv (slc O first count)) node) ∧ Kept2 bb ob w w' := by
  intro f
  induction f with
  | zero => intro lv first count node O N w h1 h2; omega
  | succ f ih =>
    intro lv first count node O N w hcf h0 hf hnode hnode2 hT
    have hPl : (slc O first count).length = count := slc_len (by rw [hT.hO]; exact hf)
    have hlt := hT.lt
    have hle := hT.le
    by_cases hc1 : count = 1
    · have e : ordK (keyB L) (f + 1) lv (slc O first count) = slc O first count := ord_one (by omega)
      rw [e, spl_slc (by rw [hT.hO]; exact hf)]
      have HT := Lib.hid hT
      have HG := Lib.hid (show GoodB L N (f + 1) (slc O first count) node from .inl (by omega))
      have i1 : ((count : Int) == 1) = true := by subst hc1; rfl
      unfold ptV
      clear hT ih e hPl
      go_enter Tryz.func48, Tryz.ntmps48
      go_wp2_with fail
      refine bodyPost_ret (results_none rfl _ _ _) rfl ?_
      exact ⟨rfl, ⟨N, HT.out.below (by ((try simp only [← Array.append_assoc]); repeat' first | with_reducible (first | apply Below.refl | assumption | apply bw_a | apply bw_d | apply bw_n | apply bw_e | apply bw_s | apply bw_p | apply bw_c | apply bw_r) | go_size)), fun _ _ => rfl, HG.out⟩, Kept2.of_below (by ((try simp only [← Array.append_assoc]); repeat' first | with_reducible (first | apply Below.refl | assumption | apply bw_a | apply bw_d | apply bw_n | apply bw_e | apply bw_s | apply bw_p | apply bw_c | apply bw_r) | go_size))⟩
    have i1 : ((count : Int) == 1) = false := by rw [beq_eq_false_iff_ne]; omega
    obtain ⟨h, hh⟩ : ∃ h, (count + 1) / 2 = h := ⟨_, rfl⟩
    have hh1 : 0 < h := by omega
    have hh2 : h < count := by omega
    obtain ⟨P, hP⟩ : ∃ P, slc O first count = P := ⟨_, rfl⟩
    rw [hP] at hPl ⊢
    have hPn : P.Nodup := by rw [← hP]; unfold slc; exact (hT.nodup.sublist (List.drop_sublist _ _)).sublist (List.take_sublist _ _)
    obtain ⟨S0, hS0⟩ : ∃ S, upL P = S := ⟨_, rfl⟩
    have pS0 : S0.Perm P := by rw [← hS0]; exact up_perm P
    have lS0 : S0.length = count := by rw [pS0.length_eq, hPl]
    have uS0 : S0.Pairwise (· < ·) := by rw [← hS0]; exact nodup_up ((up_perm P).nodup_iff.2 hPn) (up_le P)
    obtain ⟨S1, hS1⟩ : ∃ S, srtK (keyB L lv) P = S := ⟨_, rfl⟩
    have pS1 : S1.Perm P := by rw [← hS1]; exact srt_perm _ P
    have lS1 : S1.length = count := by rw [pS1.length_eq, hPl]
    have eS1 : srtK (keyB L lv) S0 = S1 := by
      rw [← hS1]
      exact srt_is hPn ((srt_perm _ _).trans pS0) (srt_srt (pS0.nodup_iff.2 hPn))
    have hO := hT.hO
    have sl0 : slc (spl O first S0) first count = S0 := by rw [← lS0]; exact slc_spl (by rw [hO, lS0]; exact hf)
    have sl1 : slc (spl O first S1) first count = S1 := by rw [← lS1]; exact slc_spl (by rw [hO, lS1]; exact hf)
    have so1 : spl (spl O first S0) first S1 = spl O first S1 := spl_over (by rw [hO, lS1]; exact hf) (by rw [lS0, lS1])
    obtain ⟨A, hA⟩ : ∃ A, ordK (keyB L) f (lv + 1) (S1.take h) = A := ⟨_, rfl⟩
    obtain ⟨B, hB⟩ : ∃ B, ordK (keyB L) f (lv + 1) (S1.drop h) = B := ⟨_, rfl⟩
    have lA : A.length = h := by rw [← hA, ord_len, List.length_take]; omega
    have lB : B.length = count - h := by rw [← hB, ord_len, List.length_drop]; omega
    have pA : A.Perm (S1.take h) := by rw [← hA]; exact ord_perm _ _ _ _
    have pB : B.Perm (S1.drop h) := by rw [← hB]; exact ord_perm _ _ _ _
    have hAB : ordK (keyB L) (f + 1) lv P = A ++ B := by rw [ord_step (by omega), hS1, hPl, hh, hA, hB]
    have HS := Lib.hid (fun (W : World) (hW : TrB tb bb ob n cb co L O N W) (cap : Nat) => show Calls Tryz.prog 74 #[.slice (some ⟨ob, first, none⟩) count cap] W fun e w' => e = .returned (.tuple #[]) ∧ TrB tb bb ob n cb co L (spl O first S0) N w' ∧ Kept2 bb ob W w' from by
      have := n_btSort hW first count cap hf
      rw [hP, hS0] at this
      exact this)
    have HSt := Lib.hid (fun (W : World) (hW : TrB tb bb ob n cb co L (spl O first S0) N W) (cap gp gt : Nat) (p0 : W.cell? ⟨gp, 0, none⟩ = some (.int .i64 (first : Int))) (p1 : W.cell? ⟨gp, 1, none⟩ = some (.int .i64 (count : Int))) (p2 : W.cell? ⟨gp, 2, none⟩ = some (.int .i64 (node : Int))) (p3 : W.cell? ⟨gp, 3, none⟩ = some (.bool (lvY lv)))
        (q0 : W.cell? ⟨gt, 0, none⟩ = some (.pointer (some ⟨tb, 0, none⟩))) (hp : gp ≠ ob) (ht : gt ≠ ob) => show Calls Tryz.prog 75 #[.slice (some ⟨ob, first, none⟩) count cap, .func (.func 76) #[] #[.pointer (some ⟨gp, 0, none⟩), .pointer (some ⟨gt, 0, none⟩)]] W fun e w' =>
          e = .returned (.tuple #[]) ∧ TrB tb bb ob n cb co L (spl O first S1) N w' ∧ Kept2 bb ob W w' from by
      have := n_btStable hW hin first count cap lv gp gt first count node hf h0 (by rw [sl0]; exact uS0) p0 p1 p2 p3 q0 hp ht
      rw [sl0, eS1, so1] at this
      exact this)
    have HH := Lib.hid (fun W => show Calls Tryz.prog 79 #[ptV first count node (lvY lv)] W fun e w' => e = .returned (.tuple #[ptV first h (node + 1) (lvY (lv + 1)), ptV (first + h) (count - h) (node + h) (lvY (lv + 1))]) ∧ Junk W w' from by
      have := n_btHalves first count node (lvY lv) (by omega) (by omega) (by omega) W
      rw [hh, lvY_next] at this
      exact this)
    have HA := Lib.hid (fun (W : World) (hW : TrB tb bb ob n cb co L (spl O first S1) N W) => show Calls Tryz.prog 48 #[.pointer (some ⟨tb, 0, none⟩), ptV first h (node + 1) (lvY (lv + 1))] W fun e w' => e = .returned (.tuple #[]) ∧
        (∃ N', TrB tb bb ob n cb co L (spl (spl O first S1) first A) N' w' ∧ (∀ i, (i < node + 1 ∨ node + 1 + h ≤ i + 1) → N' i = N i) ∧ GoodB L N' f A (node + 1)) ∧ Kept2 bb ob W w' from by
      have := ih (lv + 1) first h (node + 1) (spl O first S1) N W (by omega) hh1 (by omega) (by omega) (by omega) hW
      have e : slc (spl O first S1) first h = S1.take h := by
        have e2 : slc (spl O first S1) first h = (slc (spl O first S1) first count).take h := by
          unfold slc
          rw [List.take_take, Nat.min_eq_left (by omega)]
        rw [e2, sl1]
      rw [e, hA] at this
      exact this)
    have HB := Lib.hid (fun (W : World) (N1 : Nat → Bx) (hW : TrB tb bb ob n cb co L (spl (spl O first S1) first A) N1 W) => show Calls Tryz.prog 48 #[.pointer (some ⟨tb, 0, none⟩), ptV (first + h) (count - h) (node + h) (lvY (lv + 1))] W fun e w' => e = .returned (.tuple #[]) ∧
        (∃ N', TrB tb bb ob n cb co L (spl O first (A ++ B)) N' w' ∧ (∀ i, (i < node + h ∨ node + h + (count - h) ≤ i + 1) → N' i = N1 i) ∧ GoodB L N' f B (node + h)) ∧ Kept2 bb ob W w' from by
      have := ih (lv + 1) (first + h) (count - h) (node + h) (spl (spl O first S1) first A) N1 W (by omega) (by omega) (by omega) (by omega) (by omega) hW
      have l1 : (spl O first S1).length = n := by rw [spl_len (by rw [hO, lS1]; exact hf), hO]
      have e : slc (spl (spl O first S1) first A) (first + h) (count - h) = S1.drop h := by
        rw [slc_apart (by rw [l1, lA]; omega) (.inr (by rw [lA]; omega)) (by rw [l1]; omega)]
        have e2 : slc (spl O first S1) (first + h) (count - h) = (slc (spl O first S1) first count).drop h := by
          unfold slc
          rw [← List.drop_drop, List.drop_take]
        rw [e2, sl1]
      rw [e, hB] at this
      have e3 : spl (spl (spl O first S1) first A) (first + h) B = spl O first (A ++ B) := by
        have k1 := spl_two (O := spl O first S1) (a := first) (A := A) (B := B) (by rw [l1, lA, lB]; omega)
        rw [lA] at k1
        rw [k1]
        exact spl_over (by rw [List.length_append, lA, lB, hO]; omega) (by rw [List.length_append, lA, lB, lS1]; omega)
      rw [e3] at this
      exact this)
    have hlO3 : (spl O first (A ++ B)).length = n := by rw [spl_len (by rw [List.length_append, lA, lB, hO]; omega), hO]
    have slA : slc (spl O first (A ++ B)) first h = A := by
      have e2 : slc (spl O first (A ++ B)) first h = (slc (spl O first (A ++ B)) first (A ++ B).length).take h := by
        unfold slc
        rw [List.take_take, Nat.min_eq_left (by rw [List.length_append]; omega)]
      rw [e2, slc_spl (by rw [List.length_append, lA, lB, hO]; omega), List.take_append_of_le_length (by omega), ← lA, List.take_length]
    have slB : slc (spl O first (A ++ B)) (first + h) (count - h) = B := by
      have e2 : slc (spl O first (A ++ B)) (first + h) (count - h) = (slc (spl O first (A ++ B)) first (A ++ B).length).drop h := by
        unfold slc
        rw [← List.drop_drop, List.drop_take, List.length_append, lA, lB]
        congr 1; omega
      rw [e2, slc_spl (by rw [List.length_append, lA, lB, hO]; omega), ← lA, List.drop_left]
    have HPA := Lib.hid (fun (W : World) (N2 : Nat → Bx) (hW : TrB tb bb ob n cb co L (spl O first (A ++ B)) N2 W) => show Calls Tryz.prog 81 #[.pointer (some ⟨tb, 0, none⟩), ptV first h (node + 1) (lvY (lv + 1))] W fun e w' => e = .returned (.int .i64 ((plcB A (node + 1) : Nat) : Int)) ∧ Junk W w' from by
      have := n_btPlace hW first h (node + 1) (lvY (lv + 1)) hh1 (by omega)
      rw [slA] at this
      exact this)
    have HPB := Lib.hid (fun (W : World) (N2 : Nat → Bx) (hW : TrB tb bb ob n cb co L (spl O first (A ++ B)) N2 W) => show Calls Tryz.prog 81 #[.pointer (some ⟨tb, 0, none⟩), ptV (first + h) (count - h) (node + h) (lvY (lv + 1))] W fun e w' => e = .returned (.int .i64 ((plcB B (node + h) : Nat) : Int)) ∧ Junk W w' from by
      have := n_btPlace hW (first + h) (count - h) (node + h) (lvY (lv + 1)) (by omega) (by omega)
      rw [slB] at this
      exact this)
    have mA : ∀ i ∈ A, i < n := fun i hi => hT.mem i (by
      have : i ∈ P := pS1.mem_iff.1 (List.mem_of_mem_take (pA.mem_iff.1 hi))
      rw [← hP] at this
      unfold slc at this
      exact List.mem_of_mem_drop (List.mem_of_mem_take this))
    have mB : ∀ i ∈ B, i < n := fun i hi => hT.mem i (by
      have : i ∈ P := pS1.mem_iff.1 (List.mem_of_mem_drop (pB.mem_iff.1 hi))
      rw [← hP] at this
      unfold slc at this
      exact List.mem_of_mem_drop (List.mem_of_mem_take this))
    rw [hAB]
    have HT := Lib.hid hT
    clear hS0 hS1 hA hB eS1 sl0 sl1 so1 pS0 lS0 uS0 pS1 lS1 pA pB hAB slA slB hPn hP hPl hO ih hT hin
    obtain ⟨na, hna⟩ : ∃ x, node + 1 = x := ⟨_, rfl⟩
    obtain ⟨nb, hnb⟩ : ∃ x, node + h = x := ⟨_, rfl⟩
    obtain ⟨fb, hfb⟩ : ∃ x, first + h = x := ⟨_, rfl⟩
    obtain ⟨c2, hc2⟩ : ∃ x, count - h = x := ⟨_, rfl⟩
    simp only [hna, hnb, hfb, hc2] at HH HA HB HPA HPB
    unfold ptV at *
    go_enter Tryz.func48, Tryz.ntmps48
    have t2 := HT.out.os
    have i2 : first + count ≤ co := by have := HT.out.hco; omega
    obtain ⟨last, hlast⟩ : ∃ e, first + count = e := ⟨_, rfl⟩
    have i3 : IntKind.i64.wrap ((first : Int) + (count : Int)) = (last : Int) := by simp [IntKind.wrap, IntKind.signed, IntKind.bits]; omega
    have i4 : (0 : Int) ≤ (first : Int) := by omega
    have i5 : (first : Int) ≤ (last : Int) := by omega
    have i6 : (last : Int) ≤ (co : Int) := by omega
    have i7 : first ≤ last := by omega
    have i8 : last ≤ co := by omega
    have i9 : last - first = count := by omega
    have i10 : ¬ co = first := by omega
    go_upto_region 2 with fail
    go_region_held3 (fun w' => w'.cell? ⟨tb, 2, none⟩ = some (.slice (some ⟨ob, 0, none⟩) n co) ∧ w'.cell? ⟨w.heap.size, 0, none⟩ = some (.pointer (some ⟨tb, 0, none⟩)) ∧ w'.cell? ⟨w.heap.size + 1, 0, none⟩ = some (.int .i64 (first : Int)) ∧ w'.cell? ⟨w.heap.size + 1, 1, none⟩ = some (.int .i64 (count : Int))) (first | (refine ⟨?_, ?_, ?_, ?_⟩ <;> (simp [go_sem, *]; done))) (first | fail)
    all_goals go_wp2_with fail
    obtain ⟨gt, hgt⟩ : ∃ g, w.heap.size = g := ⟨_, rfl⟩
    obtain ⟨W0, hW0⟩ : ∃ W0, ((w.alloc (Obj.cells #[Value.pointer (some ⟨tb, 0, none⟩)] 48)).alloc (Obj.cells #[Value.int IntKind.i64 (first : Int), Value.int IntKind.i64 (count : Int), Value.int IntKind.i64 (node : Int), Value.bool (lvY lv)] 85)).drew = W0 := ⟨_, rfl⟩
    have T0 := Lib.hid (show TrB tb bb ob n cb co L O N W0 from by rw [← hW0]; exact HT.out.below (by ((try simp only [← Array.append_assoc]); repeat' first | with_reducible (first | apply Below.refl | assumption | apply bw_a | apply bw_d | apply bw_n | apply bw_e | apply bw_s | apply bw_p | apply bw_c | apply bw_r) | go_size)))
    have K0 := Lib.hid (show Kept2 bb ob w W0 from by rw [← hW0]; exact Kept2.of_below (by ((try simp only [← Array.append_assoc]); repeat' first | with_reducible (first | apply Below.refl | assumption | apply bw_a | apply bw_d | apply bw_n | apply bw_e | apply bw_s | apply bw_p | apply bw_c | apply bw_r) | go_size)))
    have q0 : W0.cell? ⟨gt, 0, none⟩ = some (.pointer (some ⟨tb, 0, none⟩)) := by rw [← hW0, ← hgt]; simp [go_sem]
    have p0 : W0.cell? ⟨gt + 1, 0, none⟩ = some (.int .i64 (first : Int)) := by rw [← hW0, ← hgt]; simp [go_sem]
    have p1 : W0.cell? ⟨gt + 1, 1, none⟩ = some (.int .i64 (count : Int)) := by rw [← hW0, ← hgt]; simp [go_sem]
    have p2 : W0.cell? ⟨gt + 1, 2, none⟩ = some (.int .i64 (node : Int)) := by rw [← hW0, ← hgt]; simp [go_sem]
    have p3 : W0.cell? ⟨gt + 1, 3, none⟩ = some (.bool (lvY lv)) := by rw [← hW0, ← hgt]; simp [go_sem]
    have g1 : gt ≠ ob := by omega
    have g2 : gt ≠ bb := by omega
    have g3 : gt + 1 ≠ ob := by omega
    have g4 : gt + 1 ≠ bb := by omega
    have g5 : gt ≠ gt + 1 := by omega
    rw [hW0, hgt]
    clear hW0 t2
    obtain ⟨gp, hgp⟩ : ∃ g, gt + 1 = g := ⟨_, rfl⟩
    rw [hgp] at p0 p1 p2 p3 g3 g4 g5 ⊢
    clear hgp hgt hlt
    refine (HS.out _ T0.out _).mono ?_
    rintro e W1 ⟨rfl, hT1, hK1⟩
    have T1 := Lib.hid hT1
    have K1 := Lib.hid (K0.out.trans hK1)
    replace q0 := hK1.cell g2 g1 q0
    replace p0 := hK1.cell g4 g3 p0
    replace p1 := hK1.cell g4 g3 p1
    replace p2 := hK1.cell g4 g3 p2
    replace p3 := hK1.cell g4 g3 p3
    clear hT1 hK1 T0 K0 HS
    go_wp2_with fail
    refine (HSt.out _ T1.out _ _ _ p0 p1 p2 p3 q0 g3 g1).mono ?_
    rintro e W2 ⟨rfl, hT2, hK2⟩
    have T2 := Lib.hid hT2
    have K2 := Lib.hid (K1.out.trans hK2)
    replace q0 := hK2.cell g2 g1 q0
    replace p0 := hK2.cell g4 g3 p0
    replace p1 := hK2.cell g4 g3 p1
    replace p2 := hK2.cell g4 g3 p2
    replace p3 := hK2.cell g4 g3 p3
    have l1 := World.block_lt_of_cell? _ _ q0
    have l2 := World.block_lt_of_cell? _ _ p0
    clear hT2 hK2 T1 K1 HSt
    go_wp2_with (go_at_call 79; refine (HH.out _).mono ?_; rintro e w1 ⟨rfl, J1, d1, rfl⟩)
    obtain ⟨ga, hga⟩ : ∃ g, W2.heap.size + J1.size = g := ⟨_, rfl⟩
    obtain ⟨W3, hW3⟩ : ∃ W3, (((W2.plus J1 d1).alloc (Obj.cells #[Value.int IntKind.i64 (first : Int), Value.int IntKind.i64 (h : Int), Value.int IntKind.i64 (na : Int), Value.bool (lvY (lv + 1))] 85)).alloc (Obj.cells #[Value.int IntKind.i64 (fb : Int), Value.int IntKind.i64 (c2 : Int), Value.int IntKind.i64 (nb : Int), Value.bool (lvY (lv + 1))] 85)) = W3 := ⟨_, rfl⟩
    have l3 := T2.out.lt
    have T3 := Lib.hid (show TrB tb bb ob n cb co L (spl O first S1) N W3 from by rw [← hW3]; exact T2.out.below (by ((try simp only [← Array.append_assoc]); repeat' first | with_reducible (first | apply Below.refl | assumption | apply bw_a | apply bw_d | apply bw_n | apply bw_e | apply bw_s | apply bw_p | apply bw_c | apply bw_r) | go_size)))
    have k3 : Kept2 bb ob W2 W3 := by rw [← hW3]; exact Kept2.of_below (by ((try simp only [← Array.append_assoc]); repeat' first | with_reducible (first | apply Below.refl | assumption | apply bw_a | apply bw_d | apply bw_n | apply bw_e | apply bw_s | apply bw_p | apply bw_c | apply bw_r) | go_size))
    have K3 := Lib.hid (K2.out.trans k3)
    replace q0 := k3.cell g2 g1 q0
    replace p0 := k3.cell g4 g3 p0
    replace p1 := k3.cell g4 g3 p1
    replace p2 := k3.cell g4 g3 p2
    replace p3 := k3.cell g4 g3 p3
    have a0 : W3.cell? ⟨ga, 0, none⟩ = some (.int .i64 (first : Int)) := by rw [← hW3, ← hga]; simp [go_sem]
    have a1 : W3.cell? ⟨ga, 1, none⟩ = some (.int .i64 (h : Int)) := by rw [← hW3, ← hga]; simp [go_sem]
    have a2 : W3.cell? ⟨ga, 2, none⟩ = some (.int .i64 (na : Int)) := by rw [← hW3, ← hga]; simp [go_sem]
    have a3 : W3.cell? ⟨ga, 3, none⟩ = some (.bool (lvY (lv + 1))) := by rw [← hW3, ← hga]; simp [go_sem]
    have b0 : W3.cell? ⟨ga + 1, 0, none⟩ = some (.int .i64 (fb : Int)) := by rw [← hW3, ← hga]; simp [go_sem]
    have b1 : W3.cell? ⟨ga + 1, 1, none⟩ = some (.int .i64 (c2 : Int)) := by rw [← hW3, ← hga]; simp [go_sem]
    have b2 : W3.cell? ⟨ga + 1, 2, none⟩ = some (.int .i64 (nb : Int)) := by rw [← hW3, ← hga]; simp [go_sem]
    have b3 : W3.cell? ⟨ga + 1, 3, none⟩ = some (.bool (lvY (lv + 1))) := by rw [← hW3, ← hga]; simp [go_sem]
    have g6 : ga ≠ ob := by omega
    have g7 : ga ≠ bb := by omega
    have g8 : ga + 1 ≠ ob := by omega
    have g9 : ga + 1 ≠ bb := by omega
    rw [hW3, hga]
    clear hW3 hga l1 l2 l3 T2 K2 HH k3
    obtain ⟨gb, hgb⟩ : ∃ g, ga + 1 = g := ⟨_, rfl⟩
    rw [hgb] at b0 b1 b2 b3 g8 g9 ⊢
    clear hgb
    refine (HA.out _ T3.out).mono ?_
    rintro e W4 ⟨rfl, ⟨N1, hT4, hN1, hG1⟩, hK4⟩
    have T4 := Lib.hid hT4
    have K4 := Lib.hid (K3.out.trans hK4)
    have HN1 := Lib.hid hN1
    have HG1 := Lib.hid hG1
    replace q0 := hK4.cell g2 g1 q0
    replace p0 := hK4.cell g4 g3 p0
    replace p1 := hK4.cell g4 g3 p1
    replace p2 := hK4.cell g4 g3 p2
    replace p3 := hK4.cell g4 g3 p3
    replace a0 := hK4.cell g7 g6 a0
    replace a1 := hK4.cell g7 g6 a1
    replace a2 := hK4.cell g7 g6 a2
    replace a3 := hK4.cell g7 g6 a3
    replace b0 := hK4.cell g9 g8 b0
    replace b1 := hK4.cell g9 g8 b1
    replace b2 := hK4.cell g9 g8 b2
    replace b3 := hK4.cell g9 g8 b3
    clear hT4 hK4 hN1 hG1 T3 K3 HA
    go_wp2_with fail
    refine (HB.out _ N1 T4.out).mono ?_
    rintro e W5 ⟨rfl, ⟨N2, hT5, hN2, hG2⟩, hK5⟩
    have T5 := Lib.hid hT5
    have K5 := Lib.hid (K4.out.trans hK5)
    have HN2 := Lib.hid hN2
    have HG2 := Lib.hid hG2
    replace q0 := hK5.cell g2 g1 q0
    replace p0 := hK5.cell g4 g3 p0
    replace p1 := hK5.cell g4 g3 p1
    replace p2 := hK5.cell g4 g3 p2
    replace p3 := hK5.cell g4 g3 p3
    replace a0 := hK5.cell g7 g6 a0
    replace a1 := hK5.cell g7 g6 a1
    replace a2 := hK5.cell g7 g6 a2
    replace a3 := hK5.cell g7 g6 a3
    replace b0 := hK5.cell g9 g8 b0
    replace b1 := hK5.cell g9 g8 b1
    replace b2 := hK5.cell g9 g8 b2
    replace b3 := hK5.cell g9 g8 b3
    clear hT5 hK5 hN2 hG2 T4 K4 HB
    obtain ⟨pa, hpa⟩ : ∃ p, plcB A na = p := ⟨_, rfl⟩
    obtain ⟨pb, hpb⟩ : ∃ p, plcB B nb = p := ⟨_, rfl⟩
    have ra := place_row T5.out (P := A) (node := na) mA (by omega) (by omega)
    have rb := place_row T5.out (P := B) (node := nb) mB (by omega) (by omega)
    have la := place_lt (n := n) (P := A) (node := na) mA (by omega) (by omega) (by omega)
    have lb := place_lt (n := n) (P := B) (node := nb) mB (by omega) (by omega) (by omega)
    simp only [hpa, hpb] at HPA HPB ra rb la lb
    obtain ⟨⟨x1, x2, x3, x4⟩, hx⟩ : ∃ x : Bx, valB L N2 A na = x := ⟨_, rfl⟩
    obtain ⟨⟨y1, y2, y3, y4⟩, hy⟩ : ∃ x : Bx, valB L N2 B nb = x := ⟨_, rfl⟩
    rw [hx] at ra
    rw [hy] at rb
    have xa1 := (T5.out.b1 pa la).1
    have xa2 := (T5.out.b2 pa la).1
    have xa3 := (T5.out.b3 pa la).1
    have xa4 := (T5.out.b4 pa la).1
    have yb1 := (T5.out.b1 pb lb).1
    have yb2 := (T5.out.b2 pb lb).1
    have yb3 := (T5.out.b3 pb lb).1
    have yb4 := (T5.out.b4 pb lb).1
    rw [ra] at xa1 xa2 xa3 xa4
    rw [rb] at yb1 yb2 yb3 yb4
    simp only at xa1 xa2 xa3 xa4 yb1 yb2 yb3 yb4
    have hnd : node < 2 * n - 1 := by omega
    obtain ⟨z1, f1⟩ := T5.out.b1 node hnd
    obtain ⟨z2, f2⟩ := T5.out.b2 node hnd
    obtain ⟨z3, f3⟩ := T5.out.b3 node hnd
    obtain ⟨z4, f4⟩ := T5.out.b4 node hnd
    have t1 := T5.out.bs
    have HRd := Lib.hid (fun W => n_btAround x1 x2 x3 x4 y1 y2 y3 y4 W)
    obtain ⟨m, hm⟩ : ∃ m, 2 * n - 1 = m := ⟨_, rfl⟩
    rw [hm] at t1 la lb hnd
    have j1 : (pa : Int) < (m : Int) := by omega
    have j2 : (pb : Int) < (m : Int) := by omega
    have j3 : (node : Int) < (m : Int) := by omega
    have Ha := Lib.hid hx
    have Hb := Lib.hid hy
    have Hpa := Lib.hid hpa
    have Hpb := Lib.hid hpb
    have Hm := Lib.hid hm
    unfold bxV at HRd
    clear ra rb hx hy hpa hpb hm
    go_upto_region 8 with fail
    have HC := Lib.hid (show (h + 1 ≤ count ∧ 0 < h ∧ (count + 1) / 2 = h ∧ first + count ≤ n ∧ n ≤ node ∧ node + count ≤ 2 * n ∧ node + 1 = na ∧ node + h = nb ∧ first + h = fb ∧ count - h = c2) from ⟨hh2, hh1, hh, hf, hnode, hnode2, hna, hnb, hfb, hc2⟩)
    have HlA := Lib.hid lA
    have HlB := Lib.hid lB
    clear hh1 hh2 hh hf hnode hnode2 hna hnb hfb hc2 lA lB hlO3 mA mB i2 hlast i3 i4 i5 i6 i7 i8 i9 i10 i1 hc1 hcf h0 hle p0 p1 p3 HT
    have l1 := World.block_lt_of_cell? _ _ q0
    have l2 := World.block_lt_of_cell? _ _ p2
    have l3 := World.block_lt_of_cell? _ _ a0
    have l4 := World.block_lt_of_cell? _ _ b0
    have l5 := World.block_lt_of_cell? _ _ t1
    have l6 := World.block_lt_of_cell? _ _ xa1
    refine region_quiet_tail (C := Cls W5) 26 (by kernel_rfl) (by kernel_rfl) (cls_drawn _) ?_
    simp only [List.take_succ_cons, List.take_zero, List.drop_succ_cons, List.drop_zero]
    iterate 26 (refine wpQuiet_step (fun K hK => ?_); go_simp; first | (refine hK _ ?_; clear hK K) | (apply Exists.intro; refine ⟨?_, hK _ ?_⟩; (rintro w3_ ⟨J3_, d3_, rfl⟩; first | (with_reducible exact rfl) | (go_simp; with_reducible exact rfl) | (go_simp; (first | (with_reducible refine (HPA.out _ N2 (T5.out.plus _ _)).mono ?_) | (with_reducible refine (HPB.out _ N2 (T5.out.plus _ _)).mono ?_) | (with_reducible refine (HRd.out _).mono ?_)); rintro e_ w_ ⟨rfl, J4_, d4_, rfl⟩; exact ⟨rfl, J3_ ++ J4_, d4_, by simp only [plus_plus, Array.append_assoc]⟩)); clear hK K))
    refine wpQuiet_nil ?_
    rintro w3 ⟨J3, d3, rfl⟩
    go_wp2_with fail
    go_end0
    refine ⟨rfl, ⟨fun i => if i = node then arB (x1, x2, x3, x4) (y1, y2, y3, y4) else N2 i, T5.out.store node (by have := HC.out; omega) (by rw [Hm.out]; exact hnd) (arB (x1, x2, x3, x4) (y1, y2, y3, y4)) J3 d3, fun i hi => ?_, ?_⟩, K5.out.trans (s4_kept _ _ _ _ _ _ _ _ _)⟩
    · obtain ⟨k1, k2, k3, k4, k5, k6, k7, k8, k9, k10⟩ := HC.out
      have e : ¬ i = node := by omega
      simp only [if_neg e]
      rw [HN2.out i (by omega), HN1.out i (by omega)]
    · obtain ⟨k1, k2, k3, k4, k5, k6, k7, k8, k9, k10⟩ := HC.out
      have la2 := HlA.out
      have lb2 := HlB.out
      have lab : (A ++ B).length = count := by rw [List.length_append]; omega
      unfold GoodB
      right
      rw [lab, k3, ← la2, List.take_left, List.drop_left, la2, k7, k8]
      have en : ∀ i, i ≠ node → (fun i => if i = node then arB (x1, x2, x3, x4) (y1, y2, y3, y4) else N2 i) i = N2 i := fun i hi => if_neg hi
      refine ⟨?_, ?_, ?_⟩
      · rw [if_pos rfl, val_congr (N := N2) (P := A) (node := na) (fun _ => en na (by omega)) (fun e => by rw [e] at la2; simp at la2; omega), val_congr (N := N2) (P := B) (node := nb) (fun _ => en nb (by omega)) (fun e => by rw [e] at lb2; simp at lb2; omega), Ha.out, Hb.out]
      · refine good_congr L N1 _ f A na (fun i h1 h2 => ?_) HG1.out
        exact (en i (by omega)).trans (HN2.out i (by omega))
      · refine good_congr L N2 _ f B nb (fun i h1 h2 => ?_) HG2.out
        exact en i (by omega)
end

section
set_option linter.unusedVariables false
set_option linter.unusedSimpArgs false
open Go.RowKit Go.ChangeShapes Go.WideShapes Go.ChangeAt Go.Joins
structure XRC (w : World) (a : Option Addr) (n ca : Nat) (L : List Bx) : Prop where
  rd : XReads w a n L
  ok : SOk a n ca
def InBs (L : List Bx) : Prop := ∀ b ∈ L, InB b
section
variable {H : Type} {enc : TypeId × Value → H} {w : World} {base : Nat} {spare : Nat → Bool} {held : Bool}
end
end

section
set_option linter.unusedVariables false
set_option linter.unusedSimpArgs false
open Go.RowKit
theorem own_set {w : World} {base es b o : Nat} {e : TypeId} {v u : Value} {k : Nat} {xs : List Value} (h : w.ownsRow base e es v k xs) (hb : b < base) : (w.setCell ⟨b, o, none⟩ u).ownsRow base e es v k xs := by
  obtain ⟨h1, h2⟩ := h
  refine ⟨h1, ?_⟩
  rcases h2 with h2 | ⟨g, cap, cur, hv, hg, hc, hr⟩
  · exact .inl h2
  · exact .inr ⟨g, cap, cur, hv, hg, (Below.heap_setCell _ _ _ g (fun e => by have e2 : g = b := e; omega)).trans hc, hr⟩
theorem own_slice {w : World} {base es : Nat} {e : TypeId} {v : Value} {k : Nat} {xs : List Value} (h : w.ownsRow base e es v k xs) : ∃ a c, v = .slice a k c := by
  obtain ⟨_, h2⟩ := h
  rcases h2 with ⟨rfl, rfl⟩ | ⟨g, cap, cur, rfl, _⟩
  · exact ⟨_, _, rfl⟩
  · exact ⟨_, _, rfl⟩
theorem own_set' {w : World} {base es b o : Nat} {e : TypeId} {v u : Value} {k : Nat} {xs : List Value} (h : w.ownsRow base e es v k xs) (hb : v.ownBlock ≠ some b) : (w.setCell ⟨b, o, none⟩ u).ownsRow base e es v k xs := by
  obtain ⟨h1, h2⟩ := h
  refine ⟨h1, ?_⟩
  rcases h2 with h2 | ⟨g, cap, cur, rfl, hg, hc, hr⟩
  · exact .inl h2
  · exact .inr ⟨g, cap, cur, rfl, hg, (Below.heap_setCell _ _ _ g (fun e => hb (by have e2 : g = b := e; simp [Value.ownBlock, e2]))).trans hc, hr⟩
theorem own_low {w w' : World} {base es B : Nat} {e : TypeId} {v : Value} {k : Nat} {xs : List Value} (h : w.ownsRow base e es v k xs) (hl : ∀ g, v.ownBlock = some g → g < B) (hb : Below B w w') : w'.ownsRow base e es v k xs := by
  obtain ⟨h1, h2⟩ := h
  refine ⟨h1, ?_⟩
  rcases h2 with h2 | ⟨g, cap, cur, rfl, hg, hc, hr⟩
  · exact .inl h2
  · exact .inr ⟨g, cap, cur, rfl, hg, (hb.block g (hl g (by simp [Value.ownBlock]))).trans hc, hr⟩
theorem own_apart {w : World} {b1 b2 s1 s2 : Nat} {e1 e2 : TypeId} {v v2 : Value} {k k2 : Nat} {xs ys : List Value} (h : w.ownsRow b1 e1 s1 v k xs) (h2 : w.ownsRow b2 e2 s2 v2 k2 ys) (he : e1 ≠ e2) : v.ownBlock = none ∨ v.ownBlock ≠ v2.ownBlock := by
  obtain ⟨_, h⟩ := h
  obtain ⟨_, h2⟩ := h2
  rcases h with ⟨rfl, _⟩ | ⟨g, cap, cur, rfl, _, hc, _⟩
  · exact .inl rfl
  · right
    rcases h2 with ⟨rfl, _⟩ | ⟨g2, cap2, cur2, rfl, _, hc2, _⟩
    · simp [Value.ownBlock]
    · intro hv
      simp [Value.ownBlock] at hv
      subst hv
      rw [hc] at hc2
      injection hc2 with hc2
      injection hc2 with _ hc2 _
      exact he hc2
def TBlk (w : World) (tb : Nat) (p b o : Value) : Prop := w.heap[tb]? = some (.cells #[p, b, o] 82 (0, 0))
theorem TBlk.cell {w : World} {tb : Nat} {p b o : Value} (h : TBlk w tb p b o) : w.cell? ⟨tb, 0, none⟩ = some p ∧ w.cell? ⟨tb, 1, none⟩ = some b ∧ w.cell? ⟨tb, 2, none⟩ = some o :=
  ⟨cell_of_row w tb 0 _ _ _ h, cell_of_row w tb 1 _ _ _ h, cell_of_row w tb 2 _ _ _ h⟩
theorem TBlk.frozen {w : World} {tb : Nat} {p b o : Value} (h : TBlk w tb p b o) (j : Nat) : w.frozen? ⟨tb, j, none⟩ = false := by
  unfold TBlk at h; simp [World.frozen?, h]
theorem TBlk.set2 {w : World} {tb : Nat} {p b o : Value} (h : TBlk w tb p b o) (u : Value) : TBlk (w.setCell ⟨tb, 2, none⟩ u) tb p b u := by
  obtain ⟨hlt, hk⟩ := Array.getElem?_eq_some_iff.1 h
  show (w.heap.modify tb _)[tb]? = _
  rw [Array.getElem?_eq_getElem (by rw [Array.size_modify]; exact hlt), Array.getElem_modify_self, hk]
  rfl
theorem TBlk.set1 {w : World} {tb : Nat} {p b o : Value} (h : TBlk w tb p b o) (u : Value) : TBlk (w.setCell ⟨tb, 1, none⟩ u) tb p u o := by
  obtain ⟨hlt, hk⟩ := Array.getElem?_eq_some_iff.1 h
  show (w.heap.modify tb _)[tb]? = _
  rw [Array.getElem?_eq_getElem (by rw [Array.size_modify]; exact hlt), Array.getElem_modify_self, hk]
  rfl
theorem TBlk.grown {w w' : World} {tb : Nat} {p b o : Value} {row : Option Nat} (h : TBlk w tb p b o) (hg : w.grownBy w' row) (hne : row ≠ some tb) : TBlk w' tb p b o :=
  (hg.block tb (heap_lt h) (fun e => hne e.symm)).trans h
theorem own_type {w : World} {base es tb : Nat} {e : TypeId} {v p b o : Value} {k : Nat} {xs : List Value} (h : w.ownsRow base e es v k xs) (ht : TBlk w tb p b o) (he : e ≠ 82) : v.ownBlock ≠ some tb := by
  obtain ⟨_, h2⟩ := h
  intro hv
  rcases h2 with ⟨rfl, _⟩ | ⟨g, cap, cur, rfl, _, hc, _⟩
  · cases hv
  · simp [Value.ownBlock] at hv
    subst hv
    unfold TBlk at ht
    rw [ht] at hc
    injection hc with hc
    injection hc with _ hc _
    exact he hc.symm
theorem TBlk.through {wr Wx w' : World} {tb base es k : Nat} {e : TypeId} {p b o v : Value} {xs : List Value} (h : TBlk wr tb p b o) (ho : wr.ownsRow base es e v k xs) (he : es ≠ 82) (hb : Below wr.heap.size wr Wx) (hg : Wx.grownBy w' v.ownBlock) : TBlk w' tb p b o :=
  TBlk.grown (show TBlk Wx tb p b o from (hb.block tb (heap_lt h)).trans h) hg (own_type ho h he)
theorem mk_trb {w : World} {tb base base2 n : Nat} {vb v : Value} {L : List Bx} {O : List Nat} (ht : TBlk w tb (.pointer (some ⟨tb, 0, none⟩)) vb v) (hL : L.length = n) (h0 : 0 < n) (hle : n ≤ 1000)
    (hb : w.ownsRow base 67 4 vb (2 * n - 1) (boxcells (L ++ List.replicate (n - 1) Bx0))) (ho : w.ownsRow base2 3 1 v n (ints (nums O))) (hO : O.length = n) (hm : ∀ i ∈ O, i < n) (hn : O.Nodup) :
    ∃ bb ob cb co, vb = .slice (some ⟨bb, 0, none⟩) (2 * n - 1) cb ∧ v = .slice (some ⟨ob, 0, none⟩) n co ∧ base ≤ bb ∧ base2 ≤ ob ∧ bb < w.heap.size ∧ ob < w.heap.size ∧ TrB tb bb ob n cb co L O (fun _ => Bx0) w := by
  have hb' := hb
  have ho' := ho
  obtain ⟨_, h2⟩ := hb
  obtain ⟨_, h3⟩ := ho
  rcases h2 with ⟨_, h2⟩ | ⟨bb, cb, cur, rfl, hg, hc, hnc, hcap, hcs, htk⟩
  · omega
  rcases h3 with ⟨_, h3⟩ | ⟨ob, co, cur2, rfl, hg2, hc2, hnc2, hcap2, hcs2, htk2⟩
  · omega
  obtain ⟨c0, c1, c2⟩ := ht.cell
  have n1 : tb ≠ bb := fun e => own_type hb' ht (by decide) (by simp [Value.ownBlock, e])
  have n2 : tb ≠ ob := fun e => own_type ho' ht (by decide) (by simp [Value.ownBlock, e])
  have n3 : bb ≠ ob := fun e => by
    subst e
    rw [hc] at hc2
    injection hc2 with hc2
    injection hc2 with _ hc2 _
    exact absurd hc2 (by decide)
  have fb : ∀ j, w.frozen? ⟨bb, j, none⟩ = false := fun j => by simp [World.frozen?, hc]
  have fo : ∀ j, w.frozen? ⟨ob, j, none⟩ = false := fun j => by simp [World.frozen?, hc2]
  have hrow : ∀ i, i < 2 * n - 1 → (L ++ List.replicate (n - 1) Bx0).getD i Bx0 = rowB n L (fun _ => Bx0) i := fun i hi => by
    unfold rowB
    rw [List.getD_eq_getElem?_getD]
    by_cases h : i < n
    · rw [if_pos h, List.getElem?_append_left (by omega), List.getD_eq_getElem?_getD]
    · rw [if_neg h, List.getElem?_append_right (by omega), List.getElem?_replicate, if_pos (by omega)]; rfl
  have hcell : ∀ j u, (boxcells (L ++ List.replicate (n - 1) Bx0))[j]? = some u → w.cell? ⟨bb, j, none⟩ = some u := fun j u hu => by
    have := hb'.cells (g := bb) rfl j u hu
    have ha : (⟨bb, 0, none⟩ : Addr).add j = ⟨bb, j, none⟩ := by unfold Addr.add; split <;> simp_all
    rw [ha] at this
    exact this
  have hbx : ∀ i, i < 2 * n - 1 → _ := fun i hi => boxcells_at (L ++ List.replicate (n - 1) Bx0) i (by rw [List.length_append, List.length_replicate]; omega)
  refine ⟨bb, ob, cb, co, rfl, rfl, hg, hg2, heap_lt hc, heap_lt hc2, {
    self := c0
    bs := c1
    os := c2
    hL := hL
    hO := hO
    pos := h0
    le := hle
    hco := hnc2
    hcb := hnc
    ord := fun i hi => ⟨?_, fo i⟩
    b1 := fun i hi => ⟨by rw [← hrow i hi]; exact hcell _ _ (hbx i hi).1, fb _⟩
    b2 := fun i hi => ⟨by rw [← hrow i hi]; exact hcell _ _ (hbx i hi).2.1, fb _⟩
    b3 := fun i hi => ⟨by rw [← hrow i hi]; exact hcell _ _ (hbx i hi).2.2.1, fb _⟩
    b4 := fun i hi => ⟨by rw [← hrow i hi]; exact hcell _ _ (hbx i hi).2.2.2, fb _⟩
    n1 := n1
    n2 := n2
    n3 := n3
    mem := hm
    nodup := hn }⟩
  have := ho'.cells (g := ob) rfl i (.int .i64 ((O.getD i 0 : Nat) : Int)) (by
    unfold ints nums
    rw [List.getElem?_map, List.getElem?_map, List.getElem?_eq_getElem (by omega), List.getD_eq_getElem?_getD, List.getElem?_eq_getElem (by omega)]
    rfl)
  have ha : (⟨ob, 0, none⟩ : Addr).add i = ⟨ob, i, none⟩ := by unfold Addr.add; split <;> simp_all
  rw [ha] at this
  exact this
def BlAt (W : World) (tb : Nat) (vb : Value) (n : Nat) (x : Value) (wr : World) : Prop := ∃ (k : Nat) (v : Value), x = .int .i64 (k : Int) ∧ k ≤ n ∧ TBlk wr tb (.pointer (some ⟨tb, 0, none⟩)) vb v ∧ wr.ownsRow (tb + 1) 3 1 v k (ints (nums (List.range k))) ∧ Below tb W wr ∧ (k = 0 → v = .slice none 0 0)
set_option maxRecDepth 100000 in
set_option maxHeartbeats 4000000 in
theorem n_btBuild (w : World) (a : Option Addr) (n ca : Nat) (L : List Bx) (hX : XRC w a n ca L) (hin : InBs L) (hn : n ≤ 1000) :
    Calls Tryz.prog 32 #[.slice a n ca] w fun e w' => (∃ tb, e = .returned (.tuple #[.pointer (some ⟨tb, 0, none⟩), .int .i64 0]) ∧ TreeB w' w.heap.size w'.heap.size tb L) ∧ Junk w w' := by
  have hL := hX.rd.1
  have HCl := Lib.hid (n_btClone w a n ca L hX.rd hX.ok (by omega))
  have HIn := Lib.hid hin
  have HL := Lib.hid hL
  have i1 : ¬ (n : Int) > 1000 := by omega
  clear hX hin hL
  go_enter Tryz.func32, Tryz.ntmps32
  go_wp2_with (go_at_call 47; refine HCl.out.mono ?_; rintro e w1 ⟨⟨vb, rfl, ho⟩, hb1⟩; obtain ⟨va, vc, rfl, _, _⟩ := xreads_of_owns ho; have HVb := Lib.hid ho; have HB1 := Lib.hid hb1; clear ho hb1)
  obtain ⟨tb, htb⟩ : ∃ t, w1.heap.size = t := ⟨_, rfl⟩
  have hsz1 : w.heap.size ≤ tb := by have := HB1.out.size; omega
  obtain ⟨vb, hvb⟩ : ∃ v, Value.slice va n vc = v := ⟨_, rfl⟩
  obtain ⟨W2, hW2⟩ : ∃ W, w1.alloc (Obj.cells #[Value.pointer (some ⟨w1.heap.size, 0, none⟩), Value.slice va n vc, Value.slice none 0 0] 82) = W := ⟨_, rfl⟩
  have hblk : TBlk W2 tb (.pointer (some ⟨tb, 0, none⟩)) vb (.slice none 0 0) := by
    rw [← hW2, ← htb, ← hvb]
    exact World.alloc_heap_new w1 _
  have hvo : W2.ownsRow w.heap.size 67 4 vb n (boxcells L) := by
    rw [← hW2, ← hvb]
    exact HVb.out.alloc _
  have hbe : Below w.heap.size w W2 := by rw [← hW2]; exact HB1.out.trans (by have := HB1.out.size; ((try simp only [← Array.append_assoc]); repeat' first | with_reducible (first | apply Below.refl | assumption | apply bw_a | apply bw_d | apply bw_n | apply bw_e | apply bw_s | apply bw_p | apply bw_c | apply bw_r) | go_size))
  have HVe := Lib.hid hvb
  have HBe := Lib.hid hbe
  have HVo := Lib.hid hvo
  have hvlt : ∀ g, vb.ownBlock = some g → g < tb := fun g hg => by rw [← hvb] at hg; rw [← htb]; exact (HVb.out.lt g hg).2
  have HVl := Lib.hid hvlt
  have HBl := Lib.hid hblk
  rw [hW2, htb]
  clear hbe hvo hblk hvb hvlt hW2 htb HVb HB1
  go_loopw [19] (fun x wr => BlAt W2 tb vb n x wr) (fun x _ => n - (intOf x).toNat)
  case atStart => exact ⟨0, .slice none 0 0, rfl, Nat.zero_le _, HBl.out, inil_owns _ _, Below.refl _ _, fun _ => rfl⟩
  case round =>
    obtain ⟨k, v, rfl, hk, hb, ho, hB, hk0⟩ := hrel
    obtain ⟨c0, c1, c2⟩ := hb.cell
    have f2 := hb.frozen 2
    have hlt := heap_lt hb
    have HB := Lib.hid hB
    have HO := Lib.hid ho
    have HTb := Lib.hid hb
    by_cases hlk : k < n
    · have i2 : (k : Int) < (n : Int) := by omega
      have HN := Lib.hid (show nums (List.range k) ++ [(k : Int)] = nums (List.range (k + 1)) by rw [List.range_succ, nums_snoc])
      have HFt := Lib.hid (show Fit64 [(k : Int)] 1 from fun i hi => by
        obtain rfl : i = 0 := by omega
        show -9223372036854775808 ≤ (k : Int) ∧ (k : Int) ≤ 9223372036854775807
        omega)
      clear hb ho hB hk0
      go_wp2_with (at_builtin; refine wpList_app rfl (.tmp 26) (.tmp 28) rfl (tb + 1) _ k (nums (List.range k)) rfl (powns_below HO.out (by ((try simp only [← Array.append_assoc]); repeat' first | with_reducible (first | apply Below.refl | assumption | apply bw_a | apply bw_d | apply bw_n | apply bw_e | apply bw_s | apply bw_p | apply bw_c | apply bw_r) | go_size))) _ 1 1 [(k : Int)] rfl (by intro h; cases h) (reads_cell (by simp [go_sem]) HFt.out) (by omega) (by simp; omega) ?_; intro v' w' hown' hg'; obtain ⟨va', vc', rfl⟩ := own_slice hown'; have HO' := Lib.hid hown'; have HTb' := Lib.hid (HTb.out.through HO.out (by decide) (by ((try simp only [← Array.append_assoc]); repeat' first | with_reducible (first | apply Below.refl | assumption | apply bw_a | apply bw_d | apply bw_n | apply bw_e | apply bw_s | apply bw_p | apply bw_c | apply bw_r) | go_size)) hg'); have HBg := Lib.hid (grown_below (B := tb) (a := W2) (HB.out.trans (by ((try simp only [← Array.append_assoc]); repeat' first | with_reducible (first | apply Below.refl | assumption | apply bw_a | apply bw_d | apply bw_n | apply bw_e | apply bw_s | apply bw_p | apply bw_c | apply bw_r) | go_size))) hg' (by simp; omega) (fun k hk => Nat.le_of_succ_le (powns_block HO.out k hk))); obtain ⟨c0', c1', c2'⟩ := HTb'.out.cell; have f2' := HTb'.out.frozen 2; have hl' := heap_lt HTb'.out; clear hown' hg')
      go_roundw
      case rel => exact ⟨k + 1, _, by go_num, by omega, HTb'.out.set2 _, by rw [← HN.out]; exact own_set HO'.out (by omega), HBg.out.setCell (Nat.le_refl tb) _, fun h => by omega⟩
      case measure => simp [intOf]; omega
    · obtain rfl : n = k := by omega
      clear hk
      have hBw : Below w.heap.size w wr := HBe.out.trans (hB.mono hsz1)
      have hor : ordK (keyB L) n 0 (List.range n) = ordB L := by unfold ordB; rw [HL.out]
      by_cases h1 : n ≤ 1
      · have HTr := Lib.hid (show TreeB wr w.heap.size wr.heap.size tb L from by
          refine ⟨hsz1, hlt, Nat.le_refl _, ?_⟩
          by_cases h0 : n = 0
          · exact .inl ⟨List.eq_nil_of_length_eq_zero (by rw [HL.out]; exact h0), c0, by rw [← hk0 h0]; exact c2⟩
          · obtain rfl : n = 1 := by omega
            obtain ⟨bb, ob, cb, co, _, _, g1, g2, g3, g4, hT⟩ := mk_trb (base := w.heap.size) (base2 := tb + 1) (L := L) (O := List.range 1) hb HL.out (by decide) (by decide) (by
              rw [show List.replicate (1 - 1) Bx0 = [] from rfl, List.append_nil]
              exact own_low HVo.out HVl.out hB) ho rfl (fun i hi => by simpa using hi) List.nodup_range
            rw [ord_one (by decide)] at hor
            rw [hor] at hT
            exact .inr ⟨bb, ob, 1, cb, co, _, ⟨g1, g3⟩, ⟨by omega, g4⟩, hT, .inl (by rw [← hor]; decide)⟩)
        have HJ := Lib.hid hBw
        have i2 : ¬ (n : Int) > 1 := by omega
        have i3 : ¬ (1 : Int) < (n : Int) := by omega
        clear hb ho hB hk0 hBw hor h1
        go_wp2_with fail
        go_ret2
        exact ⟨⟨tb, rfl, HTr.out⟩, junk_of_below HJ.out⟩
      · obtain ⟨m, hm⟩ : ∃ m, n - 1 = m := ⟨_, rfl⟩
        have hvr := own_low HVo.out HVl.out hB
        obtain ⟨v2, w2, hrun, ho2, hg2⟩ := append_make wr w.heap.size 65 vb n m _ hvr (by omega) (by omega) (by omega) (by omega)
        obtain ⟨va2, vc2, rfl⟩ := own_slice ho2
        have ht2 : TBlk w2 tb (.pointer (some ⟨tb, 0, none⟩)) vb v := hb.grown hg2 (own_type hvr hb (by decide))
        have hv2 := ho.kept hg2 (own_apart ho hvr (by decide))
        have hb2 : Below w.heap.size w w2 := grown_below (B := w.heap.size) (a := w) hBw hg2 (by omega) (powns_block hvr)
        obtain ⟨d0, d1, d2⟩ := ht2.cell
        have f1 := ht2.frozen 1
        have l2 := heap_lt ht2
        obtain ⟨W3, hW3⟩ : ∃ W, w2.setCell ⟨tb, 1, none⟩ (.slice va2 (n + m) vc2) = W := ⟨_, rfl⟩
        have ht3 : TBlk W3 tb (.pointer (some ⟨tb, 0, none⟩)) (.slice va2 (n + m) vc2) v := by rw [← hW3]; exact ht2.set1 _
        have hb3 : Below w.heap.size w W3 := by rw [← hW3]; exact hb2.setCell (show w.heap.size ≤ tb from hsz1) _
        have ho3 : W3.ownsRow w.heap.size 67 4 (.slice va2 (n + m) vc2) (2 * n - 1) (boxcells (L ++ List.replicate (n - 1) Bx0)) := by
          rw [← hW3, boxcells_app, hm, show 2 * n - 1 = n + m by omega]
          exact own_set' ho2 (own_type ho2 ht2 (by decide))
        have hv3 : W3.ownsRow (tb + 1) 3 1 v n (ints (nums (List.range n))) := by rw [← hW3]; exact own_set' hv2 (own_type hv2 ht2 (by decide))
        obtain ⟨bb, ob, cb, co, e1, e2, g1, g2, g3, g4, hT⟩ := mk_trb ht3 HL.out (by omega) hn ho3 hv3 (by simp) (fun i hi => by simpa using hi) List.nodup_range
        have HWh := Lib.hid (n_btWhole tb W3 _ n co hT.os)
        have HDv := Lib.hid (fun (W : World) (hW : TrB tb bb ob n cb co L (List.range n) (fun _ => Bx0) W) => show Calls Tryz.prog 48 #[.pointer (some ⟨tb, 0, none⟩), ptV 0 n n false] W fun e w' => e = .returned (.tuple #[]) ∧
            (∃ N', TrB tb bb ob n cb co L (ordB L) N' w' ∧ GoodB L N' n (ordB L) n) ∧ Kept2 bb ob W w' from by
          have hD := n_btDivide L HIn.out tb bb ob n cb co n 0 0 n n (List.range n) (fun _ => Bx0) W (Nat.le_refl _) (by omega) (by omega) (Nat.le_refl _) (by omega) hW
          have es : slc (List.range n) 0 n = List.range n := by
            have := slc_all (List.range n)
            rw [List.length_range] at this
            exact this
          have ey : lvY 0 = false := rfl
          rw [es, hor, ey, spl_all (by rw [← hor, ord_len])] at hD
          exact hD.mono fun e w' ⟨k1, ⟨N', k2, _, k4⟩, k5⟩ => ⟨k1, ⟨N', k2, k4⟩, k5⟩)
        have HT3 := Lib.hid hT
        have HB3 := Lib.hid hb3
        have HG := Lib.hid (show w.heap.size ≤ bb ∧ w.heap.size ≤ ob ∧ w.heap.size ≤ tb ∧ bb < W3.heap.size ∧ ob < W3.heap.size ∧ tb < W3.heap.size from ⟨g1, by omega, hsz1, g3, g4, heap_lt ht3⟩)
        have HR := Lib.hid hrun
        have i2 : (n : Int) > 1 := by omega
        have i3 : (1 : Int) < (n : Int) := by omega
        have i4 : IntKind.i64.wrap ((n : Int) - 1) = (m : Int) := by simp [IntKind.wrap, IntKind.signed, IntKind.bits]; omega
        clear hb ho hB hk0 hBw hor h1 hvr hrun ho2 hg2 ht2 hv2 hb2 ht3 hb3 ho3 hv3 e1 e2 g1 g2 g3 g4 hT hm HTb HO HB HBl HVl HVo HBe hlk
        unfold ptV at *
        go_wp2_with (at_builtin; refine Lib.wpList_append_run _ rfl _ _ _ _ rfl _ _ rfl rfl _ _ HR.out ?_)
        refine HWh.out.mono ?_
        rintro e w4 ⟨rfl, J4, d4, rfl⟩
        go_wp2_with fail
        refine (HDv.out _ (HT3.out.plus _ _)).mono ?_
        rintro e w5 ⟨rfl, ⟨N', hT5, hG5⟩, hK5⟩
        have hb5 : Below w.heap.size w w5 := (HB3.out.trans (show Below w.heap.size W3 (W3.plus J4 d4) from (Junk.below ⟨J4, d4, rfl⟩ : Below W3.heap.size _ _).mono HB3.out.size)).trans (hK5.below HG.out.1 HG.out.2.1 (by have := HB3.out.size; simp; omega))
        have hs5 := hK5.size
        have HTr := Lib.hid (show TreeB w5 w.heap.size w5.heap.size tb L from by
          obtain ⟨q1, q2, q3, q4, q5, q6⟩ := HG.out
          have : W3.heap.size ≤ w5.heap.size := Nat.le_trans (by simp) hs5
          exact ⟨q3, by omega, Nat.le_refl _, .inr ⟨bb, ob, n, cb, co, N', ⟨q1, by omega⟩, ⟨q2, by omega⟩, hT5, hG5⟩⟩)
        have HJ := Lib.hid hb5
        clear hT5 hG5 hK5 hb5 hs5
        go_wp2_with fail
        go_ret2
        exact ⟨⟨tb, rfl, HTr.out⟩, junk_of_below HJ.out⟩
end
end Go.Proofs.YthphdiigjimchaaGreat

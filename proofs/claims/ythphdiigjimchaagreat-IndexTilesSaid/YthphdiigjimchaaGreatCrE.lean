/- Contracts of apportionref08: Ends, Meets. -/
import Derived.Test.YthphdiigjimchaaGreatCrA
import Derived.Test.YthphdiigjimchaaGreatPtTwo
namespace Go.Proofs.YthphdiigjimchaaGreat
set_option linter.unusedVariables false
set_option linter.unusedSimpArgs false
open Go.RowKit
def stepQ (O : List (Int × Int)) (x : Int × Int) (on : Bool) : List (Int × Int) := if on && O.all (fun y => decide (y ≠ x)) then O ++ [x] else O
def ptK (a b c d : Int × Int) : Nat → Int × Int
  | 0 => a
  | 1 => b
  | 2 => c
  | _ => d
def onK (a b c d : Int × Int) : Nat → Bool
  | 0 => onB a.1 a.2 c.1 c.2 d.1 d.2
  | 1 => onB b.1 b.2 c.1 c.2 d.1 d.2
  | 2 => onB c.1 c.2 a.1 a.2 b.1 b.2
  | _ => onB d.1 d.2 a.1 a.2 b.1 b.2
def outQ (a b c d : Int × Int) : Nat → List (Int × Int)
  | 0 => []
  | k + 1 => stepQ (outQ a b c d k) (ptK a b c d k) (onK a b c d k)
theorem out_len (a b c d : Int × Int) : ∀ k, (outQ a b c d k).length ≤ k
  | 0 => by simp [outQ]
  | k + 1 => by
    have h := out_len a b c d k
    unfold outQ stepQ
    split <;> simp <;> omega
theorem out_all {a b c d : Int × Int} (h : (mayQ a b && mayQ c d) = true) : outQ a b c d 4 = commonQ a b c d := by
  unfold commonQ
  rw [if_pos h]
  rw [Bool.and_eq_true] at h
  have hab := may_ne h.1
  have hcd := may_ne h.2
  have k : ∀ {p x y : Int × Int}, okP p.1 p.2 = true → okP x.1 x.2 = true → okP y.1 y.2 = true → onB p.1 p.2 x.1 x.2 y.1 y.2 = decide (onQ p x y) := by
    intro p x y h1 h2 h3
    unfold onB
    rw [h1, h2, h3]; rfl
  have h1 := h.1
  have h2 := h.2
  unfold mayQ at h1 h2
  rw [Bool.and_eq_true, Bool.and_eq_true] at h1 h2
  obtain ⟨⟨va, vb⟩, _⟩ := h1
  obtain ⟨⟨vc, vd⟩, _⟩ := h2
  simp only [outQ, ptK, onK]
  unfold endsQ
  rw [k va vc vd, k vb vc vd, k vc va vb, k vd va vb]
  have q1 : c = a → onQ a c d := fun e => by rw [e]; exact onQ_left
  have q2 : c = b → onQ b c d := fun e => by rw [e]; exact onQ_left
  have q3 : d = a → onQ a c d := fun e => by rw [e]; exact onQ_right
  have q4 : d = b → onQ b c d := fun e => by rw [e]; exact onQ_right
  unfold stepQ
  by_cases A : onQ a c d <;> by_cases B : onQ b c d <;> by_cases C : onQ c a b <;> by_cases D : onQ d a b <;> simp [A, B, C, D] <;> (try simp [hab, hcd]) <;> grind
theorem powns_below {w w' : World} {base e size n : Nat} {v : Value} {xs : List Value} (h : w.ownsRow base e size v n xs) (hb : Below w.heap.size w w') : w'.ownsRow base e size v n xs := by
  obtain ⟨h1, h2⟩ := h
  refine ⟨h1, ?_⟩
  rcases h2 with h2 | ⟨g, cap, cur, hv, hg, hc, hr⟩
  · exact .inl h2
  · exact .inr ⟨g, cap, cur, hv, hg, (hb.block g (Array.getElem?_eq_some_iff.1 hc).1).trans hc, hr⟩
theorem powns_block {w : World} {base e size n : Nat} {v : Value} {xs : List Value} (h : w.ownsRow base e size v n xs) : ∀ k, v.ownBlock = some k → base ≤ k := by
  obtain ⟨_, h2⟩ := h
  intro k hk
  rcases h2 with ⟨rfl, _⟩ | ⟨g, cap, cur, rfl, hg, _⟩
  · cases hk
  · simp [Value.ownBlock] at hk; omega
theorem pcells_app : ∀ (K M : List (Int × Int)), pcells (K ++ M) = pcells K ++ pcells M
  | [], M => rfl
  | p :: K, M => by simp [pcells, pcells_app K M]
theorem pnil_owns (w : World) (base : Nat) : w.ownsRow base 42 2 (.slice none 0 0) 0 (pcells []) := ⟨rfl, .inl ⟨rfl, rfl⟩⟩
theorem wpList_papp {ops : Array Oper} {rest : List Oper} {o : Oper} {a : Act} {w : World} {Q : Exit → Act → World → Prop} (hgd : o.guard = none) (s x : Operand)
    (ho : o.op = .call { callee := .builtin .append, args := #[s, x], argTypes := #[23, 23] }) (base : Nat) (v : Value) (n : Nat) (K : List (Int × Int)) (hs : a.eval s = v) (hown : w.ownsRow base 42 2 v n (pcells K))
    (g : Nat) (px py : Int) (hx : a.eval x = .slice (some ⟨g, 0, none⟩) 1 1) (h0 : w.cell? ⟨g, 0, none⟩ = some (.int .i64 px)) (h1 : w.cell? ⟨g, 1, none⟩ = some (.int .i64 py)) (hm : n ≤ 500) (hb : base ≤ w.heap.size)
    (h : ∀ v' w', w'.ownsRow base 42 2 v' (n + 1) (pcells (K ++ [(px, py)])) → w.grownBy w' v.ownBlock → wpList Tryz.prog ops Q rest (a.put o.dst v') w') : wpList Tryz.prog ops Q (o :: rest) a w := by
  obtain ⟨i0, hi0, hz0, hz1, hz2⟩ := info_pt
  refine wpList_append_own _ hgd s x _ ho base 42 i0 _ 2 16 Tryz.underlying23 hi0 hz0 hz1 hz2 rfl (by decide) _ n (pcells K) hs hown ⟨g, 0, none⟩ 1 1 (pcells [(px, py)]) hx
    rfl ?_ (pcells_one _) (by simp only [maxLen]; omega) (by omega) hb ?_
  · intro j u hu
    match j, hu with
    | 0, hu => simp [pcells] at hu; subst hu; exact h0
    | 1, hu => simp [pcells] at hu; subst hu; exact h1
  · intro v' w' hown' hg _
    rw [← pcells_app] at hown'
    exact h _ _ hown' hg
theorem grown_below {B : Nat} {a w w' : World} {row : Option Nat} (h : Below B a w) (hg : w.grownBy w' row) (hB : B ≤ w.heap.size) (hr : ∀ k, row = some k → B ≤ k) : Below B a w' := h.grown hg hB hr
def EndsAt (W : World) (a b c d : Int × Int) (v i : Value) (wr : World) : Prop :=
  ∃ k : Nat, i = .int .i64 (k : Int) ∧ k ≤ 4 ∧ wr.ownsRow W.heap.size 42 2 v (outQ a b c d k).length (pcells (outQ a b c d k)) ∧ Below W.heap.size W wr
def NewAt (wr : World) (O : List (Int × Int)) (x : Int × Int) (on : Bool) (t i : Value) (wx : World) : Prop :=
  ∃ m : Nat, i = .int .i64 (m : Int) ∧ m ≤ O.length ∧ t = .bool (on && (O.take m).all (fun y => decide (y ≠ x))) ∧ Cls wr wx
theorem new_step {O : List (Int × Int)} {m : Nat} {u v : Int} (hm : m < O.length) (h : O.getD m (0, 0) = (u, v)) (x : Int × Int) (on : Bool) :
    (on && (O.take (m + 1)).all (fun y => decide (y ≠ x))) = ((on && (O.take m).all (fun y => decide (y ≠ x))) && decide ((u, v) ≠ x)) := by
  rw [List.take_succ_eq_append_getElem hm, List.all_append]
  rw [List.getD_eq_getElem?_getD, List.getElem?_eq_getElem hm] at h
  simp at h
  simp [h, Bool.and_assoc]
set_option maxRecDepth 100000 in
set_option maxHeartbeats 1000000 in
theorem ends_not (w : World) (ax ay bx by_ cx cy dx dy : Int) (h : (mayQ (ax, ay) (bx, by_) && mayQ (cx, cy) (dx, dy)) = false) :
    Calls Tryz.prog 112 #[pt ax ay, pt bx by_, pt cx cy, pt dx dy] w fun e w' => (∃ v, e = .returned v ∧ PRes w' v (commonQ (ax, ay) (bx, by_) (cx, cy) (dx, dy))) ∧ Junk w w' := by
  have HC := Lib.hid (show commonQ (ax, ay) (bx, by_) (cx, cy) (dx, dy) = [] by unfold commonQ; rw [h]; rfl)
  have HV1 := Lib.hid (fun w' => r_crMay ax ay bx by_ w')
  have HV2 := Lib.hid (fun w' => r_crMay cx cy dx dy w')
  generalize commonQ (ax, ay) (bx, by_) (cx, cy) (dx, dy) = K at *
  generalize mayQ (ax, ay) (bx, by_) = v1 at *
  generalize mayQ (cx, cy) (dx, dy) = v2 at *
  unfold pt at *
  cases v1 with
  | false =>
    clear h
    go_enter Tryz.func112, Tryz.ntmps112
    go_wp2_with (go_at_call 111; (first | ((with_reducible refine (HV1.out _).mono ?_); rintro e w1 ⟨rfl, J1, d1, rfl⟩) | ((with_reducible refine (HV2.out _).mono ?_); rintro e w1 ⟨rfl, J2, d2, rfl⟩)))
    go_ret
    exact ⟨⟨_, rfl, none, 0, 0, rfl, ⟨by rw [HC.out]; rfl, .inl rfl⟩, by rw [HC.out]; decide⟩, junk_of_below (by (repeat' first | with_reducible (first | apply Below.refl | assumption | apply bw_a | apply bw_d | apply bw_n | apply bw_p | apply bw_c | apply bw_r) | go_size))⟩
  | true =>
    obtain rfl : v2 = false := by simpa using h
    clear h
    go_enter Tryz.func112, Tryz.ntmps112
    go_wp2_with (go_at_call 111; (first | ((with_reducible refine (HV1.out _).mono ?_); rintro e w1 ⟨rfl, J1, d1, rfl⟩) | ((with_reducible refine (HV2.out _).mono ?_); rintro e w1 ⟨rfl, J2, d2, rfl⟩)))
    go_ret
    exact ⟨⟨_, rfl, none, 0, 0, rfl, ⟨by rw [HC.out]; rfl, .inl rfl⟩, by rw [HC.out]; decide⟩, junk_of_below (by (repeat' first | with_reducible (first | apply Below.refl | assumption | apply bw_a | apply bw_d | apply bw_n | apply bw_p | apply bw_c | apply bw_r) | go_size))⟩
set_option maxRecDepth 100000 in
set_option maxHeartbeats 8000000 in
theorem ends_all (w : World) (ax ay bx by_ cx cy dx dy : Int) (h1 : mayQ (ax, ay) (bx, by_) = true) (h2 : mayQ (cx, cy) (dx, dy) = true) :
    Calls Tryz.prog 112 #[pt ax ay, pt bx by_, pt cx cy, pt dx dy] w fun e w' => (∃ v, e = .returned v ∧ PRes w' v (commonQ (ax, ay) (bx, by_) (cx, cy) (dx, dy))) ∧ Junk w w' := by
  have HC := Lib.hid (out_all (a := (ax, ay)) (b := (bx, by_)) (c := (cx, cy)) (d := (dx, dy)) (by rw [h1, h2]; rfl))
  have HL := Lib.hid (out_len (ax, ay) (bx, by_) (cx, cy) (dx, dy))
  have HV1 := Lib.hid (fun w' => r_crMay ax ay bx by_ w')
  have HV2 := Lib.hid (fun w' => r_crMay cx cy dx dy w')
  rw [h1] at HV1
  rw [h2] at HV2
  have HO0 := Lib.hid (fun w' => r_ptOn ax ay cx cy dx dy w')
  have HO1 := Lib.hid (fun w' => r_ptOn bx by_ cx cy dx dy w')
  have HO2 := Lib.hid (fun w' => r_ptOn cx cy cx cy dx dy w')
  have HO3 := Lib.hid (fun w' => r_ptOn dx dy cx cy dx dy w')
  have HP2 := Lib.hid (fun w' => r_ptOn cx cy ax ay bx by_ w')
  have HP3 := Lib.hid (fun w' => r_ptOn dx dy ax ay bx by_ w')
  clear h1 h2
  unfold pt at *
  go_enter Tryz.func112, Tryz.ntmps112
  go_wp2_with (go_at_call 111; (first | ((with_reducible refine (HV1.out _).mono ?_); rintro e w1 ⟨rfl, J1, d1, rfl⟩) | ((with_reducible refine (HV2.out _).mono ?_); rintro e w1 ⟨rfl, J2, d2, rfl⟩)))
  obtain ⟨W, hW⟩ : ∃ W, ((((((w.alloc (.cells #[.int .i64 ax, .int .i64 ay] 42)).alloc (.cells #[.int .i64 bx, .int .i64 by_] 42)).alloc (.cells #[.int .i64 cx, .int .i64 cy] 42)).alloc (.cells #[.int .i64 dx, .int .i64 dy] 42)).plus (J1 ++ J2) d2).alloc (.cells #[.int .i64 ax, .int .i64 ay, .int .i64 bx, .int .i64 by_, .int .i64 cx, .int .i64 cy, .int .i64 dx, .int .i64 dy] 42)) = W := ⟨_, rfl⟩
  obtain ⟨S, hS⟩ : ∃ S, w.heap.size + 1 + 1 + 1 + 1 + (J1.size + J2.size) = S := ⟨_, rfl⟩
  have c00 : W.cell? ⟨w.heap.size, 0, none⟩ = some (.int .i64 ax) := by rw [← hW]; simp [go_sem]
  have c01 : W.cell? ⟨w.heap.size, 1, none⟩ = some (.int .i64 ay) := by rw [← hW]; simp [go_sem]
  have hb0 : w.heap.size < W.heap.size := by rw [← hW]; simp; try omega
  have c10 : W.cell? ⟨w.heap.size + 1, 0, none⟩ = some (.int .i64 bx) := by rw [← hW]; simp [go_sem]
  have c11 : W.cell? ⟨w.heap.size + 1, 1, none⟩ = some (.int .i64 by_) := by rw [← hW]; simp [go_sem]
  have hb1 : w.heap.size + 1 < W.heap.size := by rw [← hW]; simp; try omega
  have c20 : W.cell? ⟨w.heap.size + 1 + 1, 0, none⟩ = some (.int .i64 cx) := by rw [← hW]; simp [go_sem]
  have c21 : W.cell? ⟨w.heap.size + 1 + 1, 1, none⟩ = some (.int .i64 cy) := by rw [← hW]; simp [go_sem]
  have hb2 : w.heap.size + 1 + 1 < W.heap.size := by rw [← hW]; simp; try omega
  have c30 : W.cell? ⟨w.heap.size + 1 + 1 + 1, 0, none⟩ = some (.int .i64 dx) := by rw [← hW]; simp [go_sem]
  have c31 : W.cell? ⟨w.heap.size + 1 + 1 + 1, 1, none⟩ = some (.int .i64 dy) := by rw [← hW]; simp [go_sem]
  have hb3 : w.heap.size + 1 + 1 + 1 < W.heap.size := by rw [← hW]; simp; try omega
  have g0 : W.cell? ⟨S, 0, none⟩ = some (.int .i64 ax) := by rw [← hW, ← hS]; simp [go_sem]
  have g1 : W.cell? ⟨S, 1, none⟩ = some (.int .i64 ay) := by rw [← hW, ← hS]; simp [go_sem]
  have g2 : W.cell? ⟨S, 2, none⟩ = some (.int .i64 bx) := by rw [← hW, ← hS]; simp [go_sem]
  have g3 : W.cell? ⟨S, 3, none⟩ = some (.int .i64 by_) := by rw [← hW, ← hS]; simp [go_sem]
  have g4 : W.cell? ⟨S, 4, none⟩ = some (.int .i64 cx) := by rw [← hW, ← hS]; simp [go_sem]
  have g5 : W.cell? ⟨S, 5, none⟩ = some (.int .i64 cy) := by rw [← hW, ← hS]; simp [go_sem]
  have g6 : W.cell? ⟨S, 6, none⟩ = some (.int .i64 dx) := by rw [← hW, ← hS]; simp [go_sem]
  have g7 : W.cell? ⟨S, 7, none⟩ = some (.int .i64 dy) := by rw [← hW, ← hS]; simp [go_sem]
  have hbS : S < W.heap.size := by rw [← hW, ← hS]; simp; try omega
  have hj : Below w.heap.size w W := by rw [← hW]; (repeat' first | with_reducible (first | apply Below.refl | assumption | apply bw_a | apply bw_d | apply bw_n | apply bw_p | apply bw_c | apply bw_r) | go_size)
  have hsz : w.heap.size ≤ W.heap.size := hj.size
  rw [hW, hS]
  clear hW hS HV1 HV2
  go_loopw [10, 11] (fun v i wr => EndsAt W (ax, ay) (bx, by_) (cx, cy) (dx, dy) v i wr) (fun _ i _ => 4 - (intOf i).toNat)
  case atStart => exact ⟨0, rfl, by omega, pnil_owns _ _, Below.refl _ _⟩
  case round =>
    obtain ⟨k, hi, k4, hown, hB⟩ := hrel
    obtain ⟨wo, rfl⟩ : ∃ wo : World, wo = wr := ⟨_, rfl⟩
    rcases (show k = 0 ∨ k = 1 ∨ k = 2 ∨ k = 3 ∨ k = 4 by omega) with rfl | rfl | rfl | rfl | rfl
    · obtain rfl : _ = Value.int .i64 0 := hi
      have len4 := HL.out 0
      have HS := Lib.hid (show outQ (ax, ay) (bx, by_) (cx, cy) (dx, dy) 1 = stepQ (outQ (ax, ay) (bx, by_) (cx, cy) (dx, dy) 0) (ax, ay) (onB ax ay cx cy dx dy) from rfl)
      generalize outQ (ax, ay) (bx, by_) (cx, cy) (dx, dy) 0 = O at *
      obtain ⟨a', cap', rfl, hR⟩ := preads_of_owns hown
      have HOW := Lib.hid hown
      have HB := Lib.hid hB
      have HR := Lib.hid hR
      have r00 := (World.cell?_of_block (a := ⟨w.heap.size, 0, none⟩) (hB.block _ hb0)).trans c00
      have r01 := (World.cell?_of_block (a := ⟨w.heap.size, 1, none⟩) (hB.block _ hb0)).trans c01
      have rb0 : w.heap.size < wo.heap.size := Nat.lt_of_lt_of_le hb0 hB.size
      have r10 := (World.cell?_of_block (a := ⟨w.heap.size + 1, 0, none⟩) (hB.block _ hb1)).trans c10
      have r11 := (World.cell?_of_block (a := ⟨w.heap.size + 1, 1, none⟩) (hB.block _ hb1)).trans c11
      have rb1 : w.heap.size + 1 < wo.heap.size := Nat.lt_of_lt_of_le hb1 hB.size
      have r20 := (World.cell?_of_block (a := ⟨w.heap.size + 1 + 1, 0, none⟩) (hB.block _ hb2)).trans c20
      have r21 := (World.cell?_of_block (a := ⟨w.heap.size + 1 + 1, 1, none⟩) (hB.block _ hb2)).trans c21
      have rb2 : w.heap.size + 1 + 1 < wo.heap.size := Nat.lt_of_lt_of_le hb2 hB.size
      have r30 := (World.cell?_of_block (a := ⟨w.heap.size + 1 + 1 + 1, 0, none⟩) (hB.block _ hb3)).trans c30
      have r31 := (World.cell?_of_block (a := ⟨w.heap.size + 1 + 1 + 1, 1, none⟩) (hB.block _ hb3)).trans c31
      have rb3 : w.heap.size + 1 + 1 + 1 < wo.heap.size := Nat.lt_of_lt_of_le hb3 hB.size
      have s0 := (World.cell?_of_block (a := ⟨S, 0, none⟩) (hB.block _ hbS)).trans g0
      have s1 := (World.cell?_of_block (a := ⟨S, 1, none⟩) (hB.block _ hbS)).trans g1
      have sb : S < wo.heap.size := Nat.lt_of_lt_of_le hbS hB.size
      clear hown hB hR
      go_upto_region 8 with fail
      refine region_quiet_all (C := Cls wo) (by kernel_rfl) (by kernel_rfl) (cls_drawn _) ?_
      repeat (first | (refine qw_skip (by rfl) ?_; simp only [Act.put, List.setIfInBounds_toArray, List.set_cons_succ, List.set_cons_zero]) | (refine qw_want (by rfl) (fun K hK => ?_); go_simp; first | (refine hK _ ?_; clear hK K) | (apply Exists.intro; refine ⟨?_, hK _ ?_⟩; (rintro w3_ ⟨J3_, d3_, rfl⟩; first | (with_reducible exact rfl) | (go_simp; with_reducible exact rfl) | (go_simp; (first | (with_reducible refine (HO0.out _).mono ?_)); rintro e_ w_ ⟨rfl, J4_, d4_, rfl⟩; exact ⟨rfl, J3_ ++ J4_, d4_, by simp only [plus_plus, Array.append_assoc]⟩)); clear hK K)))
      refine qw_nil ?_
      rintro w3 ⟨J3, d3, rfl⟩
      go_wp2_with fail
      go_loopw [12, 13] (fun t i wx => NewAt wo O (ax, ay) (onB ax ay cx cy dx dy) t i wx) (fun _ i _ => O.length - (intOf i).toNat)
      case atStart => exact ⟨0, rfl, by omega, by simp, _, _, rfl⟩
      case round =>
        obtain ⟨m, rfl, m1, ht, J5, d5, rfl⟩ := hrel
        by_cases hlt : m < O.length
        · rcases HR.out.2 with h0 | ⟨b', o', rfl, hc⟩
          · omega
          obtain ⟨e1, e2⟩ := hc m hlt
          have hb' : b' < wo.heap.size := World.block_lt_of_cell? _ _ e1
          have i2 : (m : Int) < (O.length : Int) := by omega
          obtain ⟨u, v, hx⟩ : ∃ u v : Int, (O.getD m (0, 0)) = (u, v) := ⟨_, _, rfl⟩
          rw [hx] at e1 e2
          have HN := Lib.hid (new_step hlt hx (ax, ay) (onB ax ay cx cy dx dy))
          generalize (onB ax ay cx cy dx dy && (O.take m).all (fun z => decide (z ≠ (ax, ay)))) = B0 at *
          subst ht
          clear hc hx
          cases B0 with
          | false =>
            go_upto_region 14 with fail
            refine region_quiet_all (C := Cls wo) (by kernel_rfl) (by kernel_rfl) ⟨_, _, rfl⟩ ?_
            repeat (first | (refine qw_skip (by rfl) ?_; simp only [Act.put, List.setIfInBounds_toArray, List.set_cons_succ, List.set_cons_zero]) | (refine qw_want (by rfl) (fun K hK => ?_); go_simp; first | (refine hK _ ?_; clear hK K) | (apply Exists.intro; refine ⟨?_, hK _ ?_⟩; (rintro w3_ ⟨J3_, d3_, rfl⟩; first | (with_reducible exact rfl) | (go_simp; with_reducible exact rfl) | (go_simp; (first | (with_reducible refine (HO0.out _).mono ?_)); rintro e_ w_ ⟨rfl, J4_, d4_, rfl⟩; exact ⟨rfl, J3_ ++ J4_, d4_, by simp only [plus_plus, Array.append_assoc]⟩)); clear hK K)))
            refine qw_nil ?_
            rintro w3 ⟨J6, d6, rfl⟩
            go_wp2_with fail
            go_roundw
            case rel => exact ⟨m + 1, by go_num, by omega, by rw [HN.out]; rfl, _, _, rfl⟩
            case measure => simp [intOf]; omega
          | true =>
            have hq : ((u == ax) = false ∧ decide ((u, v) ≠ (ax, ay)) = true) ∨ (u = ax ∧ (v == ay) = false ∧ decide ((u, v) ≠ (ax, ay)) = true) ∨ (u = ax ∧ v = ay ∧ decide ((u, v) ≠ (ax, ay)) = false) := by
              by_cases h5 : u = ax
              · by_cases h6 : v = ay
                · exact .inr (.inr ⟨h5, h6, by simp [h5, h6]⟩)
                · exact .inr (.inl ⟨h5, by simpa using h6, by simp [h6]⟩)
              · exact .inl ⟨by simpa using h5, by simp [h5]⟩
            rcases hq with ⟨q1, q3⟩ | ⟨rfl, q1, q3⟩ | ⟨rfl, rfl, q3⟩
            all_goals
              rw [q3] at HN
              clear q3
              go_upto_region 14 with fail
              refine region_quiet_all (C := Cls wo) (by kernel_rfl) (by kernel_rfl) ⟨_, _, rfl⟩ ?_
              repeat (first | (refine qw_skip (by rfl) ?_; simp only [Act.put, List.setIfInBounds_toArray, List.set_cons_succ, List.set_cons_zero]) | (refine qw_want (by rfl) (fun K hK => ?_); go_simp; first | (refine hK _ ?_; clear hK K) | (apply Exists.intro; refine ⟨?_, hK _ ?_⟩; (rintro w3_ ⟨J3_, d3_, rfl⟩; first | (with_reducible exact rfl) | (go_simp; with_reducible exact rfl) | (go_simp; (first | (with_reducible refine (HO0.out _).mono ?_)); rintro e_ w_ ⟨rfl, J4_, d4_, rfl⟩; exact ⟨rfl, J3_ ++ J4_, d4_, by simp only [plus_plus, Array.append_assoc]⟩)); clear hK K)))
              refine qw_nil ?_
              rintro w3 ⟨J6, d6, rfl⟩
              go_wp2_with fail
              go_roundw
              case rel => exact ⟨m + 1, by go_num, by omega, by rw [HN.out]; rfl, _, _, rfl⟩
              case measure => simp [intOf]; omega
        · obtain rfl : m = O.length := by omega
          rw [List.take_length] at ht
          have hsz2 : W.heap.size ≤ wo.heap.size := HB.out.size
          have hsz3 : W.heap.size ≤ (wo.plus J5 d5).heap.size := by simp; omega
          have hS := HS.out
          unfold stepQ at hS
          generalize (onB ax ay cx cy dx dy && O.all (fun z => decide (z ≠ (ax, ay)))) = B1 at *
          have HS1 := Lib.hid hS
          subst ht
          clear hS HS
          cases B1 with
          | false =>
            go_wp2_with fail
            go_roundw
            case rel =>
              have hB1 := HB.out
              exact ⟨0 + 1, by first | rfl | go_num, by omega, by rw [HS1.out]; exact powns_below HOW.out (by (repeat' first | with_reducible (first | apply Below.refl | assumption | apply bw_a | apply bw_d | apply bw_n | apply bw_p | apply bw_c | apply bw_r) | go_size)), by (repeat' first | with_reducible (first | apply Below.refl | assumption | apply bw_a | apply bw_d | apply bw_n | apply bw_p | apply bw_c | apply bw_r) | go_size)⟩
            case measure => simp [intOf]
          | true =>
            go_wp2_with (at_builtin; refine wpList_papp rfl (.tmp 68) (.tmp 73) rfl W.heap.size _ _ O rfl (powns_below HOW.out (by (repeat' first | with_reducible (first | apply Below.refl | assumption | apply bw_a | apply bw_d | apply bw_n | apply bw_p | apply bw_c | apply bw_r) | go_size))) _ ax ay rfl (by simp [go_sem]) (by simp [go_sem]) (by omega) (by simp; have := HB.out.size; omega) ?_; intro v' w' hown' hg')
            go_roundw
            case rel =>
              have hB1 := HB.out
              exact ⟨0 + 1, by first | rfl | go_num, by omega, by rw [HS1.out]; simpa using hown', grown_below (B := W.heap.size) (a := W) (by (repeat' first | with_reducible (first | apply Below.refl | assumption | apply bw_a | apply bw_d | apply bw_n | apply bw_p | apply bw_c | apply bw_r) | go_size)) hg' (by simp; have := HB.out.size; omega) (powns_block HOW.out)⟩
            case measure => simp [intOf]
    · obtain rfl : _ = Value.int .i64 1 := hi
      have len4 := HL.out 1
      have HS := Lib.hid (show outQ (ax, ay) (bx, by_) (cx, cy) (dx, dy) 2 = stepQ (outQ (ax, ay) (bx, by_) (cx, cy) (dx, dy) 1) (bx, by_) (onB bx by_ cx cy dx dy) from rfl)
      generalize outQ (ax, ay) (bx, by_) (cx, cy) (dx, dy) 1 = O at *
      obtain ⟨a', cap', rfl, hR⟩ := preads_of_owns hown
      have HOW := Lib.hid hown
      have HB := Lib.hid hB
      have HR := Lib.hid hR
      have r00 := (World.cell?_of_block (a := ⟨w.heap.size, 0, none⟩) (hB.block _ hb0)).trans c00
      have r01 := (World.cell?_of_block (a := ⟨w.heap.size, 1, none⟩) (hB.block _ hb0)).trans c01
      have rb0 : w.heap.size < wo.heap.size := Nat.lt_of_lt_of_le hb0 hB.size
      have r10 := (World.cell?_of_block (a := ⟨w.heap.size + 1, 0, none⟩) (hB.block _ hb1)).trans c10
      have r11 := (World.cell?_of_block (a := ⟨w.heap.size + 1, 1, none⟩) (hB.block _ hb1)).trans c11
      have rb1 : w.heap.size + 1 < wo.heap.size := Nat.lt_of_lt_of_le hb1 hB.size
      have r20 := (World.cell?_of_block (a := ⟨w.heap.size + 1 + 1, 0, none⟩) (hB.block _ hb2)).trans c20
      have r21 := (World.cell?_of_block (a := ⟨w.heap.size + 1 + 1, 1, none⟩) (hB.block _ hb2)).trans c21
      have rb2 : w.heap.size + 1 + 1 < wo.heap.size := Nat.lt_of_lt_of_le hb2 hB.size
      have r30 := (World.cell?_of_block (a := ⟨w.heap.size + 1 + 1 + 1, 0, none⟩) (hB.block _ hb3)).trans c30
      have r31 := (World.cell?_of_block (a := ⟨w.heap.size + 1 + 1 + 1, 1, none⟩) (hB.block _ hb3)).trans c31
      have rb3 : w.heap.size + 1 + 1 + 1 < wo.heap.size := Nat.lt_of_lt_of_le hb3 hB.size
      have s0 := (World.cell?_of_block (a := ⟨S, 2, none⟩) (hB.block _ hbS)).trans g2
      have s1 := (World.cell?_of_block (a := ⟨S, 3, none⟩) (hB.block _ hbS)).trans g3
      have sb : S < wo.heap.size := Nat.lt_of_lt_of_le hbS hB.size
      clear hown hB hR
      go_upto_region 8 with fail
      refine region_quiet_all (C := Cls wo) (by kernel_rfl) (by kernel_rfl) (cls_drawn _) ?_
      repeat (first | (refine qw_skip (by rfl) ?_; simp only [Act.put, List.setIfInBounds_toArray, List.set_cons_succ, List.set_cons_zero]) | (refine qw_want (by rfl) (fun K hK => ?_); go_simp; first | (refine hK _ ?_; clear hK K) | (apply Exists.intro; refine ⟨?_, hK _ ?_⟩; (rintro w3_ ⟨J3_, d3_, rfl⟩; first | (with_reducible exact rfl) | (go_simp; with_reducible exact rfl) | (go_simp; (first | (with_reducible refine (HO1.out _).mono ?_)); rintro e_ w_ ⟨rfl, J4_, d4_, rfl⟩; exact ⟨rfl, J3_ ++ J4_, d4_, by simp only [plus_plus, Array.append_assoc]⟩)); clear hK K)))
      refine qw_nil ?_
      rintro w3 ⟨J3, d3, rfl⟩
      go_wp2_with fail
      go_loopw [12, 13] (fun t i wx => NewAt wo O (bx, by_) (onB bx by_ cx cy dx dy) t i wx) (fun _ i _ => O.length - (intOf i).toNat)
      case atStart => exact ⟨0, rfl, by omega, by simp, _, _, rfl⟩
      case round =>
        obtain ⟨m, rfl, m1, ht, J5, d5, rfl⟩ := hrel
        by_cases hlt : m < O.length
        · rcases HR.out.2 with h0 | ⟨b', o', rfl, hc⟩
          · omega
          obtain ⟨e1, e2⟩ := hc m hlt
          have hb' : b' < wo.heap.size := World.block_lt_of_cell? _ _ e1
          have i2 : (m : Int) < (O.length : Int) := by omega
          obtain ⟨u, v, hx⟩ : ∃ u v : Int, (O.getD m (0, 0)) = (u, v) := ⟨_, _, rfl⟩
          rw [hx] at e1 e2
          have HN := Lib.hid (new_step hlt hx (bx, by_) (onB bx by_ cx cy dx dy))
          generalize (onB bx by_ cx cy dx dy && (O.take m).all (fun z => decide (z ≠ (bx, by_)))) = B0 at *
          subst ht
          clear hc hx
          cases B0 with
          | false =>
            go_upto_region 14 with fail
            refine region_quiet_all (C := Cls wo) (by kernel_rfl) (by kernel_rfl) ⟨_, _, rfl⟩ ?_
            repeat (first | (refine qw_skip (by rfl) ?_; simp only [Act.put, List.setIfInBounds_toArray, List.set_cons_succ, List.set_cons_zero]) | (refine qw_want (by rfl) (fun K hK => ?_); go_simp; first | (refine hK _ ?_; clear hK K) | (apply Exists.intro; refine ⟨?_, hK _ ?_⟩; (rintro w3_ ⟨J3_, d3_, rfl⟩; first | (with_reducible exact rfl) | (go_simp; with_reducible exact rfl) | (go_simp; (first | (with_reducible refine (HO0.out _).mono ?_)); rintro e_ w_ ⟨rfl, J4_, d4_, rfl⟩; exact ⟨rfl, J3_ ++ J4_, d4_, by simp only [plus_plus, Array.append_assoc]⟩)); clear hK K)))
            refine qw_nil ?_
            rintro w3 ⟨J6, d6, rfl⟩
            go_wp2_with fail
            go_roundw
            case rel => exact ⟨m + 1, by go_num, by omega, by rw [HN.out]; rfl, _, _, rfl⟩
            case measure => simp [intOf]; omega
          | true =>
            have hq : ((u == bx) = false ∧ decide ((u, v) ≠ (bx, by_)) = true) ∨ (u = bx ∧ (v == by_) = false ∧ decide ((u, v) ≠ (bx, by_)) = true) ∨ (u = bx ∧ v = by_ ∧ decide ((u, v) ≠ (bx, by_)) = false) := by
              by_cases h5 : u = bx
              · by_cases h6 : v = by_
                · exact .inr (.inr ⟨h5, h6, by simp [h5, h6]⟩)
                · exact .inr (.inl ⟨h5, by simpa using h6, by simp [h6]⟩)
              · exact .inl ⟨by simpa using h5, by simp [h5]⟩
            rcases hq with ⟨q1, q3⟩ | ⟨rfl, q1, q3⟩ | ⟨rfl, rfl, q3⟩
            all_goals
              rw [q3] at HN
              clear q3
              go_upto_region 14 with fail
              refine region_quiet_all (C := Cls wo) (by kernel_rfl) (by kernel_rfl) ⟨_, _, rfl⟩ ?_
              repeat (first | (refine qw_skip (by rfl) ?_; simp only [Act.put, List.setIfInBounds_toArray, List.set_cons_succ, List.set_cons_zero]) | (refine qw_want (by rfl) (fun K hK => ?_); go_simp; first | (refine hK _ ?_; clear hK K) | (apply Exists.intro; refine ⟨?_, hK _ ?_⟩; (rintro w3_ ⟨J3_, d3_, rfl⟩; first | (with_reducible exact rfl) | (go_simp; with_reducible exact rfl) | (go_simp; (first | (with_reducible refine (HO0.out _).mono ?_)); rintro e_ w_ ⟨rfl, J4_, d4_, rfl⟩; exact ⟨rfl, J3_ ++ J4_, d4_, by simp only [plus_plus, Array.append_assoc]⟩)); clear hK K)))
              refine qw_nil ?_
              rintro w3 ⟨J6, d6, rfl⟩
              go_wp2_with fail
              go_roundw
              case rel => exact ⟨m + 1, by go_num, by omega, by rw [HN.out]; rfl, _, _, rfl⟩
              case measure => simp [intOf]; omega
        · obtain rfl : m = O.length := by omega
          rw [List.take_length] at ht
          have hsz2 : W.heap.size ≤ wo.heap.size := HB.out.size
          have hsz3 : W.heap.size ≤ (wo.plus J5 d5).heap.size := by simp; omega
          have hS := HS.out
          unfold stepQ at hS
          generalize (onB bx by_ cx cy dx dy && O.all (fun z => decide (z ≠ (bx, by_)))) = B1 at *
          have HS1 := Lib.hid hS
          subst ht
          clear hS HS
          cases B1 with
          | false =>
            go_wp2_with fail
            go_roundw
            case rel =>
              have hB1 := HB.out
              exact ⟨1 + 1, by first | rfl | go_num, by omega, by rw [HS1.out]; exact powns_below HOW.out (by (repeat' first | with_reducible (first | apply Below.refl | assumption | apply bw_a | apply bw_d | apply bw_n | apply bw_p | apply bw_c | apply bw_r) | go_size)), by (repeat' first | with_reducible (first | apply Below.refl | assumption | apply bw_a | apply bw_d | apply bw_n | apply bw_p | apply bw_c | apply bw_r) | go_size)⟩
            case measure => simp [intOf]
          | true =>
            go_wp2_with (at_builtin; refine wpList_papp rfl (.tmp 68) (.tmp 73) rfl W.heap.size _ _ O rfl (powns_below HOW.out (by (repeat' first | with_reducible (first | apply Below.refl | assumption | apply bw_a | apply bw_d | apply bw_n | apply bw_p | apply bw_c | apply bw_r) | go_size))) _ bx by_ rfl (by simp [go_sem]) (by simp [go_sem]) (by omega) (by simp; have := HB.out.size; omega) ?_; intro v' w' hown' hg')
            go_roundw
            case rel =>
              have hB1 := HB.out
              exact ⟨1 + 1, by first | rfl | go_num, by omega, by rw [HS1.out]; simpa using hown', grown_below (B := W.heap.size) (a := W) (by (repeat' first | with_reducible (first | apply Below.refl | assumption | apply bw_a | apply bw_d | apply bw_n | apply bw_p | apply bw_c | apply bw_r) | go_size)) hg' (by simp; have := HB.out.size; omega) (powns_block HOW.out)⟩
            case measure => simp [intOf]
    · obtain rfl : _ = Value.int .i64 2 := hi
      have len4 := HL.out 2
      have HS := Lib.hid (show outQ (ax, ay) (bx, by_) (cx, cy) (dx, dy) 3 = stepQ (outQ (ax, ay) (bx, by_) (cx, cy) (dx, dy) 2) (cx, cy) (onB cx cy ax ay bx by_) from rfl)
      generalize outQ (ax, ay) (bx, by_) (cx, cy) (dx, dy) 2 = O at *
      obtain ⟨a', cap', rfl, hR⟩ := preads_of_owns hown
      have HOW := Lib.hid hown
      have HB := Lib.hid hB
      have HR := Lib.hid hR
      have r00 := (World.cell?_of_block (a := ⟨w.heap.size, 0, none⟩) (hB.block _ hb0)).trans c00
      have r01 := (World.cell?_of_block (a := ⟨w.heap.size, 1, none⟩) (hB.block _ hb0)).trans c01
      have rb0 : w.heap.size < wo.heap.size := Nat.lt_of_lt_of_le hb0 hB.size
      have r10 := (World.cell?_of_block (a := ⟨w.heap.size + 1, 0, none⟩) (hB.block _ hb1)).trans c10
      have r11 := (World.cell?_of_block (a := ⟨w.heap.size + 1, 1, none⟩) (hB.block _ hb1)).trans c11
      have rb1 : w.heap.size + 1 < wo.heap.size := Nat.lt_of_lt_of_le hb1 hB.size
      have r20 := (World.cell?_of_block (a := ⟨w.heap.size + 1 + 1, 0, none⟩) (hB.block _ hb2)).trans c20
      have r21 := (World.cell?_of_block (a := ⟨w.heap.size + 1 + 1, 1, none⟩) (hB.block _ hb2)).trans c21
      have rb2 : w.heap.size + 1 + 1 < wo.heap.size := Nat.lt_of_lt_of_le hb2 hB.size
      have r30 := (World.cell?_of_block (a := ⟨w.heap.size + 1 + 1 + 1, 0, none⟩) (hB.block _ hb3)).trans c30
      have r31 := (World.cell?_of_block (a := ⟨w.heap.size + 1 + 1 + 1, 1, none⟩) (hB.block _ hb3)).trans c31
      have rb3 : w.heap.size + 1 + 1 + 1 < wo.heap.size := Nat.lt_of_lt_of_le hb3 hB.size
      have s0 := (World.cell?_of_block (a := ⟨S, 4, none⟩) (hB.block _ hbS)).trans g4
      have s1 := (World.cell?_of_block (a := ⟨S, 5, none⟩) (hB.block _ hbS)).trans g5
      have sb : S < wo.heap.size := Nat.lt_of_lt_of_le hbS hB.size
      clear hown hB hR
      go_upto_region 8 with fail
      refine region_quiet_all (C := Cls wo) (by kernel_rfl) (by kernel_rfl) (cls_drawn _) ?_
      repeat (first | (refine qw_skip (by rfl) ?_; simp only [Act.put, List.setIfInBounds_toArray, List.set_cons_succ, List.set_cons_zero]) | (refine qw_want (by rfl) (fun K hK => ?_); go_simp; first | (refine hK _ ?_; clear hK K) | (apply Exists.intro; refine ⟨?_, hK _ ?_⟩; (rintro w3_ ⟨J3_, d3_, rfl⟩; first | (with_reducible exact rfl) | (go_simp; with_reducible exact rfl) | (go_simp; (first | (with_reducible refine (HO2.out _).mono ?_)); rintro e_ w_ ⟨rfl, J4_, d4_, rfl⟩; exact ⟨rfl, J3_ ++ J4_, d4_, by simp only [plus_plus, Array.append_assoc]⟩)); clear hK K)))
      refine qw_nil ?_
      rintro w3 ⟨J3, d3, rfl⟩
      go_upto_region 10 with fail
      refine region_quiet_all (C := Cls wo) (by kernel_rfl) (by kernel_rfl) ⟨_, _, rfl⟩ ?_
      repeat (first | (refine qw_skip (by rfl) ?_; simp only [Act.put, List.setIfInBounds_toArray, List.set_cons_succ, List.set_cons_zero]) | (refine qw_want (by rfl) (fun K hK => ?_); go_simp; first | (refine hK _ ?_; clear hK K) | (apply Exists.intro; refine ⟨?_, hK _ ?_⟩; (rintro w3_ ⟨J3_, d3_, rfl⟩; first | (with_reducible exact rfl) | (go_simp; with_reducible exact rfl) | (go_simp; (first | (with_reducible refine (HP2.out _).mono ?_)); rintro e_ w_ ⟨rfl, J4_, d4_, rfl⟩; exact ⟨rfl, J3_ ++ J4_, d4_, by simp only [plus_plus, Array.append_assoc]⟩)); clear hK K)))
      refine qw_nil ?_
      rintro w3 ⟨J4, d4, rfl⟩
      go_wp2_with fail
      go_loopw [12, 13] (fun t i wx => NewAt wo O (cx, cy) (onB cx cy ax ay bx by_) t i wx) (fun _ i _ => O.length - (intOf i).toNat)
      case atStart => exact ⟨0, rfl, by omega, by simp, _, _, rfl⟩
      case round =>
        obtain ⟨m, rfl, m1, ht, J5, d5, rfl⟩ := hrel
        by_cases hlt : m < O.length
        · rcases HR.out.2 with h0 | ⟨b', o', rfl, hc⟩
          · omega
          obtain ⟨e1, e2⟩ := hc m hlt
          have hb' : b' < wo.heap.size := World.block_lt_of_cell? _ _ e1
          have i2 : (m : Int) < (O.length : Int) := by omega
          obtain ⟨u, v, hx⟩ : ∃ u v : Int, (O.getD m (0, 0)) = (u, v) := ⟨_, _, rfl⟩
          rw [hx] at e1 e2
          have HN := Lib.hid (new_step hlt hx (cx, cy) (onB cx cy ax ay bx by_))
          generalize (onB cx cy ax ay bx by_ && (O.take m).all (fun z => decide (z ≠ (cx, cy)))) = B0 at *
          subst ht
          clear hc hx
          cases B0 with
          | false =>
            go_upto_region 14 with fail
            refine region_quiet_all (C := Cls wo) (by kernel_rfl) (by kernel_rfl) ⟨_, _, rfl⟩ ?_
            repeat (first | (refine qw_skip (by rfl) ?_; simp only [Act.put, List.setIfInBounds_toArray, List.set_cons_succ, List.set_cons_zero]) | (refine qw_want (by rfl) (fun K hK => ?_); go_simp; first | (refine hK _ ?_; clear hK K) | (apply Exists.intro; refine ⟨?_, hK _ ?_⟩; (rintro w3_ ⟨J3_, d3_, rfl⟩; first | (with_reducible exact rfl) | (go_simp; with_reducible exact rfl) | (go_simp; (first | (with_reducible refine (HO0.out _).mono ?_)); rintro e_ w_ ⟨rfl, J4_, d4_, rfl⟩; exact ⟨rfl, J3_ ++ J4_, d4_, by simp only [plus_plus, Array.append_assoc]⟩)); clear hK K)))
            refine qw_nil ?_
            rintro w3 ⟨J6, d6, rfl⟩
            go_wp2_with fail
            go_roundw
            case rel => exact ⟨m + 1, by go_num, by omega, by rw [HN.out]; rfl, _, _, rfl⟩
            case measure => simp [intOf]; omega
          | true =>
            have hq : ((u == cx) = false ∧ decide ((u, v) ≠ (cx, cy)) = true) ∨ (u = cx ∧ (v == cy) = false ∧ decide ((u, v) ≠ (cx, cy)) = true) ∨ (u = cx ∧ v = cy ∧ decide ((u, v) ≠ (cx, cy)) = false) := by
              by_cases h5 : u = cx
              · by_cases h6 : v = cy
                · exact .inr (.inr ⟨h5, h6, by simp [h5, h6]⟩)
                · exact .inr (.inl ⟨h5, by simpa using h6, by simp [h6]⟩)
              · exact .inl ⟨by simpa using h5, by simp [h5]⟩
            rcases hq with ⟨q1, q3⟩ | ⟨rfl, q1, q3⟩ | ⟨rfl, rfl, q3⟩
            all_goals
              rw [q3] at HN
              clear q3
              go_upto_region 14 with fail
              refine region_quiet_all (C := Cls wo) (by kernel_rfl) (by kernel_rfl) ⟨_, _, rfl⟩ ?_
              repeat (first | (refine qw_skip (by rfl) ?_; simp only [Act.put, List.setIfInBounds_toArray, List.set_cons_succ, List.set_cons_zero]) | (refine qw_want (by rfl) (fun K hK => ?_); go_simp; first | (refine hK _ ?_; clear hK K) | (apply Exists.intro; refine ⟨?_, hK _ ?_⟩; (rintro w3_ ⟨J3_, d3_, rfl⟩; first | (with_reducible exact rfl) | (go_simp; with_reducible exact rfl) | (go_simp; (first | (with_reducible refine (HO0.out _).mono ?_)); rintro e_ w_ ⟨rfl, J4_, d4_, rfl⟩; exact ⟨rfl, J3_ ++ J4_, d4_, by simp only [plus_plus, Array.append_assoc]⟩)); clear hK K)))
              refine qw_nil ?_
              rintro w3 ⟨J6, d6, rfl⟩
              go_wp2_with fail
              go_roundw
              case rel => exact ⟨m + 1, by go_num, by omega, by rw [HN.out]; rfl, _, _, rfl⟩
              case measure => simp [intOf]; omega
        · obtain rfl : m = O.length := by omega
          rw [List.take_length] at ht
          have hsz2 : W.heap.size ≤ wo.heap.size := HB.out.size
          have hsz3 : W.heap.size ≤ (wo.plus J5 d5).heap.size := by simp; omega
          have hS := HS.out
          unfold stepQ at hS
          generalize (onB cx cy ax ay bx by_ && O.all (fun z => decide (z ≠ (cx, cy)))) = B1 at *
          have HS1 := Lib.hid hS
          subst ht
          clear hS HS
          cases B1 with
          | false =>
            go_wp2_with fail
            go_roundw
            case rel =>
              have hB1 := HB.out
              exact ⟨2 + 1, by first | rfl | go_num, by omega, by rw [HS1.out]; exact powns_below HOW.out (by (repeat' first | with_reducible (first | apply Below.refl | assumption | apply bw_a | apply bw_d | apply bw_n | apply bw_p | apply bw_c | apply bw_r) | go_size)), by (repeat' first | with_reducible (first | apply Below.refl | assumption | apply bw_a | apply bw_d | apply bw_n | apply bw_p | apply bw_c | apply bw_r) | go_size)⟩
            case measure => simp [intOf]
          | true =>
            go_wp2_with (at_builtin; refine wpList_papp rfl (.tmp 68) (.tmp 73) rfl W.heap.size _ _ O rfl (powns_below HOW.out (by (repeat' first | with_reducible (first | apply Below.refl | assumption | apply bw_a | apply bw_d | apply bw_n | apply bw_p | apply bw_c | apply bw_r) | go_size))) _ cx cy rfl (by simp [go_sem]) (by simp [go_sem]) (by omega) (by simp; have := HB.out.size; omega) ?_; intro v' w' hown' hg')
            go_roundw
            case rel =>
              have hB1 := HB.out
              exact ⟨2 + 1, by first | rfl | go_num, by omega, by rw [HS1.out]; simpa using hown', grown_below (B := W.heap.size) (a := W) (by (repeat' first | with_reducible (first | apply Below.refl | assumption | apply bw_a | apply bw_d | apply bw_n | apply bw_p | apply bw_c | apply bw_r) | go_size)) hg' (by simp; have := HB.out.size; omega) (powns_block HOW.out)⟩
            case measure => simp [intOf]
    · obtain rfl : _ = Value.int .i64 3 := hi
      have len4 := HL.out 3
      have HS := Lib.hid (show outQ (ax, ay) (bx, by_) (cx, cy) (dx, dy) 4 = stepQ (outQ (ax, ay) (bx, by_) (cx, cy) (dx, dy) 3) (dx, dy) (onB dx dy ax ay bx by_) from rfl)
      generalize outQ (ax, ay) (bx, by_) (cx, cy) (dx, dy) 3 = O at *
      obtain ⟨a', cap', rfl, hR⟩ := preads_of_owns hown
      have HOW := Lib.hid hown
      have HB := Lib.hid hB
      have HR := Lib.hid hR
      have r00 := (World.cell?_of_block (a := ⟨w.heap.size, 0, none⟩) (hB.block _ hb0)).trans c00
      have r01 := (World.cell?_of_block (a := ⟨w.heap.size, 1, none⟩) (hB.block _ hb0)).trans c01
      have rb0 : w.heap.size < wo.heap.size := Nat.lt_of_lt_of_le hb0 hB.size
      have r10 := (World.cell?_of_block (a := ⟨w.heap.size + 1, 0, none⟩) (hB.block _ hb1)).trans c10
      have r11 := (World.cell?_of_block (a := ⟨w.heap.size + 1, 1, none⟩) (hB.block _ hb1)).trans c11
      have rb1 : w.heap.size + 1 < wo.heap.size := Nat.lt_of_lt_of_le hb1 hB.size
      have r20 := (World.cell?_of_block (a := ⟨w.heap.size + 1 + 1, 0, none⟩) (hB.block _ hb2)).trans c20
      have r21 := (World.cell?_of_block (a := ⟨w.heap.size + 1 + 1, 1, none⟩) (hB.block _ hb2)).trans c21
      have rb2 : w.heap.size + 1 + 1 < wo.heap.size := Nat.lt_of_lt_of_le hb2 hB.size
      have r30 := (World.cell?_of_block (a := ⟨w.heap.size + 1 + 1 + 1, 0, none⟩) (hB.block _ hb3)).trans c30
      have r31 := (World.cell?_of_block (a := ⟨w.heap.size + 1 + 1 + 1, 1, none⟩) (hB.block _ hb3)).trans c31
      have rb3 : w.heap.size + 1 + 1 + 1 < wo.heap.size := Nat.lt_of_lt_of_le hb3 hB.size
      have s0 := (World.cell?_of_block (a := ⟨S, 6, none⟩) (hB.block _ hbS)).trans g6
      have s1 := (World.cell?_of_block (a := ⟨S, 7, none⟩) (hB.block _ hbS)).trans g7
      have sb : S < wo.heap.size := Nat.lt_of_lt_of_le hbS hB.size
      clear hown hB hR
      go_upto_region 8 with fail
      refine region_quiet_all (C := Cls wo) (by kernel_rfl) (by kernel_rfl) (cls_drawn _) ?_
      repeat (first | (refine qw_skip (by rfl) ?_; simp only [Act.put, List.setIfInBounds_toArray, List.set_cons_succ, List.set_cons_zero]) | (refine qw_want (by rfl) (fun K hK => ?_); go_simp; first | (refine hK _ ?_; clear hK K) | (apply Exists.intro; refine ⟨?_, hK _ ?_⟩; (rintro w3_ ⟨J3_, d3_, rfl⟩; first | (with_reducible exact rfl) | (go_simp; with_reducible exact rfl) | (go_simp; (first | (with_reducible refine (HO3.out _).mono ?_)); rintro e_ w_ ⟨rfl, J4_, d4_, rfl⟩; exact ⟨rfl, J3_ ++ J4_, d4_, by simp only [plus_plus, Array.append_assoc]⟩)); clear hK K)))
      refine qw_nil ?_
      rintro w3 ⟨J3, d3, rfl⟩
      go_upto_region 10 with fail
      refine region_quiet_all (C := Cls wo) (by kernel_rfl) (by kernel_rfl) ⟨_, _, rfl⟩ ?_
      repeat (first | (refine qw_skip (by rfl) ?_; simp only [Act.put, List.setIfInBounds_toArray, List.set_cons_succ, List.set_cons_zero]) | (refine qw_want (by rfl) (fun K hK => ?_); go_simp; first | (refine hK _ ?_; clear hK K) | (apply Exists.intro; refine ⟨?_, hK _ ?_⟩; (rintro w3_ ⟨J3_, d3_, rfl⟩; first | (with_reducible exact rfl) | (go_simp; with_reducible exact rfl) | (go_simp; (first | (with_reducible refine (HP3.out _).mono ?_)); rintro e_ w_ ⟨rfl, J4_, d4_, rfl⟩; exact ⟨rfl, J3_ ++ J4_, d4_, by simp only [plus_plus, Array.append_assoc]⟩)); clear hK K)))
      refine qw_nil ?_
      rintro w3 ⟨J4, d4, rfl⟩
      go_wp2_with fail
      go_loopw [12, 13] (fun t i wx => NewAt wo O (dx, dy) (onB dx dy ax ay bx by_) t i wx) (fun _ i _ => O.length - (intOf i).toNat)
      case atStart => exact ⟨0, rfl, by omega, by simp, _, _, rfl⟩
      case round =>
        obtain ⟨m, rfl, m1, ht, J5, d5, rfl⟩ := hrel
        by_cases hlt : m < O.length
        · rcases HR.out.2 with h0 | ⟨b', o', rfl, hc⟩
          · omega
          obtain ⟨e1, e2⟩ := hc m hlt
          have hb' : b' < wo.heap.size := World.block_lt_of_cell? _ _ e1
          have i2 : (m : Int) < (O.length : Int) := by omega
          obtain ⟨u, v, hx⟩ : ∃ u v : Int, (O.getD m (0, 0)) = (u, v) := ⟨_, _, rfl⟩
          rw [hx] at e1 e2
          have HN := Lib.hid (new_step hlt hx (dx, dy) (onB dx dy ax ay bx by_))
          generalize (onB dx dy ax ay bx by_ && (O.take m).all (fun z => decide (z ≠ (dx, dy)))) = B0 at *
          subst ht
          clear hc hx
          cases B0 with
          | false =>
            go_upto_region 14 with fail
            refine region_quiet_all (C := Cls wo) (by kernel_rfl) (by kernel_rfl) ⟨_, _, rfl⟩ ?_
            repeat (first | (refine qw_skip (by rfl) ?_; simp only [Act.put, List.setIfInBounds_toArray, List.set_cons_succ, List.set_cons_zero]) | (refine qw_want (by rfl) (fun K hK => ?_); go_simp; first | (refine hK _ ?_; clear hK K) | (apply Exists.intro; refine ⟨?_, hK _ ?_⟩; (rintro w3_ ⟨J3_, d3_, rfl⟩; first | (with_reducible exact rfl) | (go_simp; with_reducible exact rfl) | (go_simp; (first | (with_reducible refine (HO0.out _).mono ?_)); rintro e_ w_ ⟨rfl, J4_, d4_, rfl⟩; exact ⟨rfl, J3_ ++ J4_, d4_, by simp only [plus_plus, Array.append_assoc]⟩)); clear hK K)))
            refine qw_nil ?_
            rintro w3 ⟨J6, d6, rfl⟩
            go_wp2_with fail
            go_roundw
            case rel => exact ⟨m + 1, by go_num, by omega, by rw [HN.out]; rfl, _, _, rfl⟩
            case measure => simp [intOf]; omega
          | true =>
            have hq : ((u == dx) = false ∧ decide ((u, v) ≠ (dx, dy)) = true) ∨ (u = dx ∧ (v == dy) = false ∧ decide ((u, v) ≠ (dx, dy)) = true) ∨ (u = dx ∧ v = dy ∧ decide ((u, v) ≠ (dx, dy)) = false) := by
              by_cases h5 : u = dx
              · by_cases h6 : v = dy
                · exact .inr (.inr ⟨h5, h6, by simp [h5, h6]⟩)
                · exact .inr (.inl ⟨h5, by simpa using h6, by simp [h6]⟩)
              · exact .inl ⟨by simpa using h5, by simp [h5]⟩
            rcases hq with ⟨q1, q3⟩ | ⟨rfl, q1, q3⟩ | ⟨rfl, rfl, q3⟩
            all_goals
              rw [q3] at HN
              clear q3
              go_upto_region 14 with fail
              refine region_quiet_all (C := Cls wo) (by kernel_rfl) (by kernel_rfl) ⟨_, _, rfl⟩ ?_
              repeat (first | (refine qw_skip (by rfl) ?_; simp only [Act.put, List.setIfInBounds_toArray, List.set_cons_succ, List.set_cons_zero]) | (refine qw_want (by rfl) (fun K hK => ?_); go_simp; first | (refine hK _ ?_; clear hK K) | (apply Exists.intro; refine ⟨?_, hK _ ?_⟩; (rintro w3_ ⟨J3_, d3_, rfl⟩; first | (with_reducible exact rfl) | (go_simp; with_reducible exact rfl) | (go_simp; (first | (with_reducible refine (HO0.out _).mono ?_)); rintro e_ w_ ⟨rfl, J4_, d4_, rfl⟩; exact ⟨rfl, J3_ ++ J4_, d4_, by simp only [plus_plus, Array.append_assoc]⟩)); clear hK K)))
              refine qw_nil ?_
              rintro w3 ⟨J6, d6, rfl⟩
              go_wp2_with fail
              go_roundw
              case rel => exact ⟨m + 1, by go_num, by omega, by rw [HN.out]; rfl, _, _, rfl⟩
              case measure => simp [intOf]; omega
        · obtain rfl : m = O.length := by omega
          rw [List.take_length] at ht
          have hsz2 : W.heap.size ≤ wo.heap.size := HB.out.size
          have hsz3 : W.heap.size ≤ (wo.plus J5 d5).heap.size := by simp; omega
          have hS := HS.out
          unfold stepQ at hS
          generalize (onB dx dy ax ay bx by_ && O.all (fun z => decide (z ≠ (dx, dy)))) = B1 at *
          have HS1 := Lib.hid hS
          subst ht
          clear hS HS
          cases B1 with
          | false =>
            go_wp2_with fail
            go_roundw
            case rel =>
              have hB1 := HB.out
              exact ⟨3 + 1, by first | rfl | go_num, by omega, by rw [HS1.out]; exact powns_below HOW.out (by (repeat' first | with_reducible (first | apply Below.refl | assumption | apply bw_a | apply bw_d | apply bw_n | apply bw_p | apply bw_c | apply bw_r) | go_size)), by (repeat' first | with_reducible (first | apply Below.refl | assumption | apply bw_a | apply bw_d | apply bw_n | apply bw_p | apply bw_c | apply bw_r) | go_size)⟩
            case measure => simp [intOf]
          | true =>
            go_wp2_with (at_builtin; refine wpList_papp rfl (.tmp 68) (.tmp 73) rfl W.heap.size _ _ O rfl (powns_below HOW.out (by (repeat' first | with_reducible (first | apply Below.refl | assumption | apply bw_a | apply bw_d | apply bw_n | apply bw_p | apply bw_c | apply bw_r) | go_size))) _ dx dy rfl (by simp [go_sem]) (by simp [go_sem]) (by omega) (by simp; have := HB.out.size; omega) ?_; intro v' w' hown' hg')
            go_roundw
            case rel =>
              have hB1 := HB.out
              exact ⟨3 + 1, by first | rfl | go_num, by omega, by rw [HS1.out]; simpa using hown', grown_below (B := W.heap.size) (a := W) (by (repeat' first | with_reducible (first | apply Below.refl | assumption | apply bw_a | apply bw_d | apply bw_n | apply bw_p | apply bw_c | apply bw_r) | go_size)) hg' (by simp; have := HB.out.size; omega) (powns_block HOW.out)⟩
            case measure => simp [intOf]
    · obtain rfl : _ = Value.int .i64 4 := hi
      rw [HC.out] at hown
      obtain ⟨a', cap', rfl, hR⟩ := preads_of_owns hown
      have len4 := HL.out 4
      rw [HC.out] at len4
      have HR := Lib.hid hR
      have HB := Lib.hid (hj.trans (hB.mono hsz))
      clear hown hB hR
      go_wp2_with fail
      go_ret
      exact ⟨⟨_, rfl, a', _, cap', rfl, HR.out, len4⟩, junk_of_below HB.out⟩
theorem r_crEnds (w : World) (ax ay bx by_ cx cy dx dy : Int) :
    Calls Tryz.prog 112 #[pt ax ay, pt bx by_, pt cx cy, pt dx dy] w fun e w' => (∃ v, e = .returned v ∧ PRes w' v (commonQ (ax, ay) (bx, by_) (cx, cy) (dx, dy))) ∧ Junk w w' := by
  cases h : mayQ (ax, ay) (bx, by_) && mayQ (cx, cy) (dx, dy) with
  | false => exact ends_not w ax ay bx by_ cx cy dx dy h
  | true =>
    rw [Bool.and_eq_true] at h
    exact ends_all w ax ay bx by_ cx cy dx dy h.1 h.2
end Go.Proofs.YthphdiigjimchaaGreat

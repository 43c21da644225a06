/- The law IndexNear: the walk. -/
import Derived.Test.YthphdiigjimchaaGreatIyM
import Derived.Test.YthphdiigjimchaaGreatIyFin
namespace Go.Proofs.YthphdiigjimchaaGreat
set_option linter.unusedVariables false
set_option linter.unusedSimpArgs false
open Go.RowKit
set_option maxRecDepth 100000 in
set_option maxHeartbeats 4000000 in
theorem near_big (w : World) (a : Option Addr) (n ca : Nat) (L : List (List (List Pt))) (hL : LRC w a n ca L) (hs : n ≤ 4611686018427387903) (hl : ∀ R ∈ L, R.length ≤ 4611686018427387903 ∧ ∀ K ∈ R, K.length ≤ 8796093022208) (px py : Int)
    (ta : Option Addr) (tn tc : Nat) (h : ¬ smallL L ∨ 20 < n ∨ 60 < tn) :
    Calls Tryz.prog 6 #[.slice a n ca, pt px py, .slice ta tn tc] w fun e w' => e = .returned (.bool true) ∧ Junk w w' := by
  have HKn := Lib.hid l_indexKnown
  have HBg := Lib.hid (fun (W : World) (h : LRC W a n ca L) => l_ixBig W a n ca L h hs hl)
  have HL := Lib.hid hL
  unfold pt
  clear hL hl hs
  by_cases h1 : smallL L
  · rw [decide_eq_true h1] at HBg
    by_cases h2 : 20 < n
    · have i1 : (n : Int) > 20 := by omega
      clear h h1 h2
      go_enter Tryz.func6, Tryz.ntmps6
      go_wp2_with (first
        | (go_at_call 5; refine (HKn.out _).mono ?_; rintro e w1 ⟨rfl, J1, d1, rfl⟩)
        | (go_at_call 8; (with_reducible refine (HBg.out _ (HL.out.below (by ((try simp only [← Array.append_assoc]); repeat' first | with_reducible (first | apply Below.refl | assumption | apply bw_a | apply bw_d | apply bw_n | apply bw_e | apply bw_s | apply bw_p | apply bw_c | apply bw_r) | go_size)))).mono ?_); rintro e w1 ⟨rfl, J2, d2, rfl⟩))
      go_ret
      exact ⟨rfl, junk_of_below (by (repeat' first | with_reducible (first | apply Below.refl | assumption | apply bw_a | apply bw_d | apply bw_n | apply bw_p | apply bw_c | apply bw_r) | go_size))⟩
    · have i1 : ¬ (n : Int) > 20 := by omega
      have i2 : (tn : Int) > 60 := by
        rcases h with h | h | h
        · exact absurd h1 h
        · omega
        · omega
      clear h h1 h2
      go_enter Tryz.func6, Tryz.ntmps6
      go_wp2_with (first
        | (go_at_call 5; refine (HKn.out _).mono ?_; rintro e w1 ⟨rfl, J1, d1, rfl⟩)
        | (go_at_call 8; (with_reducible refine (HBg.out _ (HL.out.below (by ((try simp only [← Array.append_assoc]); repeat' first | with_reducible (first | apply Below.refl | assumption | apply bw_a | apply bw_d | apply bw_n | apply bw_e | apply bw_s | apply bw_p | apply bw_c | apply bw_r) | go_size)))).mono ?_); rintro e w1 ⟨rfl, J2, d2, rfl⟩))
      go_ret
      exact ⟨rfl, junk_of_below (by (repeat' first | with_reducible (first | apply Below.refl | assumption | apply bw_a | apply bw_d | apply bw_n | apply bw_p | apply bw_c | apply bw_r) | go_size))⟩
  · rw [decide_eq_false h1] at HBg
    clear h h1
    go_enter Tryz.func6, Tryz.ntmps6
    go_wp2_with (first
      | (go_at_call 5; refine (HKn.out _).mono ?_; rintro e w1 ⟨rfl, J1, d1, rfl⟩)
      | (go_at_call 8; (with_reducible refine (HBg.out _ (HL.out.below (by ((try simp only [← Array.append_assoc]); repeat' first | with_reducible (first | apply Below.refl | assumption | apply bw_a | apply bw_d | apply bw_n | apply bw_e | apply bw_s | apply bw_p | apply bw_c | apply bw_r) | go_size)))).mono ?_); rintro e w1 ⟨rfl, J2, d2, rfl⟩))
    go_ret
    exact ⟨rfl, junk_of_below (by (repeat' first | with_reducible (first | apply Below.refl | assumption | apply bw_a | apply bw_d | apply bw_n | apply bw_p | apply bw_c | apply bw_r) | go_size))⟩
theorem own_rowR {w : World} {base : Nat} {v : Value} {n : Nat} {vs : List Value} (h : w.ownsRow base 28 1 v n vs) (hl : vs.length = n) (h0 : 0 < n) : ∃ g c, v = .slice (some ⟨g, 0, none⟩) n c ∧ base ≤ g ∧ g < w.heap.size ∧ (∀ i, i < n → w.cell? ⟨g, i, none⟩ = some (rgV vs i)) ∧ ∀ j, w.frozen? ⟨g, j, none⟩ = false := by
  obtain ⟨_, h2⟩ := h
  rcases h2 with ⟨rfl, rfl⟩ | ⟨g, cap, cur, rfl, hg, hc, hnc, hcap, hcs, ht⟩
  · omega
  refine ⟨g, cap, rfl, hg, heap_lt hc, fun i hi => ?_, fun j => by simp [World.frozen?, hc]⟩
  rw [Nat.mul_one] at ht
  have e : (cur.toList.take n)[i]? = some (rgV vs i) := by
    rw [ht]
    unfold rgV
    rw [List.getD_eq_getElem?_getD, List.getElem?_eq_getElem (by omega)]; rfl
  rw [List.getElem?_take_of_lt hi] at e
  exact cell_arr hc (by simpa using e)
theorem own_sok {w : World} {base es : Nat} {e : TypeId} {a : Option Addr} {k c : Nat} {xs : List Value} (h : w.ownsRow base e es (.slice a k c) k xs) : SOk a k c := by
  obtain ⟨_, h2⟩ := h
  rcases h2 with ⟨e, rfl⟩ | ⟨g, cap, cur, e, hg, hc, hnc, _⟩
  · injection e with e1 e2 e3
    subst e1 e3
    exact ⟨Nat.le_refl _, fun _ => rfl⟩
  · injection e with e1 e2 e3
    subst e1 e3
    exact ⟨hnc, fun h => by cases h⟩
theorem IxS.base_le {w : World} {base xb : Nat} {L : List (List (List Pt))} {U : Nat → Prop} (h : IxS w base xb L U) : base ≤ w.heap.size := by
  obtain ⟨_, hat, V, ra, rc, sa, sc, fa, fc, hV, hC, _⟩ := h
  have := hat xb (hV xb hC.vx)
  omega
theorem among_junk (a : Option Addr) (n ca : Nat) (xs : List Int) (z : Int) (hn : n ≤ 1000) (w : World) (hx : Reads w a n xs) : Calls Tryz.prog 26 #[.slice a n ca, .int .i64 z] w fun e w' => e = .returned (.bool (decide (z ∈ xs))) ∧ Junk w w' :=
  by
  refine (l_ixAmong a n ca xs z w hx (by omega)).mono ?_
  rintro e w' ⟨rfl, rfl⟩
  exact ⟨rfl, #[], _, (plus_nil _).symm⟩
set_option maxRecDepth 100000 in
set_option maxHeartbeats 8000000 in
theorem near_in (w : World) (a : Option Addr) (n ca : Nat) (L : List (List (List Pt))) (hL : LRC w a n ca L) (hs : n ≤ 4611686018427387903) (hl : ∀ R ∈ L, R.length ≤ 4611686018427387903 ∧ ∀ K ∈ R, K.length ≤ 8796093022208) (px py : Int)
    (ta : Option Addr) (tn tc : Nat) (Z : List Int) (hT : Reads w ta tn Z) (hsm : smallL L) (hn : n ≤ 20) (htn : tn ≤ 60) :
    Calls Tryz.prog 6 #[.slice a n ca, pt px py, .slice ta tn tc] w fun e w' => e = .returned (.bool true) ∧ Junk w w' := by
  have HKn := Lib.hid l_indexKnown
  have HBg := Lib.hid (fun (W : World) (h : LRC W a n ca L) => l_ixBig W a n ca L h hs hl)
  rw [decide_eq_true hsm] at HBg
  have HL := Lib.hid hL
  have HT := Lib.hid hT
  have hln := hL.len
  have L1 := Lib.hid hln
  obtain ⟨h70, hsl, _⟩ := hsm
  have hk : ∀ R ∈ L, R.length ≤ 1000 ∧ ∀ K ∈ R, K.length ≤ 100000 := fun R hR => by
    obtain ⟨j, hj, e⟩ := List.mem_iff_getElem.1 hR
    have := hsl j hj
    rw [List.getD_eq_getElem?_getD, List.getElem?_eq_getElem hj, Option.getD_some, e] at this
    exact ⟨by omega, fun K hK => by have := ring_leR hK; omega⟩
  have HKl := Lib.hid hk
  have i1 : ¬ (n : Int) > 20 := by omega
  have i2 : ¬ (tn : Int) > 60 := by omega
  unfold pt
  by_cases hck : (checkX L).1 = 0
  rotate_left
  · have HBd := Lib.hid (fun (W : World) (h : LRC W a n ca L) => i_bad W a n ca L h (by omega) hk hck)
    obtain ⟨⟨ce, ct⟩, hce⟩ : ∃ q, checkX L = q := ⟨_, rfl⟩
    rw [hce] at HBd hck
    unfold fltV at HBd
    simp only at HBd hck
    have e1 : (ce != 0) = true := by simpa using hck
    clear hL hl hk hsl hT hck hce hs
    go_enter Tryz.func6, Tryz.ntmps6
    go_wp2_with (first
      | (go_at_call 5; refine (HKn.out _).mono ?_; rintro e w1 ⟨rfl, J1, d1, rfl⟩)
      | (go_at_call 8; (with_reducible refine (HBg.out _ (HL.out.below (by ((try simp only [← Array.append_assoc]); repeat' first | with_reducible (first | apply Below.refl | assumption | apply bw_a | apply bw_d | apply bw_n | apply bw_e | apply bw_s | apply bw_p | apply bw_c | apply bw_r) | go_size)))).mono ?_); rintro e w1 ⟨rfl, J2, d2, rfl⟩)
      | (go_at_call 11; (with_reducible refine (HBd.out _ (HL.out.below (by ((try simp only [← Array.append_assoc]); repeat' first | with_reducible (first | apply Below.refl | assumption | apply bw_a | apply bw_d | apply bw_n | apply bw_e | apply bw_s | apply bw_p | apply bw_c | apply bw_r) | go_size)))).mono ?_); rintro e w1 ⟨rfl, J3, d3, rfl⟩))
    go_ret
    exact ⟨rfl, junk_of_below (by (repeat' first | with_reducible (first | apply Below.refl | assumption | apply bw_a | apply bw_d | apply bw_n | apply bw_p | apply bw_c | apply bw_r) | go_size))⟩
  obtain ⟨h64, hfi⟩ := checkX_fine.1 hck
  have HFi := Lib.hid hfi
  have HBd := Lib.hid (fun (W : World) (h : LRC W a n ca L) => i_build W a n ca L h hck)
  obtain ⟨Z0, hmk, hZ0⟩ := made_ints n (by omega)
  have HZ0 := Lib.hid hZ0
  clear hL hl hk hsl hT hck hs hZ0 h64 hfi
  go_enter Tryz.func6, Tryz.ntmps6
  go_upto_region 7 with (first
    | (go_at_call 5; refine (HKn.out _).mono ?_; rintro e w1 ⟨rfl, J1, d1, rfl⟩)
    | (go_at_call 8; (with_reducible refine (HBg.out _ (HL.out.below (by ((try simp only [← Array.append_assoc]); repeat' first | with_reducible (first | apply Below.refl | assumption | apply bw_a | apply bw_d | apply bw_n | apply bw_e | apply bw_s | apply bw_p | apply bw_c | apply bw_r) | go_size)))).mono ?_); rintro e w1 ⟨rfl, J2, d2, rfl⟩)
    | (go_at_call 11; (with_reducible refine (HBd.out _ (HL.out.below (by ((try simp only [← Array.append_assoc]); repeat' first | with_reducible (first | apply Below.refl | assumption | apply bw_a | apply bw_d | apply bw_n | apply bw_e | apply bw_s | apply bw_p | apply bw_c | apply bw_r) | go_size)))).mono ?_); rintro e w1 ⟨⟨xb, U, rfl, hx⟩, J3, d3, rfl⟩; (try simp only [plus_plus, Array.append_assoc] at hx); have HX := Lib.hid hx; clear hx))
  obtain ⟨W, hW⟩ : ∃ W, ((w.alloc (.cells #[.int .i64 px, .int .i64 py] 42)).plus (J1 ++ (J2 ++ J3)) d3).alloc (.cells #[.int .i64 0, .int .i64 0] 33) = W := ⟨_, rfl⟩
  have hj : Below w.heap.size w W := by rw [← hW]; ((try simp only [← Array.append_assoc]); repeat' first | with_reducible (first | apply Below.refl | assumption | apply bw_a | apply bw_d | apply bw_n | apply bw_e | apply bw_s | apply bw_p | apply bw_c | apply bw_r) | go_size)
  obtain ⟨Bx, hBx, hBlt⟩ : ∃ Bx, IxS W Bx xb L U ∧ w.heap.size < Bx := ⟨_, by rw [← hW]; exact HX.out.below (by ((try simp only [← Array.append_assoc]); repeat' first | with_reducible (first | apply Below.refl | assumption | apply bw_a | apply bw_d | apply bw_n | apply bw_e | apply bw_s | apply bw_p | apply bw_c | apply bw_r) | go_size)), by simp; omega⟩
  have p0 : W.cell? ⟨w.heap.size, 0, none⟩ = some (.int .i64 px) := by rw [← hW]; simp [go_sem]
  have p1 : W.cell? ⟨w.heap.size, 1, none⟩ = some (.int .i64 py) := by rw [← hW]; simp [go_sem]
  have HJ := Lib.hid hj
  have HLW := Lib.hid (HL.out.below hj)
  have HTW := Lib.hid (HT.out.below hj)
  have HXW := Lib.hid hBx
  have HXu := Lib.hid (fun k (h : U k) => (hBx.at k h).2)
  obtain ⟨b0, hb0⟩ : ∃ b, w.heap.size = b := ⟨_, rfl⟩
  rw [hW, hb0]
  rw [hb0] at p0 p1 hBlt
  have HBl := Lib.hid hBlt
  have l0 := World.block_lt_of_cell? _ _ p0
  have HP0 := Lib.hid p0
  have HP1 := Lib.hid p1
  have Hb0 := Lib.hid hb0
  clear hW hj hBx hBlt hb0 HX HT HKn HBg HBd p0 p1
  go_upto_region 9 with (at_builtin; refine wpList_lcopy rfl (.tmp 47) (.tmp 48) rfl rfl a n ca L rfl HLW.out (by omega) ?_; intro v' w' vs hown hvl hve hbe; obtain ⟨ma, mc, rfl⟩ := own_slice hown; have HOw := Lib.hid hown; have HVl := Lib.hid hvl; have HVe := Lib.hid hve; have HBe := Lib.hid hbe; have hsz1 := hbe.size; clear hown hvl hve hbe)
  obtain ⟨W1, hW1⟩ : ∃ W1, w'.alloc (Obj.cells Z0 3) = W1 := ⟨_, rfl⟩
  obtain ⟨ga, hga⟩ : ∃ g, w'.heap.size = g := ⟨_, rfl⟩
  have hb1 : Below w'.heap.size w' W1 := by rw [← hW1]; ((try simp only [← Array.append_assoc]); repeat' first | with_reducible (first | apply Below.refl | assumption | apply bw_a | apply bw_d | apply bw_n | apply bw_e | apply bw_s | apply bw_p | apply bw_c | apply bw_r) | go_size)
  have hbk : Blk W1 ga Z0 3 := by rw [← hW1, ← hga]; exact Blk.new w' Z0 3
  have ha1 : (∀ j, j < n → W1.cell? ⟨ga, j, none⟩ = some (.int .i64 (if j < 0 then (j : Int) else 0))) ∧ ∀ j, W1.frozen? ⟨ga, j, none⟩ = false :=
    ⟨fun j hj => by rw [hbk.cell, if_neg (by omega)]; exact HZ0.out j hj, hbk.frozen⟩
  have hm : ∃ gm, W.heap.size ≤ gm ∧ (0 < n → ma = some ⟨gm, 0, none⟩ ∧ gm ≠ ga ∧ gm < W1.heap.size ∧ (∀ i, i < n → W1.cell? ⟨gm, i, none⟩ = some (rgV vs i)) ∧ ∀ j, W1.frozen? ⟨gm, j, none⟩ = false) := by
    by_cases h0 : 0 < n
    · obtain ⟨g, c, e, h1, h2, h3, h4⟩ := own_rowR HOw.out HVl.out h0
      injection e with e _ _
      have k := hb1.block g h2
      exact ⟨g, h1, fun _ => ⟨e, by omega, Nat.lt_of_lt_of_le h2 hb1.size, fun i hi => (World.cell?_of_block (a := ⟨g, i, none⟩) k).trans (h3 i hi), fun j => (frozen_of_block k).trans (h4 _)⟩⟩
    · exact ⟨W.heap.size, Nat.le_refl _, fun h => absurd h h0⟩
  obtain ⟨gm, hm1, hm2⟩ := hm
  have hs1 : ga < W1.heap.size := by rw [← hga, ← hW1]; simp
  have hs2 : W.heap.size ≤ ga := by rw [← hga]; exact HBe.out.size
  have HM1 := Lib.hid hm1
  have HM2 := Lib.hid hm2
  have HS1 := Lib.hid hs1
  have HS2 := Lib.hid hs2
  have HA1 := Lib.hid ha1
  have HB1 := Lib.hid (HBe.out.trans (hb1.mono HBe.out.size))
  have HOk := Lib.hid (own_sok HOw.out)
  rw [hW1, hga]
  clear hW1 hga hb1 ha1 hbk hm1 hm2 hs1 hs2 hmk HZ0 HOw HBe hsz1
  go_wp2_with fail
  go_loopw [12] (fun x wr => TuA W1 ga n x wr) (fun x _ => n - (intOf x).toNat)
  case atStart => exact ⟨0, rfl, Nat.zero_le _, Kept2.refl _ _ _, HA1.out⟩
  case round =>
    obtain ⟨k, rfl, hk, hK, hc⟩ := hrel
    have HKp := Lib.hid hK
    have HCe := Lib.hid hc
    by_cases hlt : k < n
    · have c1 := hc.1 k hlt
      have f1 := hc.2 k
      rw [if_neg (Nat.lt_irrefl _)] at c1
      have l1 := World.block_lt_of_cell? _ _ c1
      have i3 : (k : Int) < (n : Int) := by omega
      have i4 : ¬ (k : Int) ≥ (n : Int) := by omega
      clear hK hc
      go_wp2_with fail
      go_roundw
      case rel =>
        have h := tua_next hlt HKp.out HCe.out
        have e : ((k + 1 : Nat) : Int) = (k : Int) + 1 := by omega
        rw [e] at h
        exact h
      case measure => simp [intOf]; omega
    · obtain rfl : n = k := by omega
      have i3 : ¬ (n : Int) < (n : Int) := by omega
      have h1 : Below W.heap.size W wr := HB1.out.trans (HKp.out.below HS2.out HS2.out HB1.out.size)
      have HS0 := Lib.hid (show TuX wr gm ga n vs (List.range n) wr from
        ⟨List.Perm.refl _, fun k hk => by
            obtain ⟨_, q1, q2, q3, _⟩ := HM2.out (by omega)
            rw [range_get hk]
            exact (World.cell?_of_block (a := ⟨gm, k, none⟩) (HKp.out.blk gm q2 q1 q1)).trans (q3 k hk), fun k hk => by
            have := HCe.out.1 k hk
            rw [if_pos hk] at this
            rw [range_get hk]; exact this, fun j h0 => by
            obtain ⟨_, q1, q2, _, q4⟩ := HM2.out (by omega)
            exact (frozen_of_block (HKp.out.blk gm q2 q1 q1)).trans (q4 j), fun j _ => HCe.out.2 j, fun h0 => by
            obtain ⟨_, q1, q2, _, q4⟩ := HM2.out (by omega)
            have := HKp.out.size
            have := HS1.out
            omega, Kept2.refl _ _ _⟩)
      have HJ2 := Lib.hid h1
      have HNe := Lib.hid (fun h0 => (HM2.out h0).2.1)
      have HMa := Lib.hid (fun h0 => (HM2.out h0).1)
      have hsz := HB1.out.size
      have HGa := Lib.hid HS2.out
      have HGm := Lib.hid HM1.out
      obtain ⟨W2, rfl⟩ : ∃ W2, W2 = wr := ⟨_, rfl⟩
      clear hK hc HKp HCe HM1 HM2 HS1 HS2 HA1 HB1 hk hlt h1 hsz
      go_upto_block 2 with fail
      go_cut [13, 14, 15] from 63 to 112 (fun _ _ _ wx => ∃ A, TuX W2 gm ga n vs A wx)
      case first =>
        go_wp2_with fail
        go_loopw [13] (fun x wr => TuXB W2 gm ga n tn vs x wr) (fun x _ => tn - (intOf x).toNat)
        case atStart => exact ⟨0, _, rfl, Nat.zero_le _, HS0.out⟩
        case round =>
          obtain ⟨i, A, rfl, hi, hS⟩ := hrel
          have HSt := Lib.hid hS
          by_cases hlt : i < tn ∧ 0 < n
          · obtain ⟨hlt, h0⟩ := hlt
            have hma := HMa.out h0
            subst hma
            obtain ⟨bz, oz, ez, cz, lz, bz1, bz2⟩ := ireads_at HTW.out (k := i) hlt
            subst ez
            have kz : wr.heap[bz]? = W.heap[bz]? := (hS.kp.blk bz (Nat.lt_of_lt_of_le lz HJ2.out.size) (by have := HGm.out; omega) (by have := HGa.out; omega)).trans (HJ2.out.block bz lz)
            replace cz := (World.cell?_of_block (a := ⟨bz, _, none⟩) kz).trans cz
            have lz2 := World.block_lt_of_cell? _ _ cz
            obtain ⟨q, hq, hpk⟩ := pick_at n h0 (by omega) (Z.getD i 0) ⟨bz1, bz2⟩
            obtain ⟨p, hp⟩ : ∃ p : Nat, i % n = p := ⟨_, rfl⟩
            have hpn : p < n := by rw [← hp]; exact Nat.mod_lt _ h0
            have e1 : (i : Int).tmod (n : Int) = (p : Int) := by rw [← hp]; exact (Int.ofNat_tmod i n).symm
            have e2 : ¬ n = 0 := by omega
            have i3 : (i : Int) < (tn : Int) := by omega
            have i4 : (n : Int) > 0 := by omega
            have i5 : (0 : Int) < (n : Int) := by omega
            have HPk := Lib.hid hpk
            have Hhq := Lib.hid hq
            have Hhp := Lib.hid hpn
            obtain ⟨z, hz⟩ : ∃ z, Z.getD i 0 = z := ⟨_, rfl⟩
            rw [hz] at cz bz1 bz2 HPk
            clear hS kz hpk hp hq hpn hz
            go_upto_region 16 with fail
            refine region_quiet_all (C := Cls wr) (by kernel_rfl) (by kernel_rfl) (by first | exact cls_drawn _ | exact ⟨#[], _, (plus_nil _).symm⟩) ?_
            repeat (first | (refine qw_skip (by rfl) ?_; simp only [Act.put, List.setIfInBounds_toArray, List.set_cons_succ, List.set_cons_zero]) | (refine qw_want (by rfl) (fun K hK => ?_); go_simp; first | (refine hK _ ?_; clear hK K) | (apply Exists.intro; refine ⟨?_, hK _ ?_⟩; (rintro w3_ ⟨J3_, d3_, rfl⟩; first | (with_reducible exact rfl) | (go_simp; with_reducible exact rfl) | (go_simp; (first | (with_reducible refine (HPk.out _).mono ?_)); rintro e_ w_ ⟨rfl, J4_, d4_, rfl⟩; exact ⟨rfl, J3_ ++ J4_, d4_, by simp only [plus_plus, Array.append_assoc]⟩)); clear hK K)))
            refine qw_nil ?_
            rintro w3 ⟨J5, d5, rfl⟩
            go_upto_region 17 with fail
            have HS3 := Lib.hid (HSt.out.keep (Junk.below ⟨J5, d5, rfl⟩ : Below wr.heap.size wr (wr.plus J5 d5)))
            obtain ⟨w4, hw4⟩ : ∃ w4, wr.plus J5 d5 = w4 := ⟨_, rfl⟩
            rw [hw4] at HS3 ⊢
            clear hw4 cz e1 e2 lz2 bz1 bz2 HPk HSt
            have hAm : ∀ k, k < n → A.getD k 0 < n := fun k hk => by
              have := HS3.out.pm.mem_iff.1 (getD_memN (l := A) (k := k) (by rw [HS3.out.len]; exact hk))
              rw [List.mem_range] at this
              exact this
            obtain ⟨x1, x2, x3, hx1, _⟩ := HVe.out _ (hAm p Hhp.out)
            obtain ⟨y1, y2, y3, hy1, _⟩ := HVe.out _ (hAm q Hhq.out)
            have hx : rgV vs (A.getD p 0) = .slice x1 x2 x3 := by unfold rgV; rw [List.getD_eq_getElem?_getD, hx1]; rfl
            have hy : rgV vs (A.getD q 0) = .slice y1 y2 y3 := by unfold rgV; rw [List.getD_eq_getElem?_getD, hy1]; rfl
            obtain ⟨A1, hA1⟩ : ∃ x, A.getD p 0 = x := ⟨_, rfl⟩
            obtain ⟨A2, hA2⟩ : ∃ x, A.getD q 0 = x := ⟨_, rfl⟩
            have heq : p = q → (Value.slice y1 y2 y3) = .slice x1 x2 x3 ∧ A2 = A1 := fun e => by rw [← hx, ← hy, ← hA1, ← hA2, e]; exact ⟨rfl, rfl⟩
            have HEq := Lib.hid heq
            have htn := HS3.out.turn Hhp.out Hhq.out (HNe.out h0)
            have hbp := HS3.out.bx p Hhp.out
            have hbq := HS3.out.bx q Hhq.out
            have hap := HS3.out.ax p Hhp.out
            have haq := HS3.out.ax q Hhq.out
            rw [hx] at hbp
            rw [hy] at hbq
            rw [hx, hy, hA1, hA2] at htn
            rw [hA1] at hap
            rw [hA2] at haq
            unfold plV at hap haq htn
            have HTn := Lib.hid htn
            have fm := fun j => HS3.out.fm j h0
            have fa := fun j => HS3.out.fa j h0
            have ne1 : gm ≠ ga := HNe.out h0
            have ne2 : ga ≠ gm := fun e => ne1 e.symm
            have g1 : ¬ (p : Int) ≥ (n : Int) := by have := Hhp.out; omega
            have g2 : (p : Int) < (n : Int) := by have := Hhp.out; omega
            have g3 : ¬ (q : Int) ≥ (n : Int) := by have := Hhq.out; omega
            have g4 : (q : Int) < (n : Int) := by have := Hhq.out; omega
            clear hx hy hA1 hA2 htn heq hx1 hy1 hAm
            by_cases hpq : p = q
            · obtain ⟨e1, rfl⟩ := HEq.out hpq
              injection e1 with e1 e2 e3
              subst hpq e1 e2 e3
              go_region
              go_upto_region 18 with fail
              go_region
              go_wp2_with fail
              go_roundw
              case rel => exact ⟨i + 1, _, by go_num, by omega, HTn.out.keep ((Below.refl _ _).drew.drew)⟩
              case measure => simp [intOf]; omega
            · go_region
              go_upto_region 18 with fail
              go_region
              go_wp2_with fail
              go_roundw
              case rel => exact ⟨i + 1, _, by go_num, by omega, HTn.out.keep ((Below.refl _ _).drew.drew)⟩
              case measure => simp [intOf]; omega
          · by_cases hit : i < tn
            · obtain rfl : n = 0 := by omega
              have i3 : (i : Int) < (tn : Int) := by omega
              go_wp2_with fail
              go_meet
              exact ⟨A, HSt.out⟩
            · have i3 : ¬ (i : Int) < (tn : Int) := by omega
              go_wp2_with fail
              go_meet
              exact ⟨A, HSt.out⟩
      case rest =>
      obtain ⟨A, hS⟩ := hcut
      have hAl := hS.len
      have hJw : Below W.heap.size W wc := HJ2.out.trans (hS.kp.below HGm.out HGa.out HJ2.out.size)
      have hAm : ∀ k, k < n → A.getD k 0 < n := fun k hk => by
        have := hS.pm.mem_iff.1 (getD_memN (l := A) (k := k) (by omega))
        rw [List.mem_range] at this
        exact this
      have hMg : ∀ k, k < n → (A.map fun j => L.getD j []).getD k [] = L.getD (A.getD k 0) [] := fun k hk => by
        rw [List.getD_eq_getElem?_getD, List.getElem?_map, List.getElem?_eq_getElem (by omega), List.getD_eq_getElem?_getD (l := A), List.getElem?_eq_getElem (by omega)]; rfl
      have hMl : (A.map fun j => L.getD j []).length = n := by rw [List.length_map]; exact hAl
      have hXM : LRC wc ma n mc (A.map fun j => L.getD j []) := by
        refine ⟨hMl, HOk.out, ?_⟩
        by_cases h0 : n = 0
        · exact .inl h0
        · refine .inr ⟨gm, 0, HMa.out (by omega), fun k hk => ?_⟩
          obtain ⟨x, m, c, e1, e2⟩ := HVe.out _ (hAm k hk)
          refine ⟨x, m, c, ?_, ?_⟩
          · rw [Nat.zero_add, hS.bx k hk]
            unfold rgV
            rw [List.getD_eq_getElem?_getD, e1]; rfl
          · rw [hMg k hk]; exact e2.below hJw
      have hckM : (checkX (A.map fun j => L.getD j [])).1 = 0 := checkX_fine.2 ⟨by rw [hMl]; omega, fun j hj => by
        rw [hMl] at hj
        rw [hMg j hj]
        exact HFi.out _ (by rw [L1.out]; exact hAm j hj)⟩
      have hpl : ∀ k, k < n → wc.cell? ⟨ga, k, none⟩ = some (.int .i64 ((A.getD k 0 : Nat) : Int)) ∧ ga < wc.heap.size := fun k hk => ⟨hS.ax k hk, (hS.lm (by omega)).2⟩
      obtain ⟨M, hM⟩ : ∃ M, (A.map fun j => L.getD j []) = M := ⟨_, rfl⟩
      rw [hM] at hXM hckM hMl
      have hMg2 : ∀ k, k < n → M.getD k [] = L.getD (A.getD k 0) [] := fun k hk => by rw [← hM]; exact hMg k hk
      have HBd2 := Lib.hid (fun (W : World) (h : LRC W ma n mc M) => i_build W ma n mc M h hckM)
      have HXM := Lib.hid hXM
      have HJw := Lib.hid hJw
      have HBc := Lib.hid (show b0 < wc.heap.size from Nat.lt_of_lt_of_le l0 hJw.size)
      have HPl := Lib.hid hpl
      have HMg := Lib.hid hMg2
      have HMl := Lib.hid hMl
      have HAm := Lib.hid hAm
      obtain ⟨Wc, rfl⟩ : ∃ Wc, Wc = wc := ⟨_, rfl⟩
      clear hAl hJw hAm hMg hMl hXM hckM hpl hM hMg2 hS HS0 HOk HMa HNe HVe HTW
      go_upto_region 22 with (go_at_call 11; (with_reducible refine (HBd2.out _ HXM.out).mono ?_); rintro e w1 ⟨⟨yb, U2, rfl, hy⟩, J7, d7, rfl⟩; have HY := Lib.hid hy; clear hy)
      obtain ⟨W4, hW4⟩ : ∃ W4, (Wc.plus J7 d7).alloc (.cells #[.int .i64 0, .int .i64 0] 33) = W4 := ⟨_, rfl⟩
      have hb4 : Below Wc.heap.size Wc W4 := by rw [← hW4]; ((try simp only [← Array.append_assoc]); repeat' first | with_reducible (first | apply Below.refl | assumption | apply bw_a | apply bw_d | apply bw_n | apply bw_e | apply bw_s | apply bw_p | apply bw_c | apply bw_r) | go_size)
      have hX4 := (HXW.out.below HJw.out).below hb4
      have HX4 := Lib.hid hX4
      have HY4 := Lib.hid (show IxS W4 Wc.heap.size yb M U2 by rw [← hW4]; exact HY.out.below (by ((try simp only [← Array.append_assoc]); repeat' first | with_reducible (first | apply Below.refl | assumption | apply bw_a | apply bw_d | apply bw_n | apply bw_e | apply bw_s | apply bw_p | apply bw_c | apply bw_r) | go_size)))
      have HDj := Lib.hid (show ∀ k, U k → ¬ U2 k from fun k h1 h2 => by
        have := (HXW.out.at k h1).2
        have := (HY.out.at k h2).1
        have := HJw.out.size
        omega)
      have HJ4 := Lib.hid (HJw.out.trans (hb4.mono HJw.out.size))
      have lb : b0 < W.heap.size := l0
      have q0 := (World.cell?_of_block (a := ⟨b0, 0, none⟩) (HJ4.out.block b0 lb)).trans HP0.out
      have q1 := (World.cell?_of_block (a := ⟨b0, 1, none⟩) (HJ4.out.block b0 lb)).trans HP1.out
      have lb4 := World.block_lt_of_cell? _ _ q0
      have HPl4 := Lib.hid (fun k (hk : k < n) => (World.cell?_of_block (a := ⟨ga, k, none⟩) (hb4.block ga (HPl.out k hk).2)).trans (HPl.out k hk).1)
      have HC4 := Lib.hid hb4.size
      rw [hW4]
      clear hW4 hb4 hX4 HY HBd2 HXM HP0 HP1 HXW
      have HA1 := Lib.hid (fun (W : World) B xb U (h : IxS W B xb L U) => i_at h px py)
      have HN1 := Lib.hid (fun (W : World) B xb U (h : IxS W B xb L U) => i_near h px py)
      have hHb : ∀ i ∈ hasR (px, py) L, i < 1000000 := fun i hi => by have := hasR_lt hi; rw [L1.out] at this; omega
      have hNb : ∀ i ∈ nearR (px, py) L, i < 1000000 := fun i hi => by have := nearR_lt hi; rw [L1.out] at this; omega
      have hHl : (hasR (px, py) L).length ≤ 1000 := by
        have := List.length_filter_le (fun i => regQ (px, py) (L.getD i [])) (List.range L.length)
        rw [List.length_range, L1.out] at this
        refine Nat.le_trans (show (hasR (px, py) L).length ≤ n from ?_) (by omega)
        unfold hasR
        rw [L1.out]
        exact this
      have hNl : (nearR (px, py) L).length ≤ 1000 := by have := near_len (L := L) (px, py); rw [L1.out] at this; omega
      have HZ1 := Lib.hid (fun z => in_hasR (p := (px, py)) (L := L) (z := z))
      have HZ2 := Lib.hid (fun (k : Nat) (hk : k < L.length) (h : regQ (px, py) (L.getD k []) = true) => show decide ((k : Int) ∈ nums (nearR (px, py) L)) = true from by
        rw [decide_eq_true_eq, nums_memN]
        refine ⟨k, ?_, rfl⟩
        unfold nearR
        rw [List.mem_filter, List.mem_range]
        exact ⟨hk, has_near HFi.out (px, py) hk h⟩)
      generalize hasR (px, py) L = H at *
      generalize nearR (px, py) L = N at *
      have HHb := Lib.hid hHb
      have HNb := Lib.hid hNb
      obtain ⟨sa, hsa⟩ : ∃ s, H.length = s := ⟨_, rfl⟩
      obtain ⟨sn, hsn⟩ : ∃ s, N.length = s := ⟨_, rfl⟩
      have HSA := Lib.hid hsa
      have HSN := Lib.hid hsn
      rw [hsa] at hHl
      rw [hsn] at hNl
      clear hHb hNb hsa hsn
      unfold pt at HA1 HN1
      go_region_held3 (fun w' => w'.cell? ⟨b0, 0, none⟩ = some (.int .i64 px) ∧ w'.cell? ⟨b0, 1, none⟩ = some (.int .i64 py)) (first | (refine ⟨?_, ?_⟩ <;> (simp [go_sem, *]; done))) (first
        | (go_simp; go_at_call 15; (refine (HA1.out _ Bx xb U (HX4.out.below (by ((try simp only [← Array.append_assoc]); repeat' first | with_reducible (first | apply Below.refl | assumption | apply bw_a | apply bw_d | apply bw_n | apply bw_e | apply bw_s | apply bw_p | apply bw_c | apply bw_r) | go_size)))).mono ?_); rintro e w3 ⟨⟨v, U1, rfl, ho, hx, hu, hg⟩, hk⟩; obtain ⟨gh, ch, rfl⟩ := own_slice ho; have HOh := Lib.hid ho; have HX3 := Lib.hid hx; have HU3 := Lib.hid hu; have HG3 := Lib.hid hg; have HK3 := Lib.hid hk; have t0 : w3.cell? ⟨b0, 0, none⟩ = some (.int .i64 px) := (World.cell?_of_block (a := ⟨b0, 0, none⟩) (hk.low.block b0 HBl.out)).trans (by first | exact q0 | (simp [go_sem]; exact q0)); have t1 : w3.cell? ⟨b0, 1, none⟩ = some (.int .i64 py) := (World.cell?_of_block (a := ⟨b0, 1, none⟩) (hk.low.block b0 HBl.out)).trans (by first | exact q1 | (simp [go_sem]; exact q1)); have l3 : b0 < w3.heap.size := World.block_lt_of_cell? _ _ t0; clear ho hx hu hg hk; go_simp)
        | (go_simp; go_at_call 16; (refine (HN1.out _ Bx xb U1 (HX3.out.below (by ((try simp only [← Array.append_assoc]); repeat' first | with_reducible (first | apply Below.refl | assumption | apply bw_a | apply bw_d | apply bw_n | apply bw_e | apply bw_s | apply bw_p | apply bw_c | apply bw_r) | go_size)))).mono ?_); rintro e w5 ⟨⟨v, rfl, ho⟩, J8, d8, rfl⟩; obtain ⟨gn, cn, rfl⟩ := own_slice ho; have HOn := Lib.hid ho; clear ho; (try go_simp)))
      obtain ⟨W22, hW22⟩ : ∃ W22, w3.plus J8 d8 = W22 := ⟨_, rfl⟩
      have hb22 : Below w3.heap.size w3 W22 := by rw [← hW22]; exact Junk.below ⟨_, _, rfl⟩
      have hK22 : KeptU U Bx W4 W22 := ⟨((Below.refl _ W4).drew.trans HK3.out.low).trans (hb22.mono (by have := (HX3.out.each); obtain ⟨_, _, V, ra, rc, sa', sc, fa, fc, hV, hC, _⟩ := HX3.out; have := HX3.out.at _ (hV _ hC.vx); omega)), fun k hk hn => (hb22.block k (Nat.lt_of_lt_of_le hk HK3.out.low.size)).trans (HK3.out.keep k hk hn)⟩
      have HK22 := Lib.hid hK22
      have HX22 := Lib.hid (HX3.out.below hb22)
      have HY22 := Lib.hid (HY4.out.keep fun k hu => HK22.out.keep k (HY4.out.at k hu).2 fun h => HDj.out k h hu)
      have HD22 := Lib.hid (show ∀ k, U1 k → ¬ U2 k from fun k h1 h2 => by
        rcases HU3.out k h1 with e | e
        · exact HDj.out k e h2
        · have h3 : W4.heap.size ≤ k := e.1
          have := (HY4.out.at k h2).2
          omega)
      have hs3 : W4.heap.size ≤ w3.heap.size := HK3.out.low.size
      have hs22 := hb22.size
      have HRh := Lib.hid (show Reads W22 gh sa (nums H) by
        have h := HOh.out
        unfold IOwn at h
        rw [HSA.out] at h
        exact (reads_own h HSA.out HHb.out).below hb22)
      have HKh := Lib.hid (show ∀ b o, gh = some ⟨b, o, none⟩ → b < W22.heap.size ∧ ¬ U1 b ∧ ¬ U2 b from fun b o e => by
        obtain ⟨_, hr⟩ := HOh.out
        rcases hr with ⟨e2, _⟩ | ⟨g, cap, cur, e2, h1, h2, _⟩
        · injection e2 with e2; rw [e] at e2; cases e2
        · have e3 := e2
          injection e3 with e3
          rw [e] at e3
          injection e3 with e3
          injection e3 with e3
          subst e3
          have h1 : W4.heap.size ≤ b := h1
          have := heap_lt h2
          exact ⟨by omega, HG3.out b _ _ e2, fun h => by have := (HY4.out.at b h).2; omega⟩)
      have HRn := Lib.hid (show Reads W22 gn sn (nums N) by
        have h := HOn.out
        unfold IOwn at h
        rw [HSN.out, hW22] at h
        exact reads_own h HSN.out HNb.out)
      have HKn := Lib.hid (show ∀ b o, gn = some ⟨b, o, none⟩ → b < W22.heap.size ∧ ¬ U1 b ∧ ¬ U2 b from fun b o e => by
        have h := HOn.out
        rw [hW22] at h
        obtain ⟨_, hr⟩ := h
        rcases hr with ⟨e2, _⟩ | ⟨g, cap, cur, e2, h1, h2, _⟩
        · injection e2 with e2; rw [e] at e2; cases e2
        · have e3 := e2
          injection e3 with e3
          rw [e] at e3
          injection e3 with e3
          injection e3 with e3
          subst e3
          have h1 : w3.heap.size ≤ b := h1
          have := heap_lt h2
          exact ⟨by omega, fun h => by have := (HX3.out.at b h).2; omega, fun h => by have := (HY4.out.at b h).2; omega⟩)
      have HPl22 := Lib.hid (show ∀ k, k < n → W22.cell? ⟨ga, k, none⟩ = some (.int .i64 ((A.getD k 0 : Nat) : Int)) ∧ ga < W22.heap.size ∧ ¬ U1 ga ∧ ¬ U2 ga from fun k hk => by
        have h4 := HPl4.out k hk
        have l4 : ga < W4.heap.size := World.block_lt_of_cell? _ _ h4
        have lc := (HPl.out k hk).2
        have nU : ¬ U ga := fun h => by have := (HXu.out ga h); have := HGa.out; omega
        refine ⟨(World.cell?_of_block (a := ⟨ga, k, none⟩) (HK22.out.keep ga l4 nU)).trans h4, by omega, fun h => ?_, fun h => by have := (HY4.out.at ga h).1; omega⟩
        rcases HU3.out ga h with e | e
        · exact nU e
        · have h3 : W4.heap.size ≤ ga := e.1
          omega)
      have s0 := (World.cell?_of_block (a := ⟨b0, 0, none⟩) (hb22.block b0 l3)).trans t0
      have s1 := (World.cell?_of_block (a := ⟨b0, 1, none⟩) (hb22.block b0 l3)).trans t1
      have HJ22 := Lib.hid (show Below w.heap.size w W22 from (HJ.out.trans (HJ4.out.mono HJ.out.size)).trans (HK22.out.low.mono (by have := Hb0.out; have := HBl.out; omega)))
      have HL22 := Lib.hid (HL.out.below HJ22.out)
      have HS0 := Lib.hid s0
      have HS1 := Lib.hid s1
      have hBw : w.heap.size ≤ Bx := by have := Hb0.out; have := HBl.out; omega
      have l22 : b0 < W22.heap.size := World.block_lt_of_cell? _ _ s0
      rw [hW22]
      (try simp only [HSA.out, HSN.out])
      clear hW22 hb22 hK22 HOh HOn HX3 HG3 HK3 HU3 HX4 HY4 HDj HJ4 HPl4 HPl HK22 t0 t1 s0 s1 l3 lb lb4 q0 q1 HA1 HN1 hs3 hs22 HJw HJ2 HC4
      go_wp2_with fail
      go_loopw [20] (fun x wr => YnAt W22 Bx xb n L U1 x wr) (fun x _ => n - (intOf x).toNat)
      case atStart => exact ⟨0, U1, rfl, Nat.zero_le _, HX22.out, UGrow.refl _ _ _, KeptU.refl _ _ _⟩
      case round =>
        obtain ⟨k, U', rfl, hk, hx, hu, hkp⟩ := hrel
        by_cases hlt : k < n
        · obtain ⟨b, o, x, m, c, rfl, p1, hg, hb⟩ := HL22.out.at hlt
          have hkL : k < L.length := by rw [L1.out]; exact hlt
          have lb : b < W22.heap.size := hb
          have hz := HZ1.out (k : Int)
          rw [Int.toNat_natCast, decide_eq_true (show (0 : Int) ≤ (k : Int) ∧ (k : Int) < (L.length : Int) from ⟨by omega, by omega⟩), Bool.true_and] at hz
          have hz2 := HZ2.out k hkL
          have hkm := HKl.out _ (mem_getD hkL)
          have hm := hg.len
          have HI1 := Lib.hid (fun (W : World) U (h : IxS W Bx xb L U) => show Calls Tryz.prog 20 #[.pointer (some ⟨xb, 0, none⟩), .int .i64 (k : Int), .agg #[.int .i64 px, .int .i64 py]] W fun e w' => (∃ U', e = .returned (.tuple #[.bool (regQ (px, py) (L.getD k [])), .int .i64 0]) ∧ IxS w' Bx xb L U' ∧ UGrow W w' U U') ∧ KeptU U Bx W w' by
            have h2 := i_in h (k : Int) px py
            have e : inX (k : Int) (px, py) L = .tuple #[.bool (regQ (px, py) (L.getD k [])), .int .i64 0] := by
              unfold inX
              rw [if_pos ⟨by omega, by omega⟩, Int.toNat_natCast]
            rw [e] at h2
            exact h2)
          have HRI := Lib.hid (fun (W : World) (h : GRC W x m c (L.getD k [])) => show Calls Tryz.prog 25 #[.agg #[.int .i64 px, .int .i64 py], .agg #[.slice x m c]] W fun e w' => e = .returned (.bool (regQ (px, py) (L.getD k []))) ∧ Junk W w' from c_reIn px py W x m c (L.getD k []) h (by omega) hkm.2)
          obtain ⟨R, hR⟩ : ∃ R, L.getD k [] = R := ⟨_, rfl⟩
          have HRe := Lib.hid hR
          rw [hR] at HI1 HRI hz hz2 hg hm
          have HG := Lib.hid hg
          obtain ⟨r, hr⟩ : ∃ r, regQ (px, py) R = r := ⟨_, rfl⟩
          rw [hr] at HI1 HRI hz hz2
          have HZk := Lib.hid hz
          have HZn := Lib.hid hz2
          have HX := Lib.hid hx
          have HU := Lib.hid hu
          have HKp := Lib.hid hkp
          have hb0 := hkp.low.block b0 HBl.out
          have t0 := (World.cell?_of_block (a := ⟨b0, 0, none⟩) hb0).trans HS0.out
          have t1 := (World.cell?_of_block (a := ⟨b0, 1, none⟩) hb0).trans HS1.out
          have lt0 := World.block_lt_of_cell? _ _ t0
          have i5 : (k : Int) < (n : Int) := by omega
          obtain ⟨Wr, rfl⟩ : ∃ Wr, Wr = wr := ⟨_, rfl⟩
          clear hz hz2 hkm hm hg hR hr hx hu hkp hb0
          go_upto_region 27 with (go_at_call 20; (refine (HI1.out _ U' HX.out).mono ?_); rintro e w5 ⟨⟨U5, rfl, hx5, hu5⟩, hk5⟩; have HX5 := Lib.hid hx5; have HU5 := Lib.hid hu5; have HK5 := Lib.hid hk5; clear hx5 hu5 hk5)
          have hk5 : KeptU U1 Bx W22 w5 := KeptU.trans HKp.out HK5.out HU.out
          have hu5 : UGrow W22 w5 U1 U5 := UGrow.trans HU.out HU5.out HKp.out.low.size HK5.out.low.size
          have HK6 := Lib.hid hk5
          have HU6 := Lib.hid hu5
          have hb0 := hk5.low.block b0 HBl.out
          have v0 := (World.cell?_of_block (a := ⟨b0, 0, none⟩) hb0).trans HS0.out
          have v1 := (World.cell?_of_block (a := ⟨b0, 1, none⟩) hb0).trans HS1.out
          have lv0 := World.block_lt_of_cell? _ _ v0
          have hJ5 : Below w.heap.size w w5 := HJ22.out.trans (hk5.low.mono hBw)
          obtain ⟨b', o', x', m', c', eb, p2, hg2, lb2⟩ := (HL.out.below hJ5).at hlt
          have hsame : (some ⟨b', o', none⟩ : Option Addr) = some ⟨b, o, none⟩ := eb.symm
          injection hsame with hsame
          injection hsame with hs1 hs2
          subst hs1 hs2
          have hx1 : (Value.slice x' m' c') = .slice x m c := by
            obtain ⟨b3, o3, x3, m3, c3, eb3, p3, _, lb3⟩ := HL.out.at hlt
            have hsame : (some ⟨b3, o3, none⟩ : Option Addr) = some ⟨b', o', none⟩ := eb3.symm
            injection hsame with hsame
            injection hsame with hs1 hs2
            subst hs1 hs2
            have e1 := (World.cell?_of_block (a := ⟨b3, o3 + k, none⟩) (hJ5.block b3 lb3)).trans p3
            have e2 := (World.cell?_of_block (a := ⟨b3, o3 + k, none⟩) (HJ22.out.block b3 lb3)).trans p3
            rw [p2] at e1
            rw [p1] at e2
            injection e1 with e1
            injection e2 with e2
            rw [e1, ← e2]
          injection hx1 with hx1 hx2 hx3
          subst hx1 hx2 hx3
          have HRx := Lib.hid (show GRC w5 x' m' c' R by rw [← HRe.out]; exact hg2)
          have HR1 := Lib.hid (reads_same HRh.out fun b o e hb => hk5.keep b hb (HKh.out b o e).2.1)
          have HR2 := Lib.hid (reads_same HRn.out fun b o e hb => hk5.keep b hb (HKn.out b o e).2.1)
          have HC1 := Lib.hid (fun (J : Array Obj) (d : Nat) => HRI.out (w5.plus J d) (HRx.out.below (Junk.below ⟨J, d, rfl⟩)))
          have HC2 := Lib.hid (fun (J : Array Obj) (d : Nat) => show Calls Tryz.prog 26 #[.slice gh sa ch, .int .i64 (k : Int)] (w5.plus J d) fun e w' => e = .returned (.bool r) ∧ Junk (w5.plus J d) w' by
            have h := among_junk gh sa ch (nums H) (k : Int) hHl (w5.plus J d) (HR1.out.below (Junk.below ⟨J, d, rfl⟩))
            rw [HZk.out] at h
            exact h)
          have HC3 := Lib.hid (fun (hr : r = true) (J : Array Obj) (d : Nat) => show Calls Tryz.prog 26 #[.slice gn sn cn, .int .i64 (k : Int)] (w5.plus J d) fun e w' => e = .returned (.bool true) ∧ Junk (w5.plus J d) w' by
            have h := among_junk gn sn cn (nums N) (k : Int) hNl (w5.plus J d) (HR2.out.below (Junk.below ⟨J, d, rfl⟩))
            rw [HZn.out hr] at h
            exact h)
          have hbx := HX5.out.base_le
          have HFin := Lib.hid (fun (wf : World) (hb : Below w5.heap.size w5 wf) => show YnAt W22 Bx xb n L U1 (.int .i64 ((k + 1 : Nat) : Int)) wf from ⟨k + 1, U5, rfl, hlt, HX5.out.below hb, UGrow.trans HU6.out (UGrow.refl w5 wf U5) HK6.out.low.size hb.size, KeptU.trans HK6.out (KeptU.of_below (U := U5) hb hbx) HU6.out⟩)
          clear hk5 hu5 hb0 hJ5 hg2 HR1 HR2 HZk HZn HI1 HRI HKp HU HX HK5 HU5 HK6 HU6 HX5 HRx hbx
          cases r with
          | true =>
            have HC4 := Lib.hid (HC3.out rfl)
            refine region_quiet_all (C := Cls w5) (by kernel_rfl) (by kernel_rfl) (by first | exact cls_drawn _ | exact ⟨#[], _, (plus_nil _).symm⟩) ?_
            repeat (first | (refine qw_skip (by rfl) ?_; simp only [Act.put, List.setIfInBounds_toArray, List.set_cons_succ, List.set_cons_zero]) | (refine qw_want (by rfl) (fun K hK => ?_); go_simp; first | (refine hK _ ?_; clear hK K) | (apply Exists.intro; refine ⟨?_, hK _ ?_⟩; (rintro w3_ ⟨J3_, d3_, rfl⟩; first | (with_reducible exact rfl) | (go_simp; with_reducible exact rfl) | (go_simp; (first  | (with_reducible refine (HC1.out _ _).mono ?_) | (with_reducible refine (HC2.out _ _).mono ?_) | (with_reducible refine (HC4.out _ _).mono ?_)); rintro e_ w_ ⟨rfl, J4_, d4_, rfl⟩; exact ⟨rfl, J3_ ++ J4_, d4_, by simp only [plus_plus, Array.append_assoc]⟩)); clear hK K)))
            refine qw_nil ?_
            rintro w6 ⟨J9, d9, rfl⟩
            go_wp2_with fail
            go_roundw
            case rel =>
              have h := HFin.out (w5.plus J9 d9) (Junk.below ⟨_, _, rfl⟩)
              rw [show ((k + 1 : Nat) : Int) = (k : Int) + 1 by omega] at h
              exact h
            case measure => simp [intOf]; omega
          | false =>
            clear HC3
            refine region_quiet_all (C := Cls w5) (by kernel_rfl) (by kernel_rfl) (by first | exact cls_drawn _ | exact ⟨#[], _, (plus_nil _).symm⟩) ?_
            repeat (first | (refine qw_skip (by rfl) ?_; simp only [Act.put, List.setIfInBounds_toArray, List.set_cons_succ, List.set_cons_zero]) | (refine qw_want (by rfl) (fun K hK => ?_); go_simp; first | (refine hK _ ?_; clear hK K) | (apply Exists.intro; refine ⟨?_, hK _ ?_⟩; (rintro w3_ ⟨J3_, d3_, rfl⟩; first | (with_reducible exact rfl) | (go_simp; with_reducible exact rfl) | (go_simp; (first  | (with_reducible refine (HC1.out _ _).mono ?_) | (with_reducible refine (HC2.out _ _).mono ?_)); rintro e_ w_ ⟨rfl, J4_, d4_, rfl⟩; exact ⟨rfl, J3_ ++ J4_, d4_, by simp only [plus_plus, Array.append_assoc]⟩)); clear hK K)))
            refine qw_nil ?_
            rintro w6 ⟨J9, d9, rfl⟩
            go_wp2_with fail
            go_roundw
            case rel =>
              have h := HFin.out (w5.plus J9 d9) (Junk.below ⟨_, _, rfl⟩)
              rw [show ((k + 1 : Nat) : Int) = (k : Int) + 1 by omega] at h
              exact h
            case measure => simp [intOf]; omega
        · obtain rfl : k = n := by omega
          have i5 : ¬ (k : Int) < (k : Int) := by omega
          have HY24 := Lib.hid (HY22.out.keep fun j hu2 => hkp.keep j (HY22.out.at j hu2).2 fun h => HD22.out j h hu2)
          have HR24 := Lib.hid (reads_same HRh.out fun b o e hb => hkp.keep b hb (HKh.out b o e).2.1)
          have HKh24 := Lib.hid (fun b o (e : gh = some ⟨b, o, none⟩) => show b < wr.heap.size ∧ ¬ U2 b from ⟨Nat.lt_of_lt_of_le (HKh.out b o e).1 hkp.low.size, (HKh.out b o e).2.2⟩)
          have HPl24 := Lib.hid (fun j (hj : j < k) => show wr.cell? ⟨ga, j, none⟩ = some (.int .i64 ((A.getD j 0 : Nat) : Int)) ∧ ga < wr.heap.size ∧ ¬ U2 ga by
            obtain ⟨a1, a2, a3, a4⟩ := HPl22.out j hj
            exact ⟨(World.cell?_of_block (a := ⟨ga, j, none⟩) (hkp.keep ga a2 a3)).trans a1, Nat.lt_of_lt_of_le a2 hkp.low.size, a4⟩)
          have hb0 := hkp.low.block b0 HBl.out
          have HS24 := Lib.hid ((World.cell?_of_block (a := ⟨b0, 0, none⟩) hb0).trans HS0.out)
          have HT24 := Lib.hid ((World.cell?_of_block (a := ⟨b0, 1, none⟩) hb0).trans HS1.out)
          have HJ24 := Lib.hid (HJ22.out.trans (hkp.low.mono hBw))
          have hBy : w.heap.size ≤ Wc.heap.size := by have := Hb0.out; have := HBc.out; omega
          obtain ⟨By, hBye⟩ : ∃ By, Wc.heap.size = By := ⟨_, rfl⟩
          rw [hBye] at HY24 HBc hBy
          obtain ⟨W24, rfl⟩ : ∃ W24, W24 = wr := ⟨_, rfl⟩
          clear hx hu hkp hb0 HX22 HY22 HRh HRn HKh HKn HPl22 HS0 HS1 HJ22 HL22 HD22 hk hlt HZ2 hBye
          go_wp2_with fail
          go_loopw [23] (fun x wr => YnAt W24 By yb k M U2 x wr) (fun x _ => k - (intOf x).toNat)
          case atStart => exact ⟨0, U2, rfl, Nat.zero_le _, HY24.out, UGrow.refl _ _ _, KeptU.refl _ _ _⟩
          case round =>
            obtain ⟨j, U', rfl, hj, hx, hu, hkp⟩ := hrel
            by_cases hlt : j < k
            · have hML := HMl.out
              have hz1 := in_hasR (p := (px, py)) (L := M) (z := (j : Int))
              rw [Int.toNat_natCast, decide_eq_true (show (0 : Int) ≤ (j : Int) ∧ (j : Int) < (M.length : Int) from ⟨by omega, by omega⟩), Bool.true_and] at hz1
              have hAj := HAm.out j hlt
              have hz2 := HZ1.out ((A.getD j 0 : Nat) : Int)
              rw [Int.toNat_natCast, decide_eq_true (show (0 : Int) ≤ ((A.getD j 0 : Nat) : Int) ∧ ((A.getD j 0 : Nat) : Int) < (L.length : Int) from ⟨by omega, by have := L1.out; omega⟩), Bool.true_and, ← HMg.out j hlt] at hz2
              obtain ⟨r, hr⟩ : ∃ r, regQ (px, py) (M.getD j []) = r := ⟨_, rfl⟩
              rw [hr] at hz1 hz2
              obtain ⟨a1, a2, a3⟩ := HPl24.out j hlt
              obtain ⟨q, hq⟩ : ∃ q, A.getD j 0 = q := ⟨_, rfl⟩
              rw [hq] at hz2 a1
              have nUg : ¬ U' ga := fun h => by
                rcases hu ga h with e | e
                · exact a3 e
                · omega
              have HAy := Lib.hid (fun (W : World) U (h : IxS W By yb M U) => i_at h px py)
              have hHMb : ∀ i ∈ hasR (px, py) M, i < 1000000 := fun i hi => by have := hasR_lt hi; rw [hML] at this; omega
              have hMl : (hasR (px, py) M).length ≤ 1000 := by
                have := List.length_filter_le (fun i => regQ (px, py) (M.getD i [])) (List.range M.length)
                rw [List.length_range, hML] at this
                refine Nat.le_trans (show (hasR (px, py) M).length ≤ k from ?_) (by omega)
                unfold hasR
                rw [hML]
                exact this
              generalize hasR (px, py) M = HM at *
              obtain ⟨sm, hsm⟩ : ∃ s, HM.length = s := ⟨_, rfl⟩
              have HSM := Lib.hid hsm
              have HHM := Lib.hid hHMb
              rw [hsm] at hMl
              have HAm1 := Lib.hid (fun (W : World) a c (h : Reads W a sm (nums HM)) => show Calls Tryz.prog 26 #[.slice a sm c, .int .i64 (j : Int)] W fun e w' => e = .returned (.bool r) ∧ Junk W w' by
                have h2 := among_junk a sm c (nums HM) (j : Int) hMl W h
                rw [hz1] at h2
                exact h2)
              have HAm2 := Lib.hid (fun (W : World) (h : Reads W gh sa (nums H)) => show Calls Tryz.prog 26 #[.slice gh sa ch, .int .i64 (q : Int)] W fun e w' => e = .returned (.bool r) ∧ Junk W w' by
                have h2 := among_junk gh sa ch (nums H) (q : Int) hHl W h
                rw [hz2] at h2
                exact h2)
              unfold pt at HAy
              have hb0 := hkp.low.block b0 HBc.out
              have t0 := (World.cell?_of_block (a := ⟨b0, 0, none⟩) hb0).trans HS24.out
              have t1 := (World.cell?_of_block (a := ⟨b0, 1, none⟩) hb0).trans HT24.out
              have t2 := (World.cell?_of_block (a := ⟨ga, j, none⟩) (hkp.keep ga a2 a3)).trans a1
              have lt0 := World.block_lt_of_cell? _ _ t0
              have lt2 : ga < wr.heap.size := World.block_lt_of_cell? _ _ t2
              have HX := Lib.hid hx
              have HU := Lib.hid hu
              have HKp := Lib.hid hkp
              have HRr := Lib.hid (reads_same HR24.out fun b o e hb => hkp.keep b hb (HKh24.out b o e).2)
              have HKr := Lib.hid (fun b o (e : gh = some ⟨b, o, none⟩) => show ¬ U' b from fun h => by
                rcases hu b h with e2 | e2
                · exact (HKh24.out b o e).2 e2
                · have := (HKh24.out b o e).1; omega)
              have HNg := Lib.hid nUg
              have i6 : (j : Int) < (k : Int) := by omega
              obtain ⟨Wr, rfl⟩ : ∃ Wr, Wr = wr := ⟨_, rfl⟩
              clear hML hz1 hAj hz2 hr a1 a2 a3 hq nUg hHMb hsm hb0 hx hu hkp
              go_upto_region 32 with fail
              go_region_held3 (fun w' => w'.cell? ⟨b0, 0, none⟩ = some (.int .i64 px) ∧ w'.cell? ⟨b0, 1, none⟩ = some (.int .i64 py) ∧ w'.cell? ⟨ga, j, none⟩ = some (.int .i64 (q : Int))) (first | (refine ⟨?_, ?_, ?_⟩ <;> (simp [go_sem, *]; done))) (first
                | (go_simp; go_at_call 15; (refine (HAy.out _ U' (HX.out.below (by ((try simp only [← Array.append_assoc]); repeat' first | with_reducible (first | apply Below.refl | assumption | apply bw_a | apply bw_d | apply bw_n | apply bw_e | apply bw_s | apply bw_p | apply bw_c | apply bw_r) | go_size)))).mono ?_); rintro e w6 ⟨⟨v, U6, rfl, ho, hx6, hu6, hg6⟩, hk6⟩; obtain ⟨gy, cy, rfl⟩ := own_slice ho; have HX6 := Lib.hid hx6; have HU6 := Lib.hid hu6; have HK6 := Lib.hid hk6; have HR6 := Lib.hid (show Reads w6 gy sm (nums HM) by (have h := ho; unfold IOwn at h; rw [HSM.out] at h; exact reads_own h HSM.out HHM.out)); have HRh6 := Lib.hid (reads_same HRr.out fun b o e hb => hk6.keep b hb (HKr.out b o e)); have v0 : w6.cell? ⟨b0, 0, none⟩ = some (.int .i64 px) := (World.cell?_of_block (a := ⟨b0, 0, none⟩) (hk6.low.block b0 HBc.out)).trans (by first | exact t0 | (simp [go_sem]; exact t0)); have v1 : w6.cell? ⟨b0, 1, none⟩ = some (.int .i64 py) := (World.cell?_of_block (a := ⟨b0, 1, none⟩) (hk6.low.block b0 HBc.out)).trans (by first | exact t1 | (simp [go_sem]; exact t1)); have v2 : w6.cell? ⟨ga, j, none⟩ = some (.int .i64 (q : Int)) := (World.cell?_of_block (a := ⟨ga, j, none⟩) (hk6.keep ga lt2 HNg.out)).trans (by first | exact t2 | (simp [go_sem]; exact t2)); have lv0 : b0 < w6.heap.size := World.block_lt_of_cell? _ _ v0; have lv2 : ga < w6.heap.size := World.block_lt_of_cell? _ _ v2; clear ho hx6 hu6 hg6 hk6; (try simp only [HSM.out]); go_simp)
                | (go_simp; go_at_call 26; (with_reducible refine (HAm1.out _ _ _ (HR6.out.below (by ((try simp only [← Array.append_assoc]); repeat' first | with_reducible (first | apply Below.refl | assumption | apply bw_a | apply bw_d | apply bw_n | apply bw_e | apply bw_s | apply bw_p | apply bw_c | apply bw_r) | go_size)))).mono ?_); rintro e w7 ⟨rfl, J9, d9, rfl⟩; (try go_simp))
                | (go_simp; go_at_call 26; (with_reducible refine (HAm2.out _ (HRh6.out.below (by ((try simp only [← Array.append_assoc]); repeat' first | with_reducible (first | apply Below.refl | assumption | apply bw_a | apply bw_d | apply bw_n | apply bw_e | apply bw_s | apply bw_p | apply bw_c | apply bw_r) | go_size)))).mono ?_); rintro e w8 ⟨rfl, J10, d10, rfl⟩; (try go_simp)))
              have hx6 := HX6.out
              have hbx := hx6.base_le
              have hk6 : KeptU U' By Wr w6 := ⟨(Below.refl _ Wr).drew.trans HK6.out.low, HK6.out.keep⟩
              have hu6 : UGrow Wr w6 U' U6 := HU6.out
              have HFin := Lib.hid (fun (wf : World) (hb : Below w6.heap.size w6 wf) => show YnAt W24 By yb k M U2 (.int .i64 ((j + 1 : Nat) : Int)) wf from
                have h1 : UGrow W24 w6 U2 U6 := UGrow.trans HU.out hu6 HKp.out.low.size hk6.low.size
                have h2 : KeptU U2 By W24 w6 := KeptU.trans HKp.out hk6 HU.out
                ⟨j + 1, U6, rfl, hlt, hx6.below hb, UGrow.trans h1 (UGrow.refl w6 wf U6) h2.low.size hb.size, KeptU.trans h2 (KeptU.of_below (U := U6) hb hbx) h1⟩)
              clear hx6 hbx hk6 hu6 HX6 HU6 HK6 HKp HU HX
              go_wp2_with fail
              go_roundw
              case rel =>
                have h := HFin.out (w6.plus (J9 ++ J10) d10) (Junk.below ⟨_, _, rfl⟩)
                rw [show ((j + 1 : Nat) : Int) = (j : Int) + 1 by omega] at h
                exact h
              case measure => simp [intOf]; omega
            · obtain rfl : j = k := by omega
              have i6 : ¬ (j : Int) < (j : Int) := by omega
              have HFi := Lib.hid (HJ24.out.trans (hkp.low.mono hBy))
              clear hx hu hkp
              go_wp2_with fail
              go_ret
              exact ⟨rfl, junk_of_below HFi.out⟩
theorem l_indexNear (w : World) (a : Option Addr) (n ca : Nat) (L : List (List (List Pt))) (hL : LRC w a n ca L) (hs : n ≤ 4611686018427387903) (hl : ∀ R ∈ L, R.length ≤ 4611686018427387903 ∧ ∀ K ∈ R, K.length ≤ 8796093022208) (px py : Int)
    (ta : Option Addr) (tn tc : Nat) (Z : List Int) (hT : Reads w ta tn Z) (_ : tn ≤ 9223372036854775807) (_ : ta = none → tn = 0 ∧ tc = 0) :
    Calls Tryz.prog 6 #[.slice a n ca, pt px py, .slice ta tn tc] w fun e w' => e = .returned (.bool true) ∧ Junk w w' := by
  by_cases h : ¬ smallL L ∨ 20 < n ∨ 60 < tn
  · exact near_big w a n ca L hL hs hl px py ta tn tc h
  · refine near_in w a n ca L hL hs hl px py ta tn tc Z hT (Classical.byContradiction fun hc => h (.inl hc)) ?_ ?_
    · omega
    · omega
end Go.Proofs.YthphdiigjimchaaGreat

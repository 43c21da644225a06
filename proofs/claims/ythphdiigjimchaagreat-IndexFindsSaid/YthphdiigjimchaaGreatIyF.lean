/- The law IndexFinds: the walk. -/
import Derived.Test.YthphdiigjimchaaGreatIxLaw
import Derived.Test.YthphdiigjimchaaGreatIyFin
import Derived.Test.YthphdiigjimchaaGreatIxK
import Derived.Test.YthphdiigjimchaaGreatBnLaw
namespace Go.Proofs.YthphdiigjimchaaGreat
set_option linter.unusedVariables false
set_option linter.unusedSimpArgs false
open Go.RowKit
def YcAt (W : World) (L : List (List (List Pt))) (v i : Value) (wr : World) : Prop := ∃ (k : Nat) (qs : List (Value × List (Value × List Pt))), i = .int .i64 (k : Int) ∧ k ≤ L.length ∧ LOwn wr W.heap.size v qs ∧ regsOf qs = L.take k ∧ Below W.heap.size W wr
def YoAt (W : World) (base T n : Nat) (i : Value) (wr : World) : Prop := ∃ k : Nat, i = .int .i64 (k : Int) ∧ k ≤ n ∧ KeptR base T W wr ∧ OvS W wr
def YpAt (w : World) (T xb pn : Nat) (L : List (List (List Pt))) (i : Value) (wr : World) : Prop := ∃ (k : Nat) (U : Nat → Prop), i = .int .i64 (k : Int) ∧ k ≤ pn ∧ IxS wr T xb L U ∧ Below w.heap.size w wr
def YhAt (W : World) (S : List Nat) (z : Int) (x i : Value) (wr : World) : Prop := ∃ k : Nat, i = .int .i64 (k : Int) ∧ k ≤ S.length ∧ x = .bool (decide (z ∈ nums (S.take k))) ∧ wr = W
theorem over_ready {W W3 wr : World} {base T : Nat} {v : Value} {ps : List (Value × List Pt)} (h : GOwn W base v ps) (hT : W.heap.size = T) (hw : Below T W W3) (ho : OvS W3 wr) :
    ∃ x c, v = .slice x ps.length c ∧ (∃ rb, ps.length = 0 ∨ (x = some ⟨rb, 0, none⟩ ∧ rb < T ∧ (∃ cur, wr.heap[rb]? = some (.cells cur 23 (0, 0)) ∧ ∀ i, (h : i < ps.length) → wr.cell? ⟨rb, i, none⟩ = some (ps[i].1)))) ∧ ∀ p ∈ ps, PRow base T wr p.1 p.2.length := by
  subst hT
  obtain ⟨x, c, rfl, _⟩ := h.grc
  refine ⟨x, c, rfl, ?_, fun p hp => ?_⟩
  · obtain ⟨_, hr⟩ := h.row
    rcases hr with ⟨e, h0⟩ | ⟨g, cap, cur, e, h1, h2, h3, h4, h5, h6⟩
    · exact ⟨0, .inl h0⟩
    · have k2 := ho.oth g cur 23 (by decide) ((hw.block g (heap_lt h2)).trans h2)
      refine ⟨g, .inr ⟨by injection e, heap_lt h2, cur, k2, fun i hi => ?_⟩⟩
      have e3 : (cur.toList.take ps.length)[i]? = some ps[i].1 := by
        rw [Nat.mul_one] at h6
        rw [h6, List.getElem?_map, List.getElem?_eq_getElem hi]; rfl
      rw [List.getElem?_take_of_lt hi] at e3
      simp [World.cell?, k2]
      simpa using e3
  · obtain ⟨_, h2⟩ := h.each p hp
    rcases h2 with ⟨e, h0⟩ | ⟨g, cap, cur, e, k1, k2, k3, k4, k5, k6⟩
    · exact .inl ⟨e, h0⟩
    · obtain ⟨c', j1, j2⟩ := ho.pts g cur ((hw.block g (heap_lt k2)).trans k2)
      exact .inr ⟨g, cap, c', e, k1, heap_lt k2, j1, k3, by omega⟩
theorem IxS.kept {w w' : World} {base xb T0 : Nat} {L : List (List (List Pt))} {U : Nat → Prop} (h : IxS w base xb L U) (hk : KeptR T0 base w w') : IxS w' base xb L U := h.keep fun k hu => hk.high k (h.at k hu).1 (h.at k hu).2
theorem nums_takeS {S : List Nat} {k : Nat} {z : Int} (hk : k < S.length) : decide (z ∈ nums (S.take (k + 1))) = (decide (z ∈ nums (S.take k)) || decide (((S.getD k 0 : Nat) : Int) = z)) := by
  rw [take_snocL (d := 0) hk, nums_snoc, Bool.eq_iff_iff, Bool.or_eq_true]
  simp only [decide_eq_true_eq, List.mem_append, List.mem_singleton]
  constructor
  · rintro (h | h)
    · exact .inl h
    · exact .inr h.symm
  · rintro (h | h)
    · exact .inl h
    · exact .inr h.symm
def Y22 (w W : World) (T xb sa sn : Nat) (L : List (List (List Pt))) (A N : List Nat) (x y : Value) (wx : World) : Prop := ∃ (U : Nat → Prop) (ga : Option Addr) (ca : Nat) (gb : Option Addr) (cb : Nat), x = .slice ga sa ca ∧ y = .slice gb sn cb ∧ IxS wx T xb L U ∧ Below w.heap.size w wx ∧
  wx.ownsRow W.heap.size 3 1 (.slice ga sa ca) sa (ints (nums A)) ∧ wx.ownsRow W.heap.size 3 1 (.slice gb sn cb) sn (ints (nums N)) ∧ (∀ g, (Value.slice ga sa ca).ownBlock = some g → ¬ U g) ∧ W.heap.size ≤ wx.heap.size
theorem keptr_trans {base T : Nat} {w w' w'' : World} (h : KeptR base T w w') (h2 : KeptR base T w' w'') : KeptR base T w w'' := ⟨h.low.trans h2.low, fun k hk hl => (h2.high k hk (Nat.lt_of_lt_of_le hl h.low.size)).trans (h.high k hk hl)⟩
theorem lown_at {W W3 wr : World} {base T : Nat} {v : Value} {qs : List (Value × List (Value × List Pt))} (h : LOwn W base v qs) (hT : W.heap.size = T) (hw : Below T W W3) (ho : OvS W3 wr) {j : Nat} (hj : j < qs.length) :
    ∃ g c, v = .slice (some ⟨g, 0, none⟩) qs.length c ∧ wr.cell? ⟨g, j, none⟩ = some (qs[j].1) ∧ g < wr.heap.size := by
  subst hT
  obtain ⟨_, hr⟩ := h.row
  rcases hr with ⟨e, h0⟩ | ⟨g, cap, cur, e, h1, h2, h3, h4, h5, h6⟩
  · omega
  · have k2 := ho.oth g cur 28 (by decide) ((hw.block g (heap_lt h2)).trans h2)
    have e3 : (cur.toList.take qs.length)[j]? = some qs[j].1 := by
      rw [Nat.mul_one] at h6
      rw [h6, List.getElem?_map, List.getElem?_eq_getElem hj]; rfl
    rw [List.getElem?_take_of_lt hj] at e3
    exact ⟨g, cap, e, cell_arr k2 (by simpa using e3), heap_lt k2⟩
set_option maxRecDepth 100000 in
set_option maxHeartbeats 8000000 in
theorem l_indexFinds (w : World) (a : Option Addr) (n ca : Nat) (L : List (List (List Pt))) (hL : LRC w a n ca L) (hs : n ≤ 4611686018427387903) (hl : ∀ R ∈ L, R.length ≤ 4611686018427387903 ∧ ∀ K ∈ R, K.length ≤ 8796093022208)
    (pa : Option Addr) (pn pc : Nat) (K : List Pt) (hP : PRC w pa pn pc K) (hps : pn ≤ 9223372036854775807) (hpz : pa = none → pn = 0 ∧ pc = 0) (z : Int) (_ : -9223372036854775808 ≤ z ∧ z ≤ 9223372036854775807) :
    Calls Tryz.prog 3 #[.slice a n ca, .slice pa pn pc, .int .i64 z] w fun e w' => e = .returned (.bool true) ∧ Junk w w' := by
  have HAw := Lib.hid l_ixAwake
  have HBg := Lib.hid (fun (W : World) (h : LRC W a n ca L) => l_ixBig W a n ca L h hs hl)
  have HL := Lib.hid hL
  by_cases hsm : smallL L
  rotate_left
  · rw [decide_eq_false hsm] at HBg
    clear hL hP hl hsm
    go_enter Tryz.func3, Tryz.ntmps3
    go_wp2_with (first
      | (go_at_call 8; (with_reducible refine (HBg.out _ HL.out).mono ?_); rintro e w1 ⟨rfl, J1, d1, rfl⟩)
      | (go_at_call 9; refine (HAw.out _).mono ?_; rintro e w1 ⟨rfl, J2, d2, rfl⟩))
    go_ret
    exact ⟨rfl, junk_of_below (by (repeat' first | with_reducible (first | apply Below.refl | assumption | apply bw_a | apply bw_d | apply bw_n | apply bw_p | apply bw_c | apply bw_r) | go_size))⟩
  rw [decide_eq_true hsm] at HBg
  by_cases hp20 : 20 < pn
  · have i1 : (pn : Int) > 20 := by omega
    clear hL hP hl hsm
    go_enter Tryz.func3, Tryz.ntmps3
    go_wp2_with (first
      | (go_at_call 8; (with_reducible refine (HBg.out _ HL.out).mono ?_); rintro e w1 ⟨rfl, J1, d1, rfl⟩)
      | (go_at_call 9; refine (HAw.out _).mono ?_; rintro e w1 ⟨rfl, J2, d2, rfl⟩))
    go_ret
    exact ⟨rfl, junk_of_below (by (repeat' first | with_reducible (first | apply Below.refl | assumption | apply bw_a | apply bw_d | apply bw_n | apply bw_p | apply bw_c | apply bw_r) | go_size))⟩
  have i1 : ¬ (pn : Int) > 20 := by omega
  have hln := hL.len
  obtain ⟨h70, hsl, _⟩ := hsm
  have hk : ∀ R ∈ L, R.length ≤ 1000 ∧ (∀ K ∈ R, K.length ≤ 100000) ∧ R.flatten.length ≤ 100000 := fun R hR => by
    obtain ⟨j, hj, e⟩ := List.mem_iff_getElem.1 hR
    have := hsl j hj
    rw [List.getD_eq_getElem?_getD, List.getElem?_eq_getElem hj, Option.getD_some, e] at this
    exact ⟨by omega, fun K hK => by have := ring_leR hK; omega, by rw [show R.flatten.length = allN R by unfold allN; rw [List.length_flatten]]; omega⟩
  have n70 : n ≤ 70 := by omega
  have HP := Lib.hid hP
  have HKl := Lib.hid hk
  have L1 := Lib.hid hln
  have hpn : pn ≤ 20 := by omega
  have HCk := Lib.hid (fun (W : World) (h : LRC W a n ca L) => r_ixCheck W a n ca L h hs (fun R hR => (hl R hR).2))
  have HRA := Lib.hid (fun (W : World) px py (h : LRC W a n ca L) => r_ixAt px py W a n ca L h (by omega) (fun R hR => ⟨(hk R hR).1, (hk R hR).2.2⟩))
  have HRN := Lib.hid (fun (W : World) px py (h : LRC W a n ca L) => r_ixNear px py W a n ca L h (by omega) (fun R hR => ⟨(hk R hR).1, (hk R hR).2.2⟩))
  clear hL hP hl hsl hk hln h70 hs hps hpz hp20
  go_enter Tryz.func3, Tryz.ntmps3
  go_wp2_with (go_at_call 8; (with_reducible refine (HBg.out _ HL.out).mono ?_); rintro e w1 ⟨rfl, J1, d1, rfl⟩)
  obtain ⟨W, hW⟩ : ∃ W, w.plus J1 d1 = W := ⟨_, rfl⟩
  have hj : Below w.heap.size w W := by rw [← hW]; exact Junk.below ⟨_, _, rfl⟩
  have HLW := Lib.hid (HL.out.below hj)
  have HPW := Lib.hid (HP.out.below hj)
  have HJ := Lib.hid hj
  rw [hW]
  clear hW hj HBg
  go_loopw [7, 8] (fun v i wr => YcAt W L v i wr) (fun _ i _ => n - (intOf i).toNat)
  case atStart => exact ⟨0, [], rfl, by omega, lown_nil _ _, rfl, Below.refl _ _⟩
  case round =>
    obtain ⟨k, qs, rfl, k1, hlo, hq, hB⟩ := hrel
    rw [L1.out] at k1
    have hsz := hB.size
    have hql : qs.length = k := by
      have := congrArg List.length hq
      rw [regs_len, List.length_take, L1.out] at this
      omega
    by_cases hlt : k < n
    · obtain ⟨b, o, x, m, c, rfl, p1, hg, hb⟩ := HLW.out.at hlt
      have hkL : k < L.length := by rw [L1.out]; exact hlt
      have s1 := (World.cell?_of_block (hB.block _ hb)).trans p1
      have lb := World.block_lt_of_cell? _ _ s1
      have hts := take_snocL (d := ([] : List (List Pt))) hkL
      have hkm := HKl.out _ (mem_getD hkL)
      obtain ⟨R, hR⟩ : ∃ R, L.getD k [] = R := ⟨_, rfl⟩
      rw [hR] at hg hts hkm
      have hm := hg.len
      have HCp := Lib.hid (fun W' (h : GRC W' x m c R) => k_CopyRegion W' x m c R h (by omega) hkm.2.1)
      have HGo := Lib.hid (hg.below hB)
      have HLo := Lib.hid hlo
      have HQ := Lib.hid hq
      have HB := Lib.hid hB
      have HQl := Lib.hid hql
      have HTs := Lib.hid hts
      obtain ⟨wo, rfl⟩ : ∃ wo : World, wo = wr := ⟨_, rfl⟩
      have i2 : (k : Int) < (n : Int) := by omega
      clear hg hm hlo hq hB hql p1 hR hkm hts
      go_wp2_with (first
        | (go_at_call 10; (with_reducible refine (HCp.out _ HGo.out).mono ?_); rintro e w2 ⟨⟨x2, c2, ps, rfl, hgo, hps⟩, J3, d3, rfl⟩; have HGN := Lib.hid hgo; have HPS := Lib.hid hps; clear hgo hps)
        | (at_builtin; refine wpList_rapp rfl (.tmp 36) (.tmp 42) rfl W.heap.size _ qs rfl (HLo.out.below (by ((try simp only [← Array.append_assoc]); repeat' first | with_reducible (first | apply Below.refl | assumption | apply bw_a | apply bw_d | apply bw_n | apply bw_e | apply bw_s | apply bw_p | apply bw_c | apply bw_r) | go_size))) _ _ ps rfl (by first | (simp [go_sem]; done) | (simp [go_sem]; rfl)) ((HGN.out.below (by ((try simp only [← Array.append_assoc]); repeat' first | with_reducible (first | apply Below.refl | assumption | apply bw_a | apply bw_d | apply bw_n | apply bw_e | apply bw_s | apply bw_p | apply bw_c | apply bw_r) | go_size))).base hsz) (by have := HQl.out; omega) (by simp; omega) ?_; intro v3 w3 hl3 hg3))
      go_roundw
      case rel => exact ⟨k + 1, _, by go_num, by rw [L1.out]; omega, hl3, by rw [regs_snoc, HQ.out, HTs.out, HPS.out], grown_below (B := W.heap.size) (a := W) (HB.out.trans (by ((try simp only [← Array.append_assoc]); repeat' first | with_reducible (first | apply Below.refl | assumption | apply bw_a | apply bw_d | apply bw_n | apply bw_e | apply bw_s | apply bw_p | apply bw_c | apply bw_r) | go_size))) hg3 (by simp; omega) (fun r hr => (gown_block HLo.out.row r hr).1)⟩
      case measure => simp [intOf]; omega
    · obtain rfl : k = n := by omega
      rw [List.take_of_length_le (by rw [L1.out]; omega)] at hq
      obtain ⟨va, vc, rfl, hlr⟩ := hlo.lrc
      rw [hq, hql] at hlr
      rw [hql] at hlo ⊢
      have HLo := Lib.hid hlo
      have HLr := Lib.hid hlr
      have HQ := Lib.hid hq
      have hbw := HJ.out.trans (hB.mono HJ.out.size)
      have HBw := Lib.hid hbw
      have HLa := Lib.hid (HLW.out.below hB)
      have HPa := Lib.hid (HPW.out.below hB)
      have HBs := Lib.hid HJ.out.size
      have hB0 := hB.size
      obtain ⟨W2, rfl⟩ : ∃ W2 : World, W2 = wr := ⟨_, rfl⟩
      have i2 : ¬ (k : Int) < (k : Int) := by omega
      obtain ⟨B0, hBB⟩ : ∃ B0, W.heap.size = B0 := ⟨_, rfl⟩
      rw [hBB] at HLo HBs hB0
      clear hlo hlr hq hbw hB HLW HPW HJ hBB hlt
      by_cases hck : (checkX L).1 = 0
      rotate_left
      · have HBd := Lib.hid (fun (W : World) (h : LRC W va k vc L) => i_bad W va k vc L h (by omega) (fun R hR => ⟨(HKl.out R hR).1, (HKl.out R hR).2.1⟩) hck)
        obtain ⟨⟨ce, ct⟩, hce⟩ : ∃ q, checkX L = q := ⟨_, rfl⟩
        rw [hce] at HBd HCk hck
        unfold fltV at HBd HCk
        simp only at HBd HCk hck
        have e1 : (ce != 0) = true := by simpa using hck
        clear hck hce
        go_upto_region 9 with (go_at_call 11; (with_reducible refine (HBd.out _ HLr.out).mono ?_); rintro e w1 ⟨rfl, J3, d3, rfl⟩)
        obtain ⟨T1, hT1⟩ : ∃ T1, W2.heap.size + J3.size = T1 := ⟨_, rfl⟩
        obtain ⟨W3, hW3⟩ : ∃ W3, (W2.plus J3 d3).alloc (.cells #[.int .i64 ce, .int .i64 (ct : Int)] 33) = W3 := ⟨_, rfl⟩
        have c0 : W3.cell? ⟨T1, 0, none⟩ = some (.int .i64 ce) := by rw [← hW3, ← hT1]; simp [go_sem]
        have c1 : W3.cell? ⟨T1, 1, none⟩ = some (.int .i64 (ct : Int)) := by rw [← hW3, ← hT1]; simp [go_sem]
        have h3 : Below W2.heap.size W2 W3 := by rw [← hW3]; ((try simp only [← Array.append_assoc]); repeat' first | with_reducible (first | apply Below.refl | assumption | apply bw_a | apply bw_d | apply bw_n | apply bw_e | apply bw_s | apply bw_p | apply bw_c | apply bw_r) | go_size)
        have l0 := World.block_lt_of_cell? _ _ c0
        have HCk2 := Lib.hid (fun (J : Array Obj) (d : Nat) => HCk.out (W3.plus J d) ((HLa.out.below h3).below (Junk.below ⟨J, d, rfl⟩)))
        have HJ3 := Lib.hid (HBw.out.trans (h3.mono HBw.out.size))
        simp only [hT1, hW3]
        clear hT1 hW3 h3 HCk HBd
        refine region_quiet_all (C := Cls W3) (by kernel_rfl) (by kernel_rfl) (by first | exact cls_drawn _ | exact ⟨#[], _, (plus_nil _).symm⟩) ?_
        repeat (first | (refine qw_skip (by rfl) ?_; simp only [Act.put, List.setIfInBounds_toArray, List.set_cons_succ, List.set_cons_zero]) | (refine qw_want (by rfl) (fun K hK => ?_); go_simp; first | (refine hK _ ?_; clear hK K) | (apply Exists.intro; refine ⟨?_, hK _ ?_⟩; (rintro w3_ ⟨J3_, d3_, rfl⟩; first | (with_reducible exact rfl) | (go_simp; with_reducible exact rfl) | (go_simp; (first | (with_reducible refine (HAw.out _).mono ?_) | (with_reducible refine (HCk2.out _ _).mono ?_)); rintro e_ w_ ⟨rfl, J4_, d4_, rfl⟩; exact ⟨rfl, J3_ ++ J4_, d4_, by simp only [plus_plus, Array.append_assoc]⟩)); clear hK K)))
        refine qw_nil ?_
        rintro w4 ⟨J4, d4, rfl⟩
        go_wp2_with (go_at_call 9; refine (HAw.out _).mono ?_; rintro e w5 ⟨rfl, J5, d5, rfl⟩)
        go_ret
        exact ⟨rfl, junk_of_below (HJ3.out.trans ((show Below W3.heap.size W3 _ by ((try simp only [← Array.append_assoc]); repeat' first | with_reducible (first | apply Below.refl | assumption | apply bw_a | apply bw_d | apply bw_n | apply bw_e | apply bw_s | apply bw_p | apply bw_c | apply bw_r) | go_size)).mono HJ3.out.size))⟩
      · have h64 := (checkX_fine.1 hck).1
        have HBd := Lib.hid (fun (W : World) (h : LRC W va k vc L) => i_build W va k vc L h hck)
        rw [checkX_zero hck] at HCk
        unfold fltV at HCk
        simp only at HCk
        have n64 : k ≤ 64 := by rw [← L1.out]; exact h64
        have HLn := Lib.hid (fun (W : World) (T xb : Nat) (U : Nat → Prop) (h : IxS W T xb L U) => show Calls Tryz.prog 13 #[.pointer (some ⟨xb, 0, none⟩)] W fun e w' => e = .returned (.int .i64 (k : Int)) ∧ w' = W by
          have := i_len h
          rw [L1.out] at this
          exact this)
        clear hck h64
        go_upto_region 9 with (go_at_call 11; (with_reducible refine (HBd.out _ HLr.out).mono ?_); rintro e w1 ⟨⟨xb, U, rfl, hx⟩, J3, d3, rfl⟩; have HX := Lib.hid hx; clear hx)
        obtain ⟨T1, hT1⟩ : ∃ T1, W2.heap.size + J3.size = T1 := ⟨_, rfl⟩
        obtain ⟨W3, hW3⟩ : ∃ W3, (W2.plus J3 d3).alloc (.cells #[.int .i64 0, .int .i64 0] 33) = W3 := ⟨_, rfl⟩
        have c0 : W3.cell? ⟨T1, 0, none⟩ = some (.int .i64 0) := by rw [← hW3, ← hT1]; simp [go_sem]
        have c1 : W3.cell? ⟨T1, 1, none⟩ = some (.int .i64 0) := by rw [← hW3, ← hT1]; simp [go_sem]
        have h3 : Below W2.heap.size W2 W3 := by rw [← hW3]; ((try simp only [← Array.append_assoc]); repeat' first | with_reducible (first | apply Below.refl | assumption | apply bw_a | apply bw_d | apply bw_n | apply bw_e | apply bw_s | apply bw_p | apply bw_c | apply bw_r) | go_size)
        have HX3 := Lib.hid (show IxS W3 W2.heap.size xb L U by rw [← hW3]; exact HX.out.below (by ((try simp only [← Array.append_assoc]); repeat' first | with_reducible (first | apply Below.refl | assumption | apply bw_a | apply bw_d | apply bw_n | apply bw_e | apply bw_s | apply bw_p | apply bw_c | apply bw_r) | go_size)))
        have l0 := World.block_lt_of_cell? _ _ c0
        have HCk2 := Lib.hid (fun (J : Array Obj) (d : Nat) => HCk.out (W3.plus J d) ((HLa.out.below h3).below (Junk.below ⟨J, d, rfl⟩)))
        have H23 := Lib.hid h3
        simp only [hT1, hW3]
        clear hT1 hW3 h3 HCk HBd HX
        refine region_quiet_all (C := Cls W3) (by kernel_rfl) (by kernel_rfl) (by first | exact cls_drawn _ | exact ⟨#[], _, (plus_nil _).symm⟩) ?_
        repeat (first | (refine qw_skip (by rfl) ?_; simp only [Act.put, List.setIfInBounds_toArray, List.set_cons_succ, List.set_cons_zero]) | (refine qw_want (by rfl) (fun K hK => ?_); go_simp; first | (refine hK _ ?_; clear hK K) | (apply Exists.intro; refine ⟨?_, hK _ ?_⟩; (rintro w3_ ⟨J3_, d3_, rfl⟩; first | (with_reducible exact rfl) | (go_simp; with_reducible exact rfl) | (go_simp; (first | (with_reducible refine (HAw.out _).mono ?_) | (with_reducible refine (HCk2.out _ _).mono ?_)); rintro e_ w_ ⟨rfl, J4_, d4_, rfl⟩; exact ⟨rfl, J3_ ++ J4_, d4_, by simp only [plus_plus, Array.append_assoc]⟩)); clear hK K)))
        refine qw_nil ?_
        rintro w4 ⟨J4, d4, rfl⟩
        go_wp2_with (go_at_call 13; refine (HLn.out _ _ _ _ (HX3.out.below (by ((try simp only [← Array.append_assoc]); repeat' first | with_reducible (first | apply Below.refl | assumption | apply bw_a | apply bw_d | apply bw_n | apply bw_e | apply bw_s | apply bw_p | apply bw_c | apply bw_r) | go_size)))).mono ?_; rintro e w5 ⟨rfl, hw⟩; rw [hw]; clear hw)
        obtain ⟨W4, hW4⟩ : ∃ W4, W3.plus J4 d4 = W4 := ⟨_, rfl⟩
        have h4 : Below W3.heap.size W3 W4 := by rw [← hW4]; exact Junk.below ⟨_, _, rfl⟩
        have HX4 := Lib.hid (HX3.out.below h4)
        have H24 := Lib.hid (H23.out.trans (h4.mono H23.out.size))
        rw [hW4]
        clear hW4 h4 H23 HX3 HCk2 c0 c1 l0
        have HQl := Lib.hid (show qs.length = k from hql)
        have hB0T := hB0
        obtain ⟨T, hT⟩ : ∃ T, W2.heap.size = T := ⟨_, rfl⟩
        rw [hT] at HX4 hB0T
        have H24' := Lib.hid (show Below T W2 W4 by rw [← hT]; exact H24.out)
        have HT := Lib.hid hT
        clear hB0 hql
        go_loopw [11] (fun x wr => YoAt W4 B0 T k x wr) (fun x _ => k - (intOf x).toNat)
        case atStart => exact ⟨0, rfl, Nat.zero_le _, ⟨Below.refl _ _, fun _ _ _ => rfl⟩, OvS.refl _⟩
        case round =>
          obtain ⟨j, rfl, hj, hK, hO⟩ := hrel
          have HKp := Lib.hid hK
          have HOs := Lib.hid hO
          by_cases hlt : j < k
          · have hjq : j < qs.length := by rw [HQl.out]; exact hlt
            have hlo2 : LOwn W2 B0 (.slice va qs.length vc) qs := by rw [HQl.out]; exact HLo.out
            obtain ⟨g, c, ev, cj, lg⟩ := lown_at hlo2 HT.out H24'.out hO hjq
            obtain ⟨x3, c3, ex, hrow, heach⟩ := over_ready (hlo2.each _ (List.getElem_mem hjq)) HT.out H24'.out hO
            injection ev with ev1 _ ev3
            subst ev1 ev3
            have hRj : qs[j].2.map (·.2) ∈ L := by
              rw [← HQ.out]
              unfold regsOf
              exact List.mem_map.2 ⟨qs[j], List.getElem_mem hjq, rfl⟩
            have hkm := HKl.out _ hRj
            have hsz : T ≤ wr.heap.size := by have := H24'.out.size; have := hK.low.size; have := HT.out; omega
            have HOv := Lib.hid (k_OverR B0 T x3 c3 qs[j].2.length qs[j].2 rfl hB0T wr hsz hrow heach (by have := hkm.1; rw [List.length_map] at this; exact this) (fun p hp => hkm.2.1 _ (List.mem_map.2 ⟨p, hp, rfl⟩)))
            rw [ex] at cj
            clear hK hO hrow heach hkm hRj ex
            generalize qs[j].2.length = m at *
            have i3 : (j : Int) < (k : Int) := by omega
            go_wp2_with (go_at_call 14; refine HOv.out.mono ?_; rintro e w5 ⟨rfl, hk5, ho5⟩; have HK5 := Lib.hid (And.intro hk5 ho5); clear hk5 ho5)
            go_roundw
            case rel => exact ⟨j + 1, by go_num, by omega, keptr_trans HKp.out HK5.out.1, HOs.out.trans HK5.out.2⟩
            case measure => simp [intOf]; omega
          · obtain rfl : j = k := by omega
            have i3 : ¬ (j : Int) < (j : Int) := by omega
            have hb5 : Below w.heap.size w wr := (HBw.out.trans (H24.out.mono HBw.out.size)).trans (HKp.out.low.mono HBs.out)
            have HX5 := Lib.hid (HX4.out.kept HKp.out)
            have H5 := Lib.hid hb5
            have hwT : w.heap.size ≤ T := by have := HBs.out; omega
            obtain ⟨W5, rfl⟩ : ∃ W5, W5 = wr := ⟨_, rfl⟩
            clear hK hO HKp HOs hb5 HX4 H24 H24' HT HLo HLr HQ HBw HLa HPa HBs HQl hlt hj hB0T HLn
            go_wp2_with fail
            go_loopw [12] (fun x wr => YpAt w T xb pn L x wr) (fun x _ => pn - (intOf x).toNat)
            case atStart => exact ⟨0, U, rfl, Nat.zero_le _, HX5.out, H5.out⟩
            case round =>
              obtain ⟨q, U1, rfl, hq, hxr, hbr⟩ := hrel
              by_cases hlt : q < pn
              · rcases HP.out.rd.2 with h0 | ⟨bp, op, epa, hpc⟩
                · omega
                subst epa
                obtain ⟨p1, p2⟩ := hpc q hlt
                obtain ⟨⟨px, py⟩, hpt⟩ : ∃ r, K.getD q (0, 0) = r := ⟨_, rfl⟩
                rw [hpt] at p1 p2
                simp only at p1 p2
                have lbp : bp < w.heap.size := World.block_lt_of_cell? _ _ p1
                replace p1 := (World.cell?_of_block (a := ⟨bp, _, none⟩) (hbr.block bp lbp)).trans p1
                replace p2 := (World.cell?_of_block (a := ⟨bp, _, none⟩) (hbr.block bp lbp)).trans p2
                have l1 := World.block_lt_of_cell? _ _ p1
                have i4 : (q : Int) < (pn : Int) := by omega
                have HZ := Lib.hid (in_hasR (p := (px, py)) (L := L) (z := z))
                have HInX := Lib.hid (show inX z (px, py) L = .tuple (if 0 ≤ z ∧ z < L.length then #[.bool (regQ (px, py) (L.getD z.toNat [])), .int .i64 0] else #[.bool false, .int .i64 6]) from rfl)
                have HA1 := Lib.hid (fun (W : World) U (h : IxS W T xb L U) => i_at h px py)
                have HN1 := Lib.hid (fun (W : World) U (h : IxS W T xb L U) => i_near h px py)
                have HI1 := Lib.hid (fun (W : World) U (h : IxS W T xb L U) => i_in h z px py)
                have HRA1 := Lib.hid (fun (W : World) (h : LRC W a j ca L) => HRA.out W px py h)
                have HRN1 := Lib.hid (fun (W : World) (h : LRC W a j ca L) => HRN.out W px py h)
                rw [L1.out] at HZ HInX
                have hA : ∀ i ∈ hasR (px, py) L, i < 1000000 := fun i hi => by have := hasR_lt hi; rw [L1.out] at this; omega
                have hN : ∀ i ∈ nearR (px, py) L, i < 1000000 := fun i hi => by have := nearR_lt hi; rw [L1.out] at this; omega
                have hAl : (hasR (px, py) L).length ≤ 1000 := by
                  have := List.length_filter_le (fun i => regQ (px, py) (L.getD i [])) (List.range L.length)
                  rw [List.length_range, L1.out] at this
                  refine Nat.le_trans (show (hasR (px, py) L).length ≤ j from ?_) (by omega)
                  unfold hasR
                  rw [L1.out]
                  exact this
                have hNl : (nearR (px, py) L).length ≤ 1000 := by have := near_len (L := L) (px, py); rw [L1.out] at this; omega
                generalize inX z (px, py) L = ix at *
                generalize regQ (px, py) (L.getD z.toNat []) = rz at *
                generalize hasR (px, py) L = A at *
                generalize nearR (px, py) L = N at *
                have HAm := Lib.hid hA
                have HNm := Lib.hid hN
                obtain ⟨sa, hsa⟩ : ∃ s, A.length = s := ⟨_, rfl⟩
                obtain ⟨sn, hsn⟩ : ∃ s, N.length = s := ⟨_, rfl⟩
                have HSA := Lib.hid hsa
                have HSN := Lib.hid hsn
                rw [hsa] at hAl
                rw [hsn] at hNl
                have HS1 := Lib.hid (fun W x y c d h h2 => ints_self A sa hsa (by omega) W x y c d h h2)
                have HS2 := Lib.hid (fun W x y c d h h2 => ints_self N sn hsn (by omega) W x y c d h h2)
                unfold pt at *
                have HXr := Lib.hid hxr
                have HBr := Lib.hid hbr
                have HPp := Lib.hid (And.intro p1 p2)
                obtain ⟨Wr, rfl⟩ : ∃ Wr, Wr = wr := ⟨_, rfl⟩
                have hlrc := Lib.hid (HL.out.below hbr)
                clear hxr hbr hA hN hpc hpt hsa hsn
                go_upto_region 22 with fail
                go_region_held3 (fun w' => w'.cell? ⟨bp, op + q * 2, none⟩ = some (.int .i64 px) ∧ w'.cell? ⟨bp, op + q * 2 + 1, none⟩ = some (.int .i64 py)) (first | (refine ⟨?_, ?_⟩ <;> (simp [go_sem, *]; done))) (first
                  | (go_simp; go_at_call 15; (refine (HA1.out _ U1 (HXr.out.below (by ((try simp only [← Array.append_assoc]); repeat' first | with_reducible (first | apply Below.refl | assumption | apply bw_a | apply bw_d | apply bw_n | apply bw_e | apply bw_s | apply bw_p | apply bw_c | apply bw_r) | go_size)))).mono ?_); rintro e w3 ⟨⟨v, U2, rfl, ho, hx, hu, hg⟩, hk⟩; (obtain ⟨ga, gc, rfl⟩ := own_slice ho); (try simp only [HSA.out] at ho); (have hb3 : Below w.heap.size w w3 := (HBr.out.trans (show Below w.heap.size Wr _ by ((try simp only [← Array.append_assoc]); repeat' first | with_reducible (first | apply Below.refl | assumption | apply bw_a | apply bw_d | apply bw_n | apply bw_e | apply bw_s | apply bw_p | apply bw_c | apply bw_r) | go_size))).trans (hk.low.mono hwT)); (have HOa := Lib.hid (iown_base (base' := Wr.heap.size) ho (by simp))); have HX2 := Lib.hid hx; have HG2 := Lib.hid hg; have HB3 := Lib.hid hb3; (have h3w : Wr.heap.size ≤ w3.heap.size := by (have := hk.low.size; simpa using this)); (have q1 : w3.cell? ⟨bp, op + q * 2, none⟩ = some (.int .i64 px) := (World.cell?_of_block (a := ⟨bp, op + q * 2, none⟩) (hk.low.block bp (by omega))).trans (by first | exact HPp.out.1 | (simp [go_sem]; exact HPp.out.1))); (have q2 : w3.cell? ⟨bp, op + q * 2 + 1, none⟩ = some (.int .i64 py) := (World.cell?_of_block (a := ⟨bp, op + q * 2 + 1, none⟩) (hk.low.block bp (by omega))).trans (by first | exact HPp.out.2 | (simp [go_sem]; exact HPp.out.2))); have l3 : bp < w3.heap.size := World.block_lt_of_cell? _ _ q1; clear ho hx hu hg hk hb3; go_simp)
                  | (go_simp; go_at_call 16; (refine (HN1.out _ U2 (HX2.out.below (by ((try simp only [← Array.append_assoc]); repeat' first | with_reducible (first | apply Below.refl | assumption | apply bw_a | apply bw_d | apply bw_n | apply bw_e | apply bw_s | apply bw_p | apply bw_c | apply bw_r) | go_size)))).mono ?_); rintro e w4 ⟨⟨v, rfl, ho⟩, J4, d4, rfl⟩; obtain ⟨gb, gcb, rfl⟩ := own_slice ho; (try simp only [HSN.out] at ho); have HOb := Lib.hid (iown_base (base' := Wr.heap.size) ho (by first | (simp; omega) | omega)); clear ho; (try go_simp)))
                obtain ⟨W6, hW6⟩ : ∃ W6, w3.plus J4 d4 = W6 := ⟨_, rfl⟩
                have hb6 : Below w3.heap.size w3 W6 := by rw [← hW6]; exact Junk.below ⟨_, _, rfl⟩
                have hX6 := HX2.out.below hb6
                have HX6 := Lib.hid hX6
                have HB6 := Lib.hid (HB3.out.trans (hb6.mono HB3.out.size))
                have HOa6 := Lib.hid (show W6.ownsRow Wr.heap.size 3 1 (.slice ga sa gc) sa (ints (nums A)) by have h := powns_below HOa.out hb6; rw [HSA.out] at h; exact h)
                have HOb6 := Lib.hid (show W6.ownsRow Wr.heap.size 3 1 (.slice gb sn gcb) sn (ints (nums N)) by have h := HOb.out; rw [HSN.out, hW6] at h; exact h)
                have HRa := Lib.hid (reads_own HOa6.out HSA.out HAm.out)
                have HRb := Lib.hid (reads_own HOb6.out HSN.out HNm.out)
                have h6w : Wr.heap.size ≤ W6.heap.size := Nat.le_trans h3w hb6.size
                have HU6 := Lib.hid (fun g c n (h : Value.slice ga n c = .slice (some ⟨g, 0, none⟩) n c) => HG2.out g)
                have HL6 := Lib.hid (HL.out.below HB6.out)
                have HP6 := Lib.hid (HP.out.below HB6.out)
                have r1 : W6.cell? ⟨bp, op + q * 2, none⟩ = some (.int .i64 px) := (World.cell?_of_block (a := ⟨bp, op + q * 2, none⟩) (hb6.block bp l3)).trans q1
                have r2 : W6.cell? ⟨bp, op + q * 2 + 1, none⟩ = some (.int .i64 py) := (World.cell?_of_block (a := ⟨bp, op + q * 2 + 1, none⟩) (hb6.block bp l3)).trans q2
                have l6 : bp < W6.heap.size := Nat.lt_of_lt_of_le l3 hb6.size
                rw [hW6]
                clear hW6 hb6 hX6 q1 q2 l3 HX2 HB3 HOa HOb p1 p2 l1
                go_wp2_with (first
                  | (go_at_call 17; (with_reducible refine (HRA1.out _ HL6.out).mono ?_); rintro e w5 ⟨⟨v, rfl, ho⟩, J5, d5, rfl⟩; obtain ⟨gw, cw, rfl⟩ := own_slice ho; have ho2 : (W6.plus J5 d5).ownsRow W6.heap.size 3 1 (.slice gw sa cw) sa (ints (nums A)) := (by have h := ho; unfold IOwn at h; rw [HSA.out] at h; exact h); (try simp only [HSA.out]); have HOw := Lib.hid ho2; have HRw := Lib.hid (reads_own ho2 HSA.out HAm.out); clear ho ho2)
                  | (go_at_call 18; (with_reducible refine (HS1.out _ _ _ _ _ (HRa.out.below (by ((try simp only [← Array.append_assoc]); repeat' first | with_reducible (first | apply Below.refl | assumption | apply bw_a | apply bw_d | apply bw_n | apply bw_e | apply bw_s | apply bw_p | apply bw_c | apply bw_r) | go_size))) (HRw.out.below (by ((try simp only [← Array.append_assoc]); repeat' first | with_reducible (first | apply Below.refl | assumption | apply bw_a | apply bw_d | apply bw_n | apply bw_e | apply bw_s | apply bw_p | apply bw_c | apply bw_r) | go_size)))).mono ?_); rintro e w6 ⟨rfl, J6, d6, rfl⟩)
                  | (go_at_call 19; (with_reducible refine (HRN1.out _ (HL6.out.below (by ((try simp only [← Array.append_assoc]); repeat' first | with_reducible (first | apply Below.refl | assumption | apply bw_a | apply bw_d | apply bw_n | apply bw_e | apply bw_s | apply bw_p | apply bw_c | apply bw_r) | go_size)))).mono ?_); rintro e w7 ⟨⟨v, rfl, ho⟩, J7, d7, rfl⟩; obtain ⟨gv, cv, rfl⟩ := own_slice ho; (try simp only [plus_plus, Array.append_assoc] at ho); have HRv := Lib.hid (reads_own (by have h := ho; unfold IOwn at h; rw [HSN.out] at h; exact h) HSN.out HNm.out); (try simp only [HSN.out]); clear ho)
                  | (go_at_call 18; (with_reducible refine (HS2.out _ _ _ _ _ (HRb.out.below (by ((try simp only [← Array.append_assoc]); repeat' first | with_reducible (first | apply Below.refl | assumption | apply bw_a | apply bw_d | apply bw_n | apply bw_e | apply bw_s | apply bw_p | apply bw_c | apply bw_r) | go_size))) (HRv.out.below (by ((try simp only [← Array.append_assoc]); repeat' first | with_reducible (first | apply Below.refl | assumption | apply bw_a | apply bw_d | apply bw_n | apply bw_e | apply bw_s | apply bw_p | apply bw_c | apply bw_r) | go_size)))).mono ?_); rintro e w8 ⟨rfl, J8, d8, rfl⟩))
                obtain ⟨W7, hW7⟩ : ∃ W7, W6.plus (J5 ++ (J6 ++ (J7 ++ J8))) d8 = W7 := ⟨_, rfl⟩
                have hb7 : Below W6.heap.size W6 W7 := by rw [← hW7]; exact Junk.below ⟨_, _, rfl⟩
                have HX7 := Lib.hid (HX6.out.below hb7)
                have HB7 := Lib.hid (HB6.out.trans (hb7.mono HB6.out.size))
                have HRw7 := Lib.hid (show Reads W7 gw sa (nums A) by rw [← hW7]; exact HRw.out.below (by ((try simp only [← Array.append_assoc]); repeat' first | with_reducible (first | apply Below.refl | assumption | apply bw_a | apply bw_d | apply bw_n | apply bw_e | apply bw_s | apply bw_p | apply bw_c | apply bw_r) | go_size)))
                have HKw := Lib.hid (show ∀ b o, gw = some ⟨b, o, none⟩ → W6.heap.size ≤ b from fun b o e => by
                  obtain ⟨_, hr⟩ := HOw.out
                  rcases hr with ⟨e2, _⟩ | ⟨g, cap, cur, e2, h1, _⟩
                  · injection e2 with e2; rw [e] at e2; cases e2
                  · injection e2 with e2
                    rw [e] at e2
                    injection e2 with e2
                    injection e2 with e2
                    omega)
                have hgx : ∃ gx, Wr.heap.size ≤ gx ∧ ¬ U2 gx ∧ (0 < sa → ga = some ⟨gx, 0, none⟩ ∧ gx < W6.heap.size) ∧ ∀ i, 0 ≤ i → i < sa → (∃ v, W7.cell? ⟨gx, i, none⟩ = some v) ∧ W7.frozen? ⟨gx, i, none⟩ = false := by
                  by_cases h0 : 0 < sa
                  · obtain ⟨g, c, e, h1, h2, h3, h4⟩ := own_row1 HOa6.out HSA.out h0
                    have e1 := e
                    injection e1 with e1 _ _
                    refine ⟨g, h1, fun hu => HG2.out g sa c (by rw [← e, HSA.out]) hu, fun _ => ⟨e1, h2⟩, fun i _ hi => ⟨?_, (frozen_of_block (hb7.block g h2)).trans (h4 i)⟩⟩
                    obtain ⟨u, hu⟩ := h3 i hi
                    exact ⟨u, (World.cell?_of_block (a := ⟨g, i, none⟩) (hb7.block g h2)).trans hu⟩
                  · exact ⟨W7.heap.size, Nat.le_trans h6w hb7.size, fun hu => by have := (HX7.out.at _ hu).2; omega, fun h => absurd h h0, fun i _ hi => by omega⟩
                obtain ⟨gx, hx1, hx2, hx3, hx4⟩ := hgx
                have HG1 := Lib.hid hx1
                have HGU := Lib.hid hx2
                have HG3 := Lib.hid hx3
                have HG4 := Lib.hid hx4
                have HU6' := Lib.hid (fun k (h : U2 k) => (HX6.out.at k h).2)
                have H67 := Lib.hid hb7
                have HBw := Lib.hid HBr.out.size
                rw [hW7]
                clear hW7 hb7 hx1 hx2 hx3 hx4 HX6 HB6 HRw HOw HRa HRb HRv HOa6 HOb6 HL6 HP6 r1 r2 l6 HS1 HS2 HRA1 HRN1 HA1 HN1 h6w HU6 hlrc HXr
                go_loopw [16] (fun x wr => FiC W7 gx sa x wr) (fun x _ => sa - (intOf x).toNat)
                case atStart => exact ⟨0, rfl, Nat.zero_le _, Kept2.refl _ _ _, fun i h hi => HG4.out i h hi⟩
                case round =>
                  obtain ⟨k, rfl, hk, hK, hc⟩ := hrel
                  have HKp := Lib.hid hK
                  have HCe := Lib.hid hc
                  by_cases hkl : k < sa
                  · obtain ⟨⟨u, c1⟩, f1⟩ := hc k (Nat.le_refl _) hkl
                    have hax := (HG3.out (by omega)).1
                    subst hax
                    have l1 := World.block_lt_of_cell? _ _ c1
                    have i5 : (k : Int) < (sa : Int) := by omega
                    clear hK hc
                    go_wp2_with fail
                    go_roundw
                    case rel =>
                      have h := fic_next hkl HKp.out HCe.out (.int .i64 (-7))
                      have e : ((k + 1 : Nat) : Int) = (k : Int) + 1 := by omega
                      rw [e] at h
                      exact h
                    case measure => simp [intOf]; omega
                  · obtain rfl : sa = k := by omega
                    have i5 : ¬ (sa : Int) < (sa : Int) := by omega
                    have HX8 := Lib.hid (HX7.out.keep fun k hu => HKp.out.blk k (HX7.out.at k hu).2 (fun e => HGU.out (e ▸ hu)) (fun e => HGU.out (e ▸ hu)))
                    have HB8 := Lib.hid (HB7.out.trans (HKp.out.below (show w.heap.size ≤ gx by have := HG1.out; have := HBw.out; omega) (show w.heap.size ≤ gx by have := HG1.out; have := HBw.out; omega) HB7.out.size))
                    have hne : 0 < sa → ∀ b o, gw = some ⟨b, o, none⟩ → b ≠ gx := fun h0 b o e => by have := HKw.out b o e; have := (HG3.out h0).2; omega
                    have HRw8 := Lib.hid (show Reads wr gw sa (nums A) from by
                      by_cases h0 : 0 < sa
                      · exact reads_same HRw7.out fun b o e hb => HKp.out.blk b hb (hne h0 b o e) (hne h0 b o e)
                      · have := HRw7.out
                        exact ⟨this.1, this.2.1, .inl (by omega)⟩)
                    have hix : ∃ bz ez, ix = .tuple #[.bool bz, .int .i64 ez] ∧ decide (z ∈ nums A) = bz ∧ ez = if 0 ≤ z ∧ z < j then 0 else 6 := by
                      rw [HInX.out, HZ.out]
                      by_cases hz : 0 ≤ z ∧ z < j
                      · exact ⟨rz, 0, by rw [if_pos hz], by rw [decide_eq_true hz, Bool.true_and], by rw [if_pos hz]⟩
                      · exact ⟨false, 6, by rw [if_neg hz], by rw [decide_eq_false hz, Bool.false_and], by rw [if_neg hz]⟩
                    obtain ⟨bz, ez, rfl, hbz, hez⟩ := hix
                    have HBz := Lib.hid hbz
                    have HEz := Lib.hid hez
                    obtain ⟨W8, rfl⟩ : ∃ W8, W8 = wr := ⟨_, rfl⟩
                    have lb8 : bp < W8.heap.size := Nat.lt_of_lt_of_le lbp HB8.out.size
                    have t1 : W8.cell? ⟨bp, op + q * 2, none⟩ = some (.int .i64 px) := (World.cell?_of_block (a := ⟨bp, op + q * 2, none⟩) ((HB8.out.block bp lbp).trans (HBr.out.block bp lbp).symm)).trans HPp.out.1
                    have t2 : W8.cell? ⟨bp, op + q * 2 + 1, none⟩ = some (.int .i64 py) := (World.cell?_of_block (a := ⟨bp, op + q * 2 + 1, none⟩) ((HB8.out.block bp lbp).trans (HBr.out.block bp lbp).symm)).trans HPp.out.2
                    clear hK hc HKp HCe hbz hez HInX HZ HG3 HG4 hne HX7 HB7 HRw7 hkl hk
                    go_wp2_with (go_at_call 20; refine (HI1.out _ U2 HX8.out).mono ?_; rintro e w9 ⟨⟨U9, rfl, hx9, _⟩, hk9⟩; have HX9 := Lib.hid hx9; have HK9 := Lib.hid hk9; clear hx9 hk9)
                    have HB9 := Lib.hid (HB8.out.trans (HK9.out.low.mono hwT))
                    have HRw9 := Lib.hid (reads_same HRw8.out fun b o e hb => HK9.out.keep b hb fun hu => by have := HKw.out b o e; have := HU6'.out b hu; omega)
                    have h1000 : sa ≤ 1000 := hAl
                    clear HX8 HB8 HK9 HRw8 HKw HU6' t1 t2 lb8
                    go_loopw [19, 20] (fun x y wr => YhAt w9 A z x y wr) (fun _ y _ => sa - (intOf y).toNat)
                    case atStart => exact ⟨0, rfl, Nat.zero_le _, by simp [nums], rfl⟩
                    case round =>
                      obtain ⟨k, rfl, hk, rfl, rfl⟩ := hrel
                      rw [HSA.out] at hk
                      by_cases hkl : k < sa
                      · obtain ⟨bo, oo, eo, oc, lo⟩ := reads_at HRw9.out (k := k) hkl
                        have htk := nums_takeS (S := A) (k := k) (z := z) (by rw [HSA.out]; exact hkl)
                        have HTk := Lib.hid htk
                        subst eo
                        have i6 : (k : Int) < (sa : Int) := by omega
                        clear htk
                        generalize ((A.getD k 0 : Nat) : Int) = y at *
                        generalize decide (z ∈ nums (A.take k)) = hb at *
                        cases hb with
                        | true =>
                          go_wp2_with fail
                          go_roundw
                          case rel => exact ⟨k + 1, by go_num, by rw [HSA.out]; omega, by rw [HTk.out]; rfl, rfl⟩
                          case measure => simp [intOf]; omega
                        | false =>
                          go_wp2_with fail
                          go_roundw
                          case rel => exact ⟨k + 1, by go_num, by rw [HSA.out]; omega, by rw [HTk.out]; rfl, rfl⟩
                          case measure => simp [intOf]; omega
                      · obtain rfl : k = sa := by omega
                        have htl : A.take k = A := List.take_of_length_le (by rw [HSA.out]; exact Nat.le_refl _)
                        rw [htl, HBz.out]
                        have hez := HEz.out
                        have i6 : ¬ (k : Int) < (k : Int) := by omega
                        clear htl
                        by_cases hz0 : 0 ≤ z
                        · have j1 : z ≥ 0 := hz0
                          by_cases hzj : z < j
                          · rw [if_pos ⟨hz0, hzj⟩] at hez
                            subst hez
                            go_wp2_with fail
                            go_roundw
                            case rel => exact ⟨q + 1, U9, by go_num, by omega, HX9.out, HB9.out⟩
                            case measure => simp [intOf]; omega
                          · rw [if_neg (fun h => hzj h.2)] at hez
                            subst hez
                            go_wp2_with fail
                            go_roundw
                            case rel => exact ⟨q + 1, U9, by go_num, by omega, HX9.out, HB9.out⟩
                            case measure => simp [intOf]; omega
                        · have j1 : ¬ z ≥ 0 := hz0
                          rw [if_neg (fun h => hz0 h.1)] at hez
                          subst hez
                          go_wp2_with fail
                          go_roundw
                          case rel => exact ⟨q + 1, U9, by go_num, by omega, HX9.out, HB9.out⟩
                          case measure => simp [intOf]; omega
              · obtain rfl : q = pn := by omega
                have i4 : ¬ (q : Int) < (q : Int) := by omega
                have HBr := Lib.hid hbr
                clear hbr hxr
                go_wp2_with (go_at_call 9; refine (HAw.out _).mono ?_; rintro e w5 ⟨rfl, J5, d5, rfl⟩)
                go_ret
                exact ⟨rfl, junk_of_below (HBr.out.trans ((Junk.below ⟨_, _, rfl⟩).mono HBr.out.size))⟩
end Go.Proofs.YthphdiigjimchaaGreat

/- The law RegionTiles: the walk of what is cut. -/
import Derived.Test.YtfkhefiilmdhmaaRnB
import Derived.Test.YtfkhefiilmdhmaaPick
import Derived.Test.YtfkhefiilmdhmaaReP
import Derived.Test.YtfkhefiilmdhmaaReH
import Derived.Test.YtfkhefiilmdhmaaRnT
import Derived.Test.YtfkhefiilmdhmaaRiLaws
namespace Go.Proofs.Ytfkhefiilmdhmaa
set_option linter.unusedVariables false
set_option linter.unusedSimpArgs false
open Go.RowKit

/-- Two points that have been laid. -/
def EndAt (W : World) (u v x y : Int) (s t : Value) (wx : World) : Prop :=
  ∃ A B V, s = .pointer (some ⟨A, 0, none⟩) ∧ t = .pointer (some ⟨B, 0, none⟩) ∧ V = wx ∧ V.cell? ⟨A, 0, none⟩ = some (.int .i64 u) ∧ V.cell? ⟨A, 1, none⟩ = some (.int .i64 v) ∧ V.cell? ⟨B, 0, none⟩ = some (.int .i64 x) ∧ V.cell? ⟨B, 1, none⟩ = some (.int .i64 y) ∧ Below W.heap.size W V ∧ W.heap.size ≤ A ∧ W.heap.size ≤ B
/-- A slice is put behind a row of the call's own, in a statement that draws its order. -/
theorem step_pall {ops : Array Oper} {o : Oper} {a : Act} {w : World} {K : Act → World → Prop} {Q : Exit → Act → World → Prop} {E : Prop} (hgd : o.guard = none) (s x : Operand)
    (ho : o.op = .call { callee := .builtin .append, args := #[s, x], argTypes := #[28, 28] }) (base : Nat) (v : Value) (n : Nat) (L : List (Int × Int)) (hs : a.eval s = v) (hown : w.ownsRow base 27 2 v n (pcells L))
    (ad : Addr) (len cap : Nat) (M : List (Int × Int)) (hx : a.eval x = .slice (some ad) len cap) (hr : PReads w (some ad) len M) (hm : n + len ≤ 1000) (hb : base ≤ w.heap.size)
    (h : ∀ v' w', w'.ownsRow base 27 2 v' (n + len) (pcells (L ++ M)) → w.grownBy w' v.ownBlock → K (a.put o.dst v') w') :
    if Region.wanted o (yielded ops a.tmps) = true then Oper.wp Try.prog o a w K Q else E := by
  have hw : Region.wanted o (yielded ops a.tmps) = true := by simp [Region.wanted, hgd]
  rw [if_pos hw]
  obtain ⟨i0, hi0, hz0, hz1, hz2⟩ := info_pt
  refine wp_append_own _ s x _ ho base 27 i0 _ 2 16 Try.underlying28 hi0 hz0 hz1 hz2 rfl (by decide) _ n (pcells L) hs hown ad len cap (pcells M) hx
    (by rw [pcells_len, hr.1]) hr.cells (pcells_one M) (by simp only [maxLen]; omega) (by omega) hb ?_
  intro v' w' hown' hg _
  rw [← pcells_app] at hown'
  exact h _ _ hown' hg
def pickC (s n : Int) : Int := s % n
theorem pick_rng {s n : Int} (h : 0 < n) : 0 ≤ pickC s n ∧ pickC s n < n := ⟨Int.emod_nonneg _ (by omega), Int.emod_lt_of_pos _ h⟩
theorem c_pick (s n : Int) (hs : -9223372036854775808 ≤ s ∧ s ≤ 9223372036854775807) (h0 : 0 < n) (h1 : n ≤ 9223372036854775807) (w : World) : Calls Try.prog 7 #[.int .i64 s, .int .i64 n] w fun e w' => e = .returned (.int .i64 (pickC s n)) ∧ Junk w w' := by
  have := kp_Pick w s n hs ⟨by omega, h1⟩
  rw [if_neg (by omega)] at this
  exact this

/-- A region of one ring that has been laid. -/
def RgAt (X : World) (N : List Pt) (t : Value) (wx : World) : Prop :=
  ∃ C b V, t = .pointer (some ⟨C, 0, none⟩) ∧ V = wx ∧ V.cell? ⟨C, 0, none⟩ = some (.slice (some ⟨b, 0, none⟩) 1 1) ∧ GRC V (some ⟨b, 0, none⟩) 1 1 [N] ∧ Below X.heap.size X V
theorem prc_set {W : World} {a : Option Addr} {n c : Nat} {K : List Pt} (h : PRC W a n c K) {C : Nat} {u : Value} (hC : ∀ x, a = some x → x.block ≠ C) : PRC (W.setCell ⟨C, 0, none⟩ u) a n c K := by
  obtain ⟨⟨h1, h2⟩, h3⟩ := h
  refine ⟨⟨h1, ?_⟩, h3⟩
  rcases h2 with h2 | ⟨b, o, rfl, hc⟩
  · exact .inl h2
  · refine .inr ⟨b, o, rfl, fun i hi => ?_⟩
    have e := Below.heap_setCell W ⟨C, 0, none⟩ u b (hC _ rfl)
    obtain ⟨k1, k2⟩ := hc i hi
    exact ⟨(World.cell?_of_block (a := ⟨b, o + i * 2, none⟩) e).trans k1, (World.cell?_of_block (a := ⟨b, o + i * 2 + 1, none⟩) e).trans k2⟩
/-- A region of one ring in a variable that was laid ahead of the ring. -/
theorem rg_late {X W7 W8 F : World} {N : List Pt} {C b g7 n c : Nat} (hcell : F.cell? ⟨C, 0, none⟩ = some (.slice (some ⟨b, 0, none⟩) 1 1)) (h7 : PRC W7 (some ⟨g7, 0, none⟩) n c N) (hC : g7 ≠ C) (e : W7.setCell ⟨C, 0, none⟩ (.slice (some ⟨b, 0, none⟩) 1 1) = W8) (hb : Below W8.heap.size W8 F) (hrow : F.rowAt b = some #[.slice (some ⟨g7, 0, none⟩) n c]) (hX : Below X.heap.size X F) : RgAt X N (.pointer (some ⟨C, 0, none⟩)) F := by
  subst e
  exact ⟨_, _, _, rfl, rfl, hcell, grc_one hrow ((prc_set h7 (fun x hx => by cases hx; exact hC)).below hb), hX⟩
theorem row_some {w : World} {base : Nat} {v : Value} {L : List Pt} {n : Nat} (hn : L.length = n) (h0 : 0 < n) (h : w.ownsRow base 27 2 v n (pcells L)) : ∃ b o c, v = .slice (some ⟨b, o, none⟩) n c ∧ PRC w (some ⟨b, o, none⟩) n c L := by
  obtain ⟨a, c, e, hp⟩ := prc_owns h
  rcases hp.rd.2 with h1 | ⟨b, o, rfl, _⟩
  · omega
  · exact ⟨b, o, c, e, hp⟩
/-- The line's points between, put into the box. -/
def cutL (lx ly wd tl : Int) (K : List Pt) : List Pt := K.map fun q => (lx + pickC q.1 wd, ly + pickC q.2 tl)
theorem cut_step {lx ly wd tl : Int} {K : List Pt} {k : Nat} (hk : k < K.length) : (cutL lx ly wd tl K).take (k + 1) = (cutL lx ly wd tl K).take k ++ [(lx + pickC (K.getD k (0, 0)).1 wd, ly + pickC (K.getD k (0, 0)).2 tl)] := by
  unfold cutL
  refine take_next (by rw [List.length_map]; exact hk) ?_
  rw [List.getD_eq_getElem?_getD, List.getElem?_map, List.getD_eq_getElem?_getD, List.getElem?_eq_getElem hk]
  rfl
theorem tiles_math {p : Pt} {lx ly hx hy wd tl f g : Int} {K : List Pt} (b1 : (-1099511627775 ≤ lx ∧ lx ≤ 1099511627775) ∧ (-1099511627775 ≤ ly ∧ ly ≤ 1099511627775)) (b2 : (-1099511627775 ≤ hx ∧ hx ≤ 1099511627775) ∧ (-1099511627775 ≤ hy ∧ hy ≤ 1099511627775)) (q1 : ¬ hx ≤ lx) (q2 : ¬ hy ≤ ly) (hw : hx - lx + 1 = wd ∧ hy - ly + 1 = tl) (hfg : (ly ≤ f ∧ f ≤ hy) ∧ ly ≤ g ∧ g ≤ hy) :
    (inF p.1 p.2 lx ly hx hy = true → inQ p ([(lx, ly), (hx, ly)] ++ ((lx, f) :: cutL lx ly wd tl K ++ [(hx, g)]).reverse) = !inQ p ([(hx, hy), (lx, hy)] ++ ((lx, f) :: cutL lx ly wd tl K ++ [(hx, g)]))) ∧
    (inF p.1 p.2 lx ly hx hy = false → inQ p ([(lx, ly), (hx, ly)] ++ ((lx, f) :: cutL lx ly wd tl K ++ [(hx, g)]).reverse) = false ∧ inQ p ([(hx, hy), (lx, hy)] ++ ((lx, f) :: cutL lx ly wd tl K ++ [(hx, g)])) = false) := by
  refine in_tiles (okP_iff.mpr b1) (okP_iff.mpr b2) (by omega) (by omega) hfg.1.1 hfg.1.2 hfg.2.1 hfg.2.2 ?_
  intro a ha
  unfold cutL at ha
  obtain ⟨q, _, rfl⟩ := List.mem_map.1 ha
  have h1 := pick_rng (s := q.1) (n := wd) (by omega)
  have h2 := pick_rng (s := q.2) (n := tl) (by omega)
  simp only
  omega
/-- Between two rounds: the line so far. -/
def LiAt (V : World) (lx ly wd tl f : Int) (K : List Pt) (v i : Value) (wr : World) : Prop :=
  ∃ k : Nat, i = .int .i64 (k : Int) ∧ k ≤ K.length ∧ wr.ownsRow V.heap.size 27 2 v ((lx, f) :: (cutL lx ly wd tl K).take k).length (pcells ((lx, f) :: (cutL lx ly wd tl K).take k)) ∧ Below V.heap.size V wr

set_option maxRecDepth 100000 in
set_option maxHeartbeats 8000000 in
theorem tiles_in (px py lx ly hx hy s t : Int) (bs : -9223372036854775808 ≤ s ∧ s ≤ 9223372036854775807) (bt : -9223372036854775808 ≤ t ∧ t ≤ 9223372036854775807) (w : World) (a : Option Addr) (n ca : Nat) (K : List Pt) (hK : PRC w a n ca K) (hkb : ∀ q ∈ K, (-9223372036854775808 ≤ q.1 ∧ q.1 ≤ 9223372036854775807) ∧ (-9223372036854775808 ≤ q.2 ∧ q.2 ≤ 9223372036854775807)) (e1 : okP lx ly = true) (e2 : okP hx hy = true) (q1 : ¬ hx ≤ lx) (q2 : ¬ hy ≤ ly) (h50 : ¬ 50 < n) :
    Calls Try.prog 5 #[pt px py, pt lx ly, pt hx hy, .int .i64 s, .int .i64 t, .slice a n ca] w fun e w' => e = .returned (.bool true) ∧ Junk w w' := by
  have HAw := Lib.hid l_reAwake
  have HV1 := Lib.hid (fun w' => n_ptValid lx ly w')
  have HV2 := Lib.hid (fun w' => n_ptValid hx hy w')
  rw [e1] at HV1
  rw [e2] at HV2
  have b1 := okP_iff.mp e1
  have b2 := okP_iff.mp e2
  have i1 : ¬ (50 : Int) < (n : Int) := by omega
  have HAt := Lib.hid l_reAt
  obtain ⟨wd, hwd⟩ : ∃ wd, hx - lx + 1 = wd := ⟨_, rfl⟩
  obtain ⟨tl, htl⟩ : ∃ tl, hy - ly + 1 = tl := ⟨_, rfl⟩
  have w1 : IntKind.i64.wrap (hx - lx) = hx - lx := by simp [IntKind.wrap, IntKind.signed, IntKind.bits]; omega
  have w2 : IntKind.i64.wrap (hx - lx + 1) = wd := by rw [← hwd]; simp [IntKind.wrap, IntKind.signed, IntKind.bits]; omega
  have w3 : IntKind.i64.wrap (hy - ly) = hy - ly := by simp [IntKind.wrap, IntKind.signed, IntKind.bits]; omega
  have w4 : IntKind.i64.wrap (hy - ly + 1) = tl := by rw [← htl]; simp [IntKind.wrap, IntKind.signed, IntKind.bits]; omega
  have w7 : IntKind.i64.wrap wd = wd := by simp [IntKind.wrap, IntKind.signed, IntKind.bits]; omega
  have w8 : IntKind.i64.wrap tl = tl := by simp [IntKind.wrap, IntKind.signed, IntKind.bits]; omega
  have r1 := pick_rng (s := s) (n := tl) (by omega)
  have r2 := pick_rng (s := t) (n := tl) (by omega)
  have HP1 := Lib.hid (fun w' => c_pick s tl bs (by omega) (by omega) w')
  have HP2 := Lib.hid (fun w' => c_pick t tl bt (by omega) (by omega) w')
  obtain ⟨f, hf⟩ : ∃ f, ly + pickC s tl = f := ⟨_, rfl⟩
  obtain ⟨g, hg⟩ : ∃ g, ly + pickC t tl = g := ⟨_, rfl⟩
  have w5 : IntKind.i64.wrap (ly + pickC s tl) = f := by rw [← hf]; simp [IntKind.wrap, IntKind.signed, IntKind.bits]; omega
  have w6 : IntKind.i64.wrap (ly + pickC t tl) = g := by rw [← hg]; simp [IntKind.wrap, IntKind.signed, IntKind.bits]; omega
  have HFG := Lib.hid (show (ly ≤ f ∧ f ≤ hy) ∧ ly ≤ g ∧ g ≤ hy by omega)
  have HKK := Lib.hid hK
  have HKB := Lib.hid hkb
  have HWD := Lib.hid (show hx - lx + 1 = wd ∧ hy - ly + 1 = tl from ⟨hwd, htl⟩)
  clear bs bt hK hf hg r1 r2 e1 e2 h50 hwd htl hkb
  generalize pickC s tl = fs at *
  generalize pickC t tl = gt at *
  unfold pt at *
  go_enter Try.func5, Try.ntmps5
  go_upto_region 4 with (first | (go_at_call 11; refine (HAw.out _).mono ?_; rintro e w1 ⟨rfl, J1, d1, rfl⟩) | (go_at_call 16; (first | (with_reducible refine (HV1.out _).mono ?_) | (with_reducible refine (HV2.out _).mono ?_)); rintro e w1 ⟨rfl, J2, d2, rfl⟩))
  clear HV1 HV2
  obtain ⟨W, hW⟩ : ∃ W, (((w.alloc (.cells #[.int .i64 px, .int .i64 py] 27)).alloc (.cells #[.int .i64 lx, .int .i64 ly] 27)).alloc (.cells #[.int .i64 hx, .int .i64 hy] 27)) = W := ⟨_, rfl⟩
  have c0 : W.cell? ⟨w.heap.size, 0, none⟩ = some (.int .i64 px) := by rw [← hW]; simp [go_sem]
  have c1 : W.cell? ⟨w.heap.size, 1, none⟩ = some (.int .i64 py) := by rw [← hW]; simp [go_sem]
  have c2 : W.cell? ⟨w.heap.size + 1, 0, none⟩ = some (.int .i64 lx) := by rw [← hW]; simp [go_sem]
  have c3 : W.cell? ⟨w.heap.size + 1, 1, none⟩ = some (.int .i64 ly) := by rw [← hW]; simp [go_sem]
  have c4 : W.cell? ⟨w.heap.size + 1 + 1, 0, none⟩ = some (.int .i64 hx) := by rw [← hW]; simp [go_sem]
  have c5 : W.cell? ⟨w.heap.size + 1 + 1, 1, none⟩ = some (.int .i64 hy) := by rw [← hW]; simp [go_sem]
  have hj : Below w.heap.size w W := by rw [← hW]; (repeat' (first | (with_reducible exact Below.refl _ _) | (with_reducible assumption) | (with_reducible refine Below.alloc ?_ ?_ _) | (with_reducible refine Below.drew ?_) | (with_reducible refine below_drewN ?_ _) | (with_reducible refine below_plus ?_ ?_ _ _) | (with_reducible refine Below.setCell ?_ ?_ _) | (with_reducible refine Below.setRow ?_ ?_ _) | go_size))
  have l0 : w.heap.size < W.heap.size := World.block_lt_of_cell? _ _ c0
  have l1 : w.heap.size + 1 < W.heap.size := World.block_lt_of_cell? _ _ c2
  have l2 : w.heap.size + 1 + 1 < W.heap.size := World.block_lt_of_cell? _ _ c4
  rw [hW]
  clear hW
  refine region_quiet_all (C := Cls W) (by kernel_rfl) (by kernel_rfl) ⟨_, _, rfl⟩ ?_
  repeat (first | (refine qw_skip (by rfl) ?_; simp only [Act.put, List.setIfInBounds_toArray, List.set_cons_succ, List.set_cons_zero]) | (refine qw_want (by rfl) (fun K hK => ?_); go_simp; first | (refine hK _ ?_; clear hK K) | (apply Exists.intro; refine ⟨?_, hK _ ?_⟩; (rintro w3_ ⟨J3_, d3_, rfl⟩; first | (with_reducible exact rfl) | (go_simp; with_reducible exact rfl) | (go_simp; (first | (with_reducible refine (HAw.out _).mono ?_)); rintro e_ w_ ⟨rfl, J4_, d4_, rfl⟩; exact ⟨rfl, J3_ ++ J4_, d4_, by simp only [plus_plus, Array.append_assoc]⟩)); clear hK K)))
  refine qw_nil ?_
  rintro w6 ⟨J3, d3, rfl⟩
  go_upto_region 5 with fail
  go_cut [16, 17] from 53 to 82 (fun s t wx => EndAt W lx f hx g s t wx)
  case first =>
    go_region_held3 (fun w' => w'.cell? ⟨w.heap.size + 1, 0, none⟩ = some (.int .i64 lx) ∧ w'.cell? ⟨w.heap.size + 1, 1, none⟩ = some (.int .i64 ly) ∧ w'.cell? ⟨w.heap.size + 1 + 1, 0, none⟩ = some (.int .i64 hx)) (first | (refine ⟨?_, ?_, ?_⟩ <;> (simp [go_sem, *]; done))) ((go_simp; (first
      | (go_at_call 7; (first | (with_reducible refine (HP1.out _).mono ?_) | (with_reducible refine (HP2.out _).mono ?_)); rintro e w1 ⟨rfl, J4, d4, rfl⟩; go_simp)
      | (go_at_call 17; (with_reducible refine (HAt.out _ _ _).mono ?_); rintro e w1 ⟨rfl, J5, d5, rfl⟩; go_simp))))
    all_goals (go_wp2_with fail)
    all_goals go_meet
    all_goals exact ⟨_, _, _, rfl, rfl, rfl, by simp [go_sem], by simp [go_sem], by simp [go_sem], by simp [go_sem], by ((try simp only [← Array.append_assoc]); repeat' (first | (with_reducible exact Below.refl _ _) | (with_reducible assumption) | (with_reducible refine Below.alloc ?_ ?_ _) | (with_reducible refine Below.drew ?_) | (with_reducible refine below_drewN ?_ _) | (with_reducible exact below_d _ _ _ _ _) | (with_reducible refine below_snoc _ _ ?_ ?_) | (with_reducible refine below_plus ?_ ?_ _ _) | (with_reducible refine Below.setCell ?_ ?_ _) | (with_reducible refine Below.setRow ?_ ?_ _) | go_size)), by first | omega | (simp; done) | (simp; omega), by first | omega | (simp; done) | (simp; omega)⟩
  case rest =>
  obtain ⟨A, B, V, rfl, rfl, rfl, a0, a1, a2, a3, hBx, hA, hB⟩ := hcut
  have v0 := (World.cell?_of_block (hBx.block _ l0)).trans c0
  have v1 := (World.cell?_of_block (hBx.block _ l0)).trans c1
  have v2 := (World.cell?_of_block (hBx.block _ l1)).trans c2
  have v3 := (World.cell?_of_block (hBx.block _ l1)).trans c3
  have v4 := (World.cell?_of_block (hBx.block _ l2)).trans c4
  have v5 := (World.cell?_of_block (hBx.block _ l2)).trans c5
  have hwV : Below w.heap.size w V := hj.trans (hBx.mono hj.size)
  have hKV := HKK.out.below hwV
  have HJV := Lib.hid hwV
  clear c0 c1 c2 c3 c4 c5 hj l0 l1 l2 hBx hA hB HP1 HP2 w5 w6
  have l0 : w.heap.size < V.heap.size := World.block_lt_of_cell? _ _ v0
  have l1 : w.heap.size + 1 < V.heap.size := World.block_lt_of_cell? _ _ v2
  have l2 : w.heap.size + 1 + 1 < V.heap.size := World.block_lt_of_cell? _ _ v4
  have lA : A < V.heap.size := World.block_lt_of_cell? _ _ a0
  have lB : B < V.heap.size := World.block_lt_of_cell? _ _ a2
  have L1 := Lib.hid hKV.rd.1
  have HKV := Lib.hid hKV
  have HWp := Lib.hid (show 0 < wd ∧ 0 < tl ∧ wd ≤ 9223372036854775807 ∧ tl ≤ 9223372036854775807 by have := HWD.out; omega)
  clear hKV hwV HKK
  go_upto_region 8 with fail
  go_loopw [18, 19] (fun v i wr => LiAt V lx ly wd tl f K v i wr) (fun _ i _ => n - (intOf i).toNat)
  case atStart => exact ⟨0, rfl, by omega, powns_blt (W := V) (L := [(lx, f)]) (n := 1) rfl (by simp [pcells]) (Nat.le_refl _) (by decide) rfl, (Below.refl _ V).alloc (Nat.le_refl _) _⟩
  case round =>
    obtain ⟨k, rfl, k1, hown, hBr⟩ := hrel
    rw [L1.out] at k1
    have hsz := hBr.size
    have u0 := (World.cell?_of_block (hBr.block _ l0)).trans v0
    have u1 := (World.cell?_of_block (hBr.block _ l0)).trans v1
    have u2 := (World.cell?_of_block (hBr.block _ l1)).trans v2
    have u3 := (World.cell?_of_block (hBr.block _ l1)).trans v3
    have u4 := (World.cell?_of_block (hBr.block _ l2)).trans v4
    have u5 := (World.cell?_of_block (hBr.block _ l2)).trans v5
    have t2 := (World.cell?_of_block (hBr.block _ lB)).trans a2
    have t3 := (World.cell?_of_block (hBr.block _ lB)).trans a3
    by_cases hlt : k < n
    · rcases HKV.out.rd.2 with h | ⟨b, o, rfl, hc⟩
      · omega
      obtain ⟨p1, p2⟩ := hc k hlt
      have hkK : k < K.length := by rw [L1.out]; exact hlt
      have hmem : K.getD k (0, 0) ∈ K := by rw [List.getD_eq_getElem?_getD, List.getElem?_eq_getElem hkK]; exact List.getElem_mem hkK
      obtain ⟨bx, by_⟩ := HKB.out _ hmem
      have hst := cut_step (lx := lx) (ly := ly) (wd := wd) (tl := tl) hkK
      obtain ⟨x, y, hx⟩ : ∃ x y : Int, K.getD k (0, 0) = (x, y) := ⟨_, _, rfl⟩
      rw [hx] at p1 p2 bx by_ hst
      simp only at p1 p2 bx by_ hst
      have hbV : b < V.heap.size := World.block_lt_of_cell? _ _ p1
      have s1 := (World.cell?_of_block (hBr.block _ hbV)).trans p1
      have s2 := (World.cell?_of_block (hBr.block _ hbV)).trans p2
      obtain ⟨k1a, k2a, k3a, k4a⟩ := HWp.out
      have HPx := Lib.hid (fun w' => c_pick x wd bx k1a k3a w')
      have HPy := Lib.hid (fun w' => c_pick y tl by_ k2a k4a w')
      have rx := pick_rng (s := x) k1a
      have ry := pick_rng (s := y) k2a
      have hwdx := HWD.out
      generalize pickC x wd = fx at *
      generalize pickC y tl = gy at *
      obtain ⟨P, hP⟩ : ∃ P, lx + fx = P := ⟨_, rfl⟩
      obtain ⟨Q, hQ⟩ : ∃ Q, ly + gy = Q := ⟨_, rfl⟩
      rw [hP, hQ] at hst
      have w5 : IntKind.i64.wrap (lx + fx) = P := by rw [hP]; simp [IntKind.wrap, IntKind.signed, IntKind.bits]; omega
      have w6 : IntKind.i64.wrap (ly + gy) = Q := by rw [hQ]; simp [IntKind.wrap, IntKind.signed, IntKind.bits]; omega
      have hlen : ((lx, f) :: (cutL lx ly wd tl K).take k).length ≤ 100 := by rw [List.length_cons, List.length_take]; omega
      obtain ⟨Fk, hFk⟩ : ∃ Fk, (lx, f) :: (cutL lx ly wd tl K).take k = Fk := ⟨_, rfl⟩
      have HST := Lib.hid (show (lx, f) :: (cutL lx ly wd tl K).take (k + 1) = Fk ++ [(P, Q)] by rw [hst, ← hFk]; rfl)
      rw [hFk] at hown hlen
      obtain ⟨fl, hfl⟩ : ∃ fl, Fk.length = fl := ⟨_, rfl⟩
      have HFL := Lib.hid hfl
      rw [hfl] at hown hlen
      have HOW := Lib.hid hown
      have HB := Lib.hid hBr
      have i2 : (k : Int) < (n : Int) := by omega
      obtain ⟨wo, rfl⟩ : ∃ wo : World, wo = wr := ⟨_, rfl⟩
      have lb : b < wo.heap.size := Nat.lt_of_lt_of_le hbV hsz
      have m1 : w.heap.size + 1 < wo.heap.size := Nat.lt_of_lt_of_le l1 hsz
      clear hc hmem bx by_ hst hx hP hQ rx ry hwdx hFk hfl hown hBr hkK k1a k2a k3a k4a
      go_upto_region 10 with fail
      go_region_held3 (fun w' => w'.cell? ⟨w.heap.size + 1, 0, none⟩ = some (.int .i64 lx) ∧ w'.cell? ⟨w.heap.size + 1, 1, none⟩ = some (.int .i64 ly) ∧ w'.cell? ⟨b, o + k * 2, none⟩ = some (.int .i64 x) ∧ w'.cell? ⟨b, o + k * 2 + 1, none⟩ = some (.int .i64 y)) (first | (refine ⟨?_, ?_, ?_, ?_⟩ <;> (simp [go_sem, *]; done))) (first
        | (go_simp; go_at_call 7; (first | (with_reducible refine (HPx.out _).mono ?_) | (with_reducible refine (HPy.out _).mono ?_)); rintro e w1 ⟨rfl, J4, d4, rfl⟩; go_simp)
        | (go_simp; go_at_call 17; (with_reducible refine (HAt.out _ _ _).mono ?_); rintro e w1 ⟨rfl, J5, d5, rfl⟩; go_simp)
        | (refine step_papp rfl (.tmp 91) (.tmp 113) rfl V.heap.size _ _ Fk rfl (powns_below HOW.out (by ((try simp only [← Array.append_assoc]); repeat' (first | (with_reducible exact Below.refl _ _) | (with_reducible assumption) | (with_reducible refine Below.alloc ?_ ?_ _) | (with_reducible refine Below.drew ?_) | (with_reducible refine below_drewN ?_ _) | (with_reducible exact below_d _ _ _ _ _) | (with_reducible refine below_snoc _ _ ?_ ?_) | (with_reducible refine below_plus ?_ ?_ _ _) | (with_reducible refine Below.setCell ?_ ?_ _) | (with_reducible refine Below.setRow ?_ ?_ _) | go_size)))) _ P Q rfl (by simp [go_sem]) (by simp [go_sem]) (by omega) (by simp; omega) ?_; intro v' w' hown' hg'; have hgb := grown_below (B := V.heap.size) (a := V) (HB.out.trans (by ((try simp only [← Array.append_assoc]); repeat' (first | (with_reducible exact Below.refl _ _) | (with_reducible assumption) | (with_reducible refine Below.alloc ?_ ?_ _) | (with_reducible refine Below.drew ?_) | (with_reducible refine below_drewN ?_ _) | (with_reducible exact below_d _ _ _ _ _) | (with_reducible refine below_snoc _ _ ?_ ?_) | (with_reducible refine below_plus ?_ ?_ _ _) | (with_reducible refine Below.setCell ?_ ?_ _) | (with_reducible refine Below.setRow ?_ ?_ _) | go_size)))) hg' (by simp; omega) (powns_block HOW.out); have K1 := (World.cell?_of_block (a := ⟨w.heap.size + 1, 0, none⟩) (hgb.block _ l1)).trans v2; have K2 := (World.cell?_of_block (a := ⟨w.heap.size + 1, 1, none⟩) (hgb.block _ l1)).trans v3; have K3 := (World.cell?_of_block (a := ⟨b, o + k * 2, none⟩) (hgb.block _ hbV)).trans p1; have K4 := (World.cell?_of_block (a := ⟨b, o + k * 2 + 1, none⟩) (hgb.block _ hbV)).trans p2; go_simp))
      all_goals
        go_wp2_with fail
        go_roundw
        case rel => exact ⟨k + 1, by go_num, by rw [L1.out]; omega, by rw [HST.out, List.length_append, HFL.out]; exact hown', hgb⟩
        case measure => simp [intOf]; omega
    · obtain rfl : k = n := by omega
      have hM : (cutL lx ly wd tl K).take k = cutL lx ly wd tl K := List.take_of_length_le (by unfold cutL; rw [List.length_map, L1.out]; omega)
      have hlen : ((lx, f) :: cutL lx ly wd tl K).length = k + 1 := by rw [List.length_cons]; unfold cutL; rw [List.length_map, L1.out]
      rw [hM, hlen] at hown
      have hti := tiles_math (p := (px, py)) (lx := lx) (ly := ly) (hx := hx) (hy := hy) (by omega) (by omega) (by omega) (by omega) HWD.out HFG.out (K := K)
      have hl2 : ((lx, f) :: cutL lx ly wd tl K ++ [(hx, g)]).length = k + 2 := by rw [List.length_append, hlen]; rfl
      obtain ⟨M0, hM0⟩ : ∃ M0, (lx, f) :: cutL lx ly wd tl K = M0 := ⟨_, rfl⟩
      rw [hM0] at hown hti hl2
      obtain ⟨M, hMM⟩ : ∃ M, M0 ++ [(hx, g)] = M := ⟨_, rfl⟩
      rw [hMM] at hti hl2
      have HMM := Lib.hid hMM
      obtain ⟨MR, hMR⟩ : ∃ MR, M.reverse = MR := ⟨_, rfl⟩
      rw [hMR] at hti
      have HTu := Lib.hid (fun w' x c h => show Calls Try.prog 19 #[.slice x (k + 2) c] w' fun e w'' => (∃ v, e = .returned v ∧ POwn w' w'' v MR) ∧ Junk w' w'' by have := c_rgTurned w' x (k + 2) c M h (by omega); rw [hMR] at this; exact this)
      have HMR := Lib.hid (show MR.length = k + 2 by rw [← hMR, List.length_reverse, hl2])
      have HML := Lib.hid hl2
      obtain ⟨N1, hN1⟩ : ∃ N1, [(lx, ly), (hx, ly)] ++ MR = N1 := ⟨_, rfl⟩
      obtain ⟨N2, hN2⟩ : ∃ N2, [(hx, hy), (lx, hy)] ++ M = N2 := ⟨_, rfl⟩
      have ln1 : N1.length = k + 4 := by rw [← hN1, List.length_append, HMR.out]; simp; omega
      have ln2 : N2.length = k + 4 := by rw [← hN2, List.length_append, hl2]; simp; omega
      rw [hN1, hN2] at hti
      have HN1 := Lib.hid hN1
      have HN2 := Lib.hid hN2
      have HIa := fun w' x h => c_reIn px py w' x 1 1 [N1] h (by decide) (by simp; omega)
      have HIb := fun w' x h => c_reIn px py w' x 1 1 [N2] h (by decide) (by simp; omega)
      simp only [reg_one] at HIa HIb
      have HIa := Lib.hid HIa
      have HIb := Lib.hid HIb
      have HPI := Lib.hid (fun w' => n_ptIn px py lx ly hx hy w')
      simp only at hti
      generalize inQ (px, py) N1 = qa at *
      generalize inQ (px, py) N2 = qb at *
      generalize inF px py lx ly hx hy = io at *
      have HTI := Lib.hid hti
      have HOW := Lib.hid hown
      have HB := Lib.hid hBr
      have HOf := Lib.hid l_reOf
      have i2 : ¬ (k : Int) < (k : Int) := by omega
      unfold pt at HIa HIb
      unfold pt bxV at HPI
      obtain ⟨wo, rfl⟩ : ∃ wo : World, wo = wr := ⟨_, rfl⟩
      have m0 : w.heap.size < wo.heap.size := Nat.lt_of_lt_of_le l0 hsz
      have m1 : w.heap.size + 1 < wo.heap.size := Nat.lt_of_lt_of_le l1 hsz
      have m2 : w.heap.size + 1 + 1 < wo.heap.size := Nat.lt_of_lt_of_le l2 hsz
      have mB : B < wo.heap.size := Nat.lt_of_lt_of_le lB hsz
      clear hM hlen hM0 hMM hMR hl2 hN1 hN2 ln1 ln2 hti hown hBr
      go_upto_region 12 with (at_builtin; refine wpList_papp rfl (.tmp 115) (.tmp 117) rfl V.heap.size _ _ M0 rfl (powns_below HOW.out (by ((try simp only [← Array.append_assoc]); repeat' (first | (with_reducible exact Below.refl _ _) | (with_reducible assumption) | (with_reducible refine Below.alloc ?_ ?_ _) | (with_reducible refine Below.drew ?_) | (with_reducible refine below_drewN ?_ _) | (with_reducible exact below_d _ _ _ _ _) | (with_reducible refine below_snoc _ _ ?_ ?_) | (with_reducible refine below_plus ?_ ?_ _ _) | (with_reducible refine Below.setCell ?_ ?_ _) | (with_reducible refine Below.setRow ?_ ?_ _) | go_size)))) _ hx g rfl (by simp [go_sem]) (by simp [go_sem]) (by omega) (by simp; omega) ?_; intro v' X hown' hg'; rw [HMM.out] at hown'; obtain ⟨bl, ol, cl, rfl, hPL⟩ := row_some HML.out (by omega) hown'; have HPL := Lib.hid hPL; have hgb := grown_below (B := V.heap.size) (a := V) (HB.out.trans (by ((try simp only [← Array.append_assoc]); repeat' (first | (with_reducible exact Below.refl _ _) | (with_reducible assumption) | (with_reducible refine Below.alloc ?_ ?_ _) | (with_reducible refine Below.drew ?_) | (with_reducible refine below_drewN ?_ _) | (with_reducible exact below_d _ _ _ _ _) | (with_reducible refine below_snoc _ _ ?_ ?_) | (with_reducible refine below_plus ?_ ?_ _ _) | (with_reducible refine Below.setCell ?_ ?_ _) | (with_reducible refine Below.setRow ?_ ?_ _) | go_size)))) hg' (by simp; omega) (powns_block HOW.out); clear hown' hg' hPL)
      have x0 := (World.cell?_of_block (hgb.block _ l0)).trans v0
      have x1 := (World.cell?_of_block (hgb.block _ l0)).trans v1
      have x2 := (World.cell?_of_block (hgb.block _ l1)).trans v2
      have x3 := (World.cell?_of_block (hgb.block _ l1)).trans v3
      have x4 := (World.cell?_of_block (hgb.block _ l2)).trans v4
      have x5 := (World.cell?_of_block (hgb.block _ l2)).trans v5
      have hXs := hgb.size
      have n0 : w.heap.size < X.heap.size := Nat.lt_of_lt_of_le l0 hXs
      have n1 : w.heap.size + 1 < X.heap.size := Nat.lt_of_lt_of_le l1 hXs
      have n2 : w.heap.size + 1 + 1 < X.heap.size := Nat.lt_of_lt_of_le l2 hXs
      have HJX := Lib.hid (HJV.out.trans (hgb.mono HJV.out.size))
      clear u0 u1 u2 u3 u4 u5 t2 t3 v0 v1 v2 v3 v4 v5 a0 a1 a2 a3 hgb m0 m1 m2 mB l0 l1 l2 lA lB HOW HB hsz hXs
      go_cut [20] from 115 to 130 (fun t wx => RgAt X N1 t wx)
      case first =>
        go_region_held3 (fun w' => w'.cell? ⟨w.heap.size + 1, 0, none⟩ = some (.int .i64 lx) ∧ w'.cell? ⟨w.heap.size + 1, 1, none⟩ = some (.int .i64 ly) ∧ w'.cell? ⟨w.heap.size + 1 + 1, 0, none⟩ = some (.int .i64 hx)) (first | (refine ⟨?_, ?_, ?_⟩ <;> (simp [go_sem, *]; done))) (first
          | (refine step_pfull rfl (.tmp 125) (.tmp 127) rfl _ lx ly hx ly rfl (by simp [go_sem]) (by simp [go_sem]) (by simp [go_sem]) (by simp [go_sem]) ⟨b6, o6, none⟩ (k + 2) c6 MR rfl (HR6.out.rd.below (by ((try simp only [← Array.append_assoc]); repeat' (first | (with_reducible exact Below.refl _ _) | (with_reducible assumption) | (with_reducible refine Below.alloc ?_ ?_ _) | (with_reducible refine Below.drew ?_) | (with_reducible refine below_drewN ?_ _) | (with_reducible exact below_d _ _ _ _ _) | (with_reducible refine below_snoc _ _ ?_ ?_) | (with_reducible refine below_plus ?_ ?_ _ _) | (with_reducible refine Below.setCell ?_ ?_ _) | (with_reducible refine Below.setRow ?_ ?_ _) | go_size)))) (by omega) (by omega) ?_; intro J7 d7 c7 hp7; rw [HN1.out] at hp7; (try simp only [plus_plus, Array.append_assoc] at hp7); have HR7 := Lib.hid hp7; clear hp7; go_simp)
          | (go_simp; (first
            | (go_at_call 17; (with_reducible refine (HAt.out _ _ _).mono ?_); rintro e w1 ⟨rfl, J5, d5, rfl⟩; go_simp)
            | (go_at_call 19; refine (HTu.out _ _ _ (HPL.out.below (by ((try simp only [← Array.append_assoc]); repeat' (first | (with_reducible exact Below.refl _ _) | (with_reducible assumption) | (with_reducible refine Below.alloc ?_ ?_ _) | (with_reducible refine Below.drew ?_) | (with_reducible refine below_drewN ?_ _) | (with_reducible exact below_d _ _ _ _ _) | (with_reducible refine below_snoc _ _ ?_ ?_) | (with_reducible refine below_plus ?_ ?_ _ _) | (with_reducible refine Below.setCell ?_ ?_ _) | (with_reducible refine Below.setRow ?_ ?_ _) | go_size))))).mono ?_; rintro e w1 ⟨⟨v, rfl, hv⟩, J6, d6, rfl⟩; obtain ⟨b6, o6, c6, rfl, hr⟩ := row_some HMR.out (by omega) (by rw [← HMR.out]; exact hv); (try simp only [plus_plus, Array.append_assoc] at hr); have HR6 := Lib.hid hr; clear hv hr; go_simp)
            | (go_at_call 18; refine (HOf.out _ _ ⟨_, _, _, rfl⟩).mono ?_; rintro e w1 ⟨rfl, J8, d8, rfl⟩; go_simp))))
        all_goals (go_wp2_with fail)
        all_goals go_meet
        all_goals first | exact rg_late (by simp [go_sem]; rfl) HR7.out (by (simp; try omega); done) (by simp [go_sem]; rfl) (by (((try simp only [← Array.append_assoc]); repeat' (first | (with_reducible exact Below.refl _ _) | (with_reducible assumption) | (with_reducible refine Below.alloc ?_ ?_ _) | (with_reducible refine Below.drew ?_) | (with_reducible refine below_drewN ?_ _) | (with_reducible exact below_d _ _ _ _ _) | (with_reducible refine below_snoc _ _ ?_ ?_) | (with_reducible refine below_plus ?_ ?_ _ _) | (with_reducible refine Below.setCell ?_ ?_ _) | (with_reducible refine Below.setRow ?_ ?_ _) | go_size))); done) (by simp [go_sem]) (by (((try simp only [← Array.append_assoc]); repeat' (first | (with_reducible exact Below.refl _ _) | (with_reducible assumption) | (with_reducible refine Below.alloc ?_ ?_ _) | (with_reducible refine Below.drew ?_) | (with_reducible refine below_drewN ?_ _) | (with_reducible exact below_d _ _ _ _ _) | (with_reducible refine below_snoc _ _ ?_ ?_) | (with_reducible refine below_plus ?_ ?_ _ _) | (with_reducible refine Below.setCell ?_ ?_ _) | (with_reducible refine Below.setRow ?_ ?_ _) | go_size))); done) | exact ⟨_, _, _, rfl, rfl, (by simp [go_sem]; rfl), grc_one (by simp [go_sem]) (HR7.out.below (by (((try simp only [← Array.append_assoc]); repeat' (first | (with_reducible exact Below.refl _ _) | (with_reducible assumption) | (with_reducible refine Below.alloc ?_ ?_ _) | (with_reducible refine Below.drew ?_) | (with_reducible refine below_drewN ?_ _) | (with_reducible exact below_d _ _ _ _ _) | (with_reducible refine below_snoc _ _ ?_ ?_) | (with_reducible refine below_plus ?_ ?_ _ _) | (with_reducible refine Below.setCell ?_ ?_ _) | (with_reducible refine Below.setRow ?_ ?_ _) | go_size))); done)), by ((try simp only [← Array.append_assoc]); repeat' (first | (with_reducible exact Below.refl _ _) | (with_reducible assumption) | (with_reducible refine Below.alloc ?_ ?_ _) | (with_reducible refine Below.drew ?_) | (with_reducible refine below_drewN ?_ _) | (with_reducible exact below_d _ _ _ _ _) | (with_reducible refine below_snoc _ _ ?_ ?_) | (with_reducible refine below_plus ?_ ?_ _ _) | (with_reducible refine Below.setCell ?_ ?_ _) | (with_reducible refine Below.setRow ?_ ?_ _) | go_size))⟩
      case rest =>
      obtain ⟨C1, g1, Y, rfl, rfl, y6, hG1, hbY⟩ := hcut
      have y0 := (World.cell?_of_block (hbY.block _ n0)).trans x0
      have y1 := (World.cell?_of_block (hbY.block _ n0)).trans x1
      have y2 := (World.cell?_of_block (hbY.block _ n1)).trans x2
      have y3 := (World.cell?_of_block (hbY.block _ n1)).trans x3
      have y4 := (World.cell?_of_block (hbY.block _ n2)).trans x4
      have y5 := (World.cell?_of_block (hbY.block _ n2)).trans x5
      have hYs := hbY.size
      have o0 : w.heap.size < Y.heap.size := Nat.lt_of_lt_of_le n0 hYs
      have o1 : w.heap.size + 1 < Y.heap.size := Nat.lt_of_lt_of_le n1 hYs
      have o2 : w.heap.size + 1 + 1 < Y.heap.size := Nat.lt_of_lt_of_le n2 hYs
      have o3 : C1 < Y.heap.size := World.block_lt_of_cell? _ _ y6
      have HPY := Lib.hid (HPL.out.below hbY)
      have HG1 := Lib.hid hG1
      have HJY := Lib.hid (HJX.out.trans (hbY.mono HJX.out.size))
      clear x0 x1 x2 x3 x4 x5 n0 n1 n2 hbY hG1 HPL HTu hYs
      go_upto_region 13 with fail
      go_cut [21] from 119 to 141 (fun t wx => RgAt Y N2 t wx)
      case first =>
        go_region_held3 (fun w' => w'.cell? ⟨w.heap.size + 1, 0, none⟩ = some (.int .i64 lx) ∧ w'.cell? ⟨w.heap.size + 1 + 1, 0, none⟩ = some (.int .i64 hx) ∧ w'.cell? ⟨w.heap.size + 1 + 1, 1, none⟩ = some (.int .i64 hy)) (first | (refine ⟨?_, ?_, ?_⟩ <;> (simp [go_sem, *]; done))) (first
          | (refine step_pfull rfl (.tmp 137) (.tmp 138) rfl _ hx hy lx hy rfl (by simp [go_sem]) (by simp [go_sem]) (by simp [go_sem]) (by simp [go_sem]) ⟨bl, ol, none⟩ (k + 2) cl M rfl (HPY.out.rd.below (by ((try simp only [← Array.append_assoc]); repeat' (first | (with_reducible exact Below.refl _ _) | (with_reducible assumption) | (with_reducible refine Below.alloc ?_ ?_ _) | (with_reducible refine Below.drew ?_) | (with_reducible refine below_drewN ?_ _) | (with_reducible exact below_d _ _ _ _ _) | (with_reducible refine below_snoc _ _ ?_ ?_) | (with_reducible refine below_plus ?_ ?_ _ _) | (with_reducible refine Below.setCell ?_ ?_ _) | (with_reducible refine Below.setRow ?_ ?_ _) | go_size)))) (by omega) (by omega) ?_; intro J7 d7 c7 hp7; rw [HN2.out] at hp7; (try simp only [plus_plus, Array.append_assoc] at hp7); have HR7 := Lib.hid hp7; clear hp7; go_simp)
          | (go_simp; (first
            | (go_at_call 17; (with_reducible refine (HAt.out _ _ _).mono ?_); rintro e w1 ⟨rfl, J5, d5, rfl⟩; go_simp)
            | (go_at_call 18; refine (HOf.out _ _ ⟨_, _, _, rfl⟩).mono ?_; rintro e w1 ⟨rfl, J8, d8, rfl⟩; go_simp))))
        all_goals (go_wp2_with fail)
        all_goals go_meet
        all_goals first | exact rg_late (by simp [go_sem]; rfl) HR7.out (by (simp; try omega); done) (by simp [go_sem]; rfl) (by (((try simp only [← Array.append_assoc]); repeat' (first | (with_reducible exact Below.refl _ _) | (with_reducible assumption) | (with_reducible refine Below.alloc ?_ ?_ _) | (with_reducible refine Below.drew ?_) | (with_reducible refine below_drewN ?_ _) | (with_reducible exact below_d _ _ _ _ _) | (with_reducible refine below_snoc _ _ ?_ ?_) | (with_reducible refine below_plus ?_ ?_ _ _) | (with_reducible refine Below.setCell ?_ ?_ _) | (with_reducible refine Below.setRow ?_ ?_ _) | go_size))); done) (by simp [go_sem]) (by (((try simp only [← Array.append_assoc]); repeat' (first | (with_reducible exact Below.refl _ _) | (with_reducible assumption) | (with_reducible refine Below.alloc ?_ ?_ _) | (with_reducible refine Below.drew ?_) | (with_reducible refine below_drewN ?_ _) | (with_reducible exact below_d _ _ _ _ _) | (with_reducible refine below_snoc _ _ ?_ ?_) | (with_reducible refine below_plus ?_ ?_ _ _) | (with_reducible refine Below.setCell ?_ ?_ _) | (with_reducible refine Below.setRow ?_ ?_ _) | go_size))); done) | exact ⟨_, _, _, rfl, rfl, (by simp [go_sem]; rfl), grc_one (by simp [go_sem]) (HR7.out.below (by (((try simp only [← Array.append_assoc]); repeat' (first | (with_reducible exact Below.refl _ _) | (with_reducible assumption) | (with_reducible refine Below.alloc ?_ ?_ _) | (with_reducible refine Below.drew ?_) | (with_reducible refine below_drewN ?_ _) | (with_reducible exact below_d _ _ _ _ _) | (with_reducible refine below_snoc _ _ ?_ ?_) | (with_reducible refine below_plus ?_ ?_ _ _) | (with_reducible refine Below.setCell ?_ ?_ _) | (with_reducible refine Below.setRow ?_ ?_ _) | go_size))); done)), by ((try simp only [← Array.append_assoc]); repeat' (first | (with_reducible exact Below.refl _ _) | (with_reducible assumption) | (with_reducible refine Below.alloc ?_ ?_ _) | (with_reducible refine Below.drew ?_) | (with_reducible refine below_drewN ?_ _) | (with_reducible exact below_d _ _ _ _ _) | (with_reducible refine below_snoc _ _ ?_ ?_) | (with_reducible refine below_plus ?_ ?_ _ _) | (with_reducible refine Below.setCell ?_ ?_ _) | (with_reducible refine Below.setRow ?_ ?_ _) | go_size))⟩
      case rest =>
      obtain ⟨C2, g2, Z, rfl, rfl, z7, hG2, hbZ⟩ := hcut
      have z0 := (World.cell?_of_block (hbZ.block _ o0)).trans y0
      have z1 := (World.cell?_of_block (hbZ.block _ o0)).trans y1
      have z2 := (World.cell?_of_block (hbZ.block _ o1)).trans y2
      have z3 := (World.cell?_of_block (hbZ.block _ o1)).trans y3
      have z4 := (World.cell?_of_block (hbZ.block _ o2)).trans y4
      have z5 := (World.cell?_of_block (hbZ.block _ o2)).trans y5
      have z6 := (World.cell?_of_block (hbZ.block _ o3)).trans y6
      have p0 : w.heap.size < Z.heap.size := World.block_lt_of_cell? _ _ z0
      have p1 : w.heap.size + 1 < Z.heap.size := World.block_lt_of_cell? _ _ z2
      have p2 : w.heap.size + 1 + 1 < Z.heap.size := World.block_lt_of_cell? _ _ z4
      have p3 : C1 < Z.heap.size := World.block_lt_of_cell? _ _ z6
      have p4 : C2 < Z.heap.size := World.block_lt_of_cell? _ _ z7
      have kG1 := HG1.out.below hbZ
      have HJZ := Lib.hid (HJY.out.trans (hbZ.mono HJY.out.size))
      have HA1 := Lib.hid (fun (J : Array Obj) (d : Nat) => HIa.out (Z.plus J d) _ (kG1.below (Junk.below ⟨J, d, rfl⟩)))
      have HA2 := Lib.hid (fun (J : Array Obj) (d : Nat) => HIb.out (Z.plus J d) _ (hG2.below (Junk.below ⟨J, d, rfl⟩)))
      clear y0 y1 y2 y3 y4 y5 y6 o0 o1 o2 o3 hbZ hG2 kG1 HIa HIb HPY HG1
      go_upto_region 14 with fail
      refine region_quiet_all (C := Cls Z) (by kernel_rfl) (by kernel_rfl) (cls_drawn _) ?_
      repeat (first | (refine qw_skip (by rfl) ?_; simp only [Act.put, List.setIfInBounds_toArray, List.set_cons_succ, List.set_cons_zero]) | (refine qw_want (by rfl) (fun K hK => ?_); go_simp; first | (refine hK _ ?_; clear hK K) | (apply Exists.intro; refine ⟨?_, hK _ ?_⟩; (rintro w3_ ⟨J3_, d3_, rfl⟩; first | (with_reducible exact rfl) | (go_simp; with_reducible exact rfl) | (go_simp; (first | (with_reducible refine (HAw.out _).mono ?_) | (with_reducible refine (HA1.out _ _).mono ?_) | (with_reducible refine (HA2.out _ _).mono ?_)); rintro e_ w_ ⟨rfl, J4_, d4_, rfl⟩; exact ⟨rfl, J3_ ++ J4_, d4_, by simp only [plus_plus, Array.append_assoc]⟩)); clear hK K)))
      refine qw_nil ?_
      rintro w9 ⟨J9, d9, rfl⟩
      have hti := HTI.out
      clear HTI
      cases io with
      | true =>
        obtain rfl := hti.1 rfl
        clear hti
        go_wp2_with (go_at_call 20; refine (HPI.out _).mono ?_; rintro e w1 ⟨rfl, J10, d10, rfl⟩)
        go_ret
        exact ⟨by cases qb <;> rfl, junk_of_below (HJZ.out.trans ((show Below Z.heap.size Z _ by ((try simp only [← Array.append_assoc]); repeat' (first | (with_reducible exact Below.refl _ _) | (with_reducible assumption) | (with_reducible refine Below.alloc ?_ ?_ _) | (with_reducible refine Below.drew ?_) | (with_reducible refine below_drewN ?_ _) | (with_reducible exact below_d _ _ _ _ _) | (with_reducible refine below_snoc _ _ ?_ ?_) | (with_reducible refine below_plus ?_ ?_ _ _) | (with_reducible refine Below.setCell ?_ ?_ _) | (with_reducible refine Below.setRow ?_ ?_ _) | go_size))).mono HJZ.out.size))⟩
      | false =>
        obtain ⟨rfl, rfl⟩ := hti.2 rfl
        clear hti
        go_wp2_with (go_at_call 20; refine (HPI.out _).mono ?_; rintro e w1 ⟨rfl, J10, d10, rfl⟩)
        go_ret
        exact ⟨rfl, junk_of_below (HJZ.out.trans ((show Below Z.heap.size Z _ by ((try simp only [← Array.append_assoc]); repeat' (first | (with_reducible exact Below.refl _ _) | (with_reducible assumption) | (with_reducible refine Below.alloc ?_ ?_ _) | (with_reducible refine Below.drew ?_) | (with_reducible refine below_drewN ?_ _) | (with_reducible exact below_d _ _ _ _ _) | (with_reducible refine below_snoc _ _ ?_ ?_) | (with_reducible refine below_plus ?_ ?_ _ _) | (with_reducible refine Below.setCell ?_ ?_ _) | (with_reducible refine Below.setRow ?_ ?_ _) | go_size))).mono HJZ.out.size))⟩
theorem l_regionTiles (w : World) (px py lx ly hx hy s : Int) (bs : -9223372036854775808 ≤ s ∧ s ≤ 9223372036854775807) (t : Int) (bt : -9223372036854775808 ≤ t ∧ t ≤ 9223372036854775807) (a : Option Addr) (n ca : Nat) (K : List Pt) (hK : PRC w a n ca K) (hkb : In64 K) (_ : n ≤ 9223372036854775807) (_ : a = none → n = 0 ∧ ca = 0) :
    Calls Try.prog 5 #[pt px py, pt lx ly, pt hx hy, .int .i64 s, .int .i64 t, .slice a n ca] w fun e w' => e = .returned (.bool true) ∧ Junk w w' := by
  by_cases h : okP lx ly = false ∨ okP hx hy = false ∨ hx ≤ lx ∨ hy ≤ ly ∨ 50 < n
  · exact tiles_out px py lx ly hx hy s t w a n ca _ _ rfl rfl h
  · have h1 : okP lx ly = true := by cases e : okP lx ly; exact absurd (.inl e) h; rfl
    have h2 : okP hx hy = true := by cases e : okP hx hy; exact absurd (.inr (.inl e)) h; rfl
    exact tiles_in px py lx ly hx hy s t bs bt w a n ca K hK hkb h1 h2 (fun k => h (.inr (.inr (.inl k)))) (fun k => h (.inr (.inr (.inr (.inl k))))) (fun k => h (.inr (.inr (.inr (.inr k)))))
end Go.Proofs.Ytfkhefiilmdhmaa

/- RegionMany: upper, the points on a ring's upper side. -/
import Derived.Test.YtfkhefiilmdhmaaRnB
import Derived.Test.YtfkhefiilmdhmaaReOne
import Derived.Test.YtfkhefiilmdhmaaRiLaws
import Derived.Deep.RegionLaw
namespace Go.Proofs.Ytfkhefiilmdhmaa
set_option linter.unusedVariables false
set_option linter.unusedSimpArgs false
open Go.RowKit

/-- The points on the i-th ring's upper side, from the right to the left, the first k of them. -/
def upL (i : Nat) (k : Nat) : List Pt := (List.range k).map fun (j : Nat) => ((50 * i + 40 : Int) - 2 * ((j : Int) + 1), 9)
theorem up_len (i k : Nat) : (upL i k).length = k := by simp [upL]
theorem up_step (i k : Nat) : upL i (k + 1) = upL i k ++ [((50 * i + 40 : Int) - 2 * ((k : Int) + 1), 9)] := by unfold upL; rw [List.range_succ, List.map_append]; rfl
def UpAt (W : World) (i : Nat) (v x : Value) (wr : World) : Prop := ∃ k : Nat, x = .int .i64 ((k : Int) + 1) ∧ k ≤ 16 ∧ wr.ownsRow W.heap.size 27 2 v k (pcells (upL i k)) ∧ Below W.heap.size W wr
set_option maxRecDepth 100000 in
set_option maxHeartbeats 2000000 in
theorem l_reUpper (W : World) (i : Nat) (hi : i ≤ 30) : Calls Try.prog 8 #[.int .i64 (i : Int)] W fun e w' => (∃ v, e = .returned v ∧ POwn W w' v (upL i 16)) ∧ Junk W w' := by
  go_enter Try.func8, Try.ntmps8
  go_wp2_with fail
  go_loopw [3, 4] (fun v x wr => UpAt W i v x wr) (fun _ x _ => (17 - intOf x).toNat)
  case atStart => exact ⟨0, rfl, by omega, pnil_owns _ _, Below.refl _ _⟩
  case round =>
    obtain ⟨k, rfl, k1, hown, hB⟩ := hrel
    have hsz := hB.size
    by_cases hlt : k < 16
    · have i1 : (k : Int) + 1 ≤ 16 := by omega
      have HS := Lib.hid (up_step i k)
      obtain ⟨Fk, hFk⟩ : ∃ Fk, upL i k = Fk := ⟨_, rfl⟩
      obtain ⟨P, hP⟩ : ∃ P, (50 * i + 40 : Int) - 2 * ((k : Int) + 1) = P := ⟨_, rfl⟩
      rw [hFk, hP] at HS
      rw [hFk] at hown
      have w1 : IntKind.i64.wrap (50 * (i : Int)) = 50 * (i : Int) := by simp [IntKind.wrap, IntKind.signed, IntKind.bits]; omega
      have w2 : IntKind.i64.wrap (50 * (i : Int) + 40) = 50 * (i : Int) + 40 := by simp [IntKind.wrap, IntKind.signed, IntKind.bits]; omega
      have w3 : IntKind.i64.wrap (2 * ((k : Int) + 1)) = 2 * ((k : Int) + 1) := by simp [IntKind.wrap, IntKind.signed, IntKind.bits]; omega
      have w4 : IntKind.i64.wrap (50 * (i : Int) + 40 - 2 * ((k : Int) + 1)) = P := by rw [← hP]; simp [IntKind.wrap, IntKind.signed, IntKind.bits]; omega
      have HOW := Lib.hid hown
      have HB := Lib.hid hB
      obtain ⟨wo, rfl⟩ : ∃ wo : World, wo = wr := ⟨_, rfl⟩
      clear hown hB hFk hP
      go_wp2_with (at_builtin; refine wpList_papp rfl (.tmp 9) (.tmp 17) rfl W.heap.size _ _ Fk rfl (powns_below HOW.out (by ((try simp only [← Array.append_assoc]); repeat' (first | (with_reducible exact Below.refl _ _) | (with_reducible assumption) | (with_reducible refine Below.alloc ?_ ?_ _) | (with_reducible refine Below.drew ?_) | (with_reducible refine below_drewN ?_ _) | (with_reducible exact below_d _ _ _ _ _) | (with_reducible refine below_snoc _ _ ?_ ?_) | (with_reducible refine below_plus ?_ ?_ _ _) | (with_reducible refine Below.setCell ?_ ?_ _) | (with_reducible refine Below.setRow ?_ ?_ _) | go_size)))) _ P 9 rfl (by simp [go_sem]) (by simp [go_sem]) (by omega) (by simp; omega) ?_; intro v' w' hown' hg')
      go_roundw
      case rel => exact ⟨k + 1, by go_num, by omega, by rw [HS.out]; exact hown', grown_below (B := W.heap.size) (a := W) (HB.out.trans (by ((try simp only [← Array.append_assoc]); repeat' (first | (with_reducible exact Below.refl _ _) | (with_reducible assumption) | (with_reducible refine Below.alloc ?_ ?_ _) | (with_reducible refine Below.drew ?_) | (with_reducible refine below_drewN ?_ _) | (with_reducible exact below_d _ _ _ _ _) | (with_reducible refine below_snoc _ _ ?_ ?_) | (with_reducible refine below_plus ?_ ?_ _ _) | (with_reducible refine Below.setCell ?_ ?_ _) | (with_reducible refine Below.setRow ?_ ?_ _) | go_size)))) hg' (by simp; omega) (powns_block HOW.out)⟩
      case measure => simp [intOf]; omega
    · obtain rfl : k = 16 := by omega
      have HOW := Lib.hid (show POwn W wr _ (upL i 16) by unfold POwn; rw [up_len]; exact hown)
      have HB := Lib.hid hB
      clear hown hB
      go_wp2_with fail
      go_ret
      exact ⟨⟨_, rfl, HOW.out⟩, junk_of_below HB.out⟩

/-- A ring is put behind rings, in a statement that draws its order. -/
theorem step_gapp {ops : Array Oper} {o : Oper} {a : Act} {w : World} {K : Act → World → Prop} {Q : Exit → Act → World → Prop} {E : Prop} (hgd : o.guard = none) (s x : Operand)
    (ho : o.op = .call { callee := .builtin .append, args := #[s, x], argTypes := #[23, 23] }) (base : Nat) (v : Value) (ps : List (Value × List Pt)) (hs : a.eval s = v) (hown : GOwn w base v ps)
    (g : Nat) (u : Value) (L : List Pt) (hx : a.eval x = .slice (some ⟨g, 0, none⟩) 1 1) (hc : w.cell? ⟨g, 0, none⟩ = some u) (hu : w.ownsRow base 27 2 u L.length (pcells L)) (hm : ps.length ≤ 100000) (hb : base ≤ w.heap.size)
    (h : ∀ v' w', GOwn w' base v' (ps ++ [(u, L)]) → w.grownBy w' v.ownBlock → K (a.put o.dst v') w') :
    if Region.wanted o (yielded ops a.tmps) = true then Oper.wp Try.prog o a w K Q else E := by
  have hw : Region.wanted o (yielded ops a.tmps) = true := by simp [Region.wanted, hgd]
  rw [if_pos hw]
  obtain ⟨i0, hi0, hz0, hz1, hz2⟩ := info_ring
  obtain ⟨au, cu, eu, _⟩ := prc_owns hu
  refine wp_append_own _ s x _ ho base 28 i0 _ 1 24 Try.underlying23 hi0 hz0 hz1 hz2 rfl (by decide) v ps.length (ps.map (·.1)) hs hown.row ⟨g, 0, none⟩ 1 1 [u] hx
    rfl (fun j y hy => by
      cases j with
      | zero => simp at hy; subst hy; exact hc
      | succ j => simp at hy) (by intro y hy; simp at hy; subst hy; rw [eu]; rfl) (by unfold maxLen; omega) (by omega) hb ?_
  intro v' w' hown' hg _
  have hk : GKeeps base 27 w w' := gkeeps_grown hg base _ fun r c e1 e2 e3 => by
    obtain ⟨_, c', hc'⟩ := gown_block hown.row r e1
    rw [e3] at hc'
    injection hc' with hc'
    injection hc' with _ hc' _
    exact absurd hc' (by decide)
  refine h v' w' ⟨by simpa using hown', fun p hp => ?_⟩ hg
  rcases List.mem_append.1 hp with hp | hp
  · exact gown_keeps (hown.each p hp) hk
  · rw [List.mem_singleton.1 hp]; exact gown_keeps hu hk

/-- Between two rounds: so many rings, of at most twenty points each. -/
def MyAt (w : World) (b : Nat) (N : Nat) (x : Value) (wr : World) : Prop := ∃ (k : Nat) (ps : List (Value × List Pt)) (v : Value), x = .int .i64 (k : Int) ∧ k ≤ N ∧ ps.length = k ∧ (∀ p ∈ ps, p.2.length ≤ 20) ∧ Blk wr b #[v] 25 ∧ GOwn wr (b + 1) v ps ∧ Below w.heap.size w wr ∧ b + 1 ≤ wr.heap.size
set_option maxRecDepth 100000 in
set_option maxHeartbeats 4000000 in
theorem l_regionMany (w : World) (x : Int) (bx : -9223372036854775808 ≤ x ∧ x ≤ 9223372036854775807) (long : Bool) :
    Calls Try.prog 3 #[.int .i64 x, .bool long] w fun e w' => e = .returned (.bool true) ∧ Junk w w' := by
  have HAw := Lib.hid l_reAwake
  obtain ⟨y, hy, hy0, hy1⟩ : ∃ y : Nat, (x % 5 : Int) = (y : Int) ∧ 0 ≤ y ∧ y < 5 := ⟨(x % 5).toNat, by omega, by omega, by omega⟩
  have HPk := Lib.hid (fun w' => show Calls Try.prog 7 #[.int .i64 x, .int .i64 5] w' fun e w'' => e = .returned (.int .i64 (y : Int)) ∧ Junk w' w'' by
    have := kp_Pick w' x 5 bx (by decide)
    rw [if_neg (by decide), hy] at this
    exact this)
  have HUp := Lib.hid (fun W i hi => l_reUpper W i hi)
  have w1 : IntKind.i64.wrap (18 + (y : Int)) = ((18 + y : Nat) : Int) := by simp [IntKind.wrap, IntKind.signed, IntKind.bits]; omega
  obtain ⟨N, hN⟩ : ∃ N, 18 + y = N := ⟨_, rfl⟩
  rw [hN] at w1
  have hN2 : N ≤ 22 := by omega
  clear hy hN bx
  go_enter Try.func3, Try.ntmps3
  go_wp2_with (go_at_call 7; refine (HPk.out _).mono ?_; rintro e w1 ⟨rfl, J1, d1, rfl⟩)
  obtain ⟨b, hb⟩ : ∃ b, w.heap.size + J1.size = b := ⟨_, rfl⟩
  go_loopw [6] (fun x wr => MyAt w b N x wr) (fun x _ => N - (intOf x).toNat)
  case atStart => exact ⟨0, [], .slice none 0 0, rfl, by omega, rfl, fun p hp => (by cases hp), by rw [← hb]; have := Blk.new (w.plus J1 d1) #[.slice none 0 0] 25; rwa [size_plus] at this, gown_nil _ _, by ((try simp only [← Array.append_assoc]); repeat' (first | (with_reducible exact Below.refl _ _) | (with_reducible assumption) | (with_reducible refine Below.alloc ?_ ?_ _) | (with_reducible refine Below.drew ?_) | (with_reducible refine below_drewN ?_ _) | (with_reducible exact below_d _ _ _ _ _) | (with_reducible refine below_snoc _ _ ?_ ?_) | (with_reducible refine below_plus ?_ ?_ _ _) | (with_reducible refine Below.setCell ?_ ?_ _) | (with_reducible refine Below.setRow ?_ ?_ _) | go_size)), by simp; omega⟩
  case round =>
    obtain ⟨k, ps, v, rfl, hk, hpl, hps, bG, hown, hB, hbs⟩ := hrel
    have hbw : w.heap.size ≤ b := by omega
    rw [hb]
    clear hb
    by_cases hlt : k < N
    · have c0 : wr.cell? ⟨b, 0, none⟩ = some v := bG.cell 0
      have g0 := bG.frozen 0
      have lb := bG.lt
      have HI := Lib.hid (And.intro hpl (And.intro hps (And.intro bG (And.intro hown hB))))
      have i1 : (k : Int) < (N : Int) := by omega
      have w2 : IntKind.i64.wrap (50 * (k : Int)) = 50 * (k : Int) := by simp [IntKind.wrap, IntKind.signed, IntKind.bits]; omega
      have w3 : IntKind.i64.wrap (50 * (k : Int) + 40) = 50 * (k : Int) + 40 := by simp [IntKind.wrap, IntKind.signed, IntKind.bits]; omega
      obtain ⟨wo, rfl⟩ : ∃ wo : World, wo = wr := ⟨_, rfl⟩
      clear hpl hps bG hown hB
      cases long with
      | false =>
        go_upto_region 9 with fail
        obtain ⟨L, hL⟩ : ∃ L : List Pt, [(50 * (k : Int), 0), (50 * (k : Int) + 40, 0), (50 * (k : Int) + 40, 9)] = L := ⟨_, rfl⟩
        have HL := Lib.hid (show L.length = 3 by rw [← hL]; rfl)
        have hX0 := powns_blt (W := wo) (w := wo) (L := L) (n := 3) (g := wo.heap.size) (c := #[.int .i64 (50 * (k : Int)), .int .i64 0, .int .i64 (50 * (k : Int) + 40), .int .i64 0, .int .i64 (50 * (k : Int) + 40), .int .i64 9]) (by rw [← hL]; rfl) (by rw [← hL]; rfl) (Nat.le_refl _) (by decide) rfl
        unfold POwn at hX0
        rw [HL.out] at hX0
        have HX := Lib.hid hX0
        have HXB := Lib.hid (show Below wo.heap.size wo (wo.alloc (.cells #[.int .i64 (50 * (k : Int)), .int .i64 0, .int .i64 (50 * (k : Int) + 40), .int .i64 0, .int .i64 (50 * (k : Int) + 40), .int .i64 9] 27)) by ((try simp only [← Array.append_assoc]); repeat' (first | (with_reducible exact Below.refl _ _) | (with_reducible assumption) | (with_reducible refine Below.alloc ?_ ?_ _) | (with_reducible refine Below.drew ?_) | (with_reducible refine below_drewN ?_ _) | (with_reducible exact below_d _ _ _ _ _) | (with_reducible refine below_snoc _ _ ?_ ?_) | (with_reducible refine below_plus ?_ ?_ _ _) | (with_reducible refine Below.setCell ?_ ?_ _) | (with_reducible refine Below.setRow ?_ ?_ _) | go_size)))
        clear hX0 hL
        go_region_law (first
          | (refine step_papp rfl (.tmp 35) (.tmp 39) rfl wo.heap.size _ _ L rfl (powns_below HX.out (by ((try simp only [← Array.append_assoc]); repeat' (first | (with_reducible exact Below.refl _ _) | (with_reducible assumption) | (with_reducible refine Below.alloc ?_ ?_ _) | (with_reducible refine Below.drew ?_) | (with_reducible refine below_drewN ?_ _) | (with_reducible exact below_d _ _ _ _ _) | (with_reducible refine below_snoc _ _ ?_ ?_) | (with_reducible refine below_plus ?_ ?_ _ _) | (with_reducible refine Below.setCell ?_ ?_ _) | (with_reducible refine Below.setRow ?_ ?_ _) | go_size)))) _ (50 * (k : Int)) 9 rfl (by simp [go_sem]) (by simp [go_sem]) (by omega) (by simp; omega) ?_; intro v1 w1 hown1 hg1; have hgb := grown_below (B := wo.heap.size) (a := wo) (HXB.out.trans (by ((try simp only [← Array.append_assoc]); repeat' (first | (with_reducible exact Below.refl _ _) | (with_reducible assumption) | (with_reducible refine Below.alloc ?_ ?_ _) | (with_reducible refine Below.drew ?_) | (with_reducible refine below_drewN ?_ _) | (with_reducible exact below_d _ _ _ _ _) | (with_reducible refine below_snoc _ _ ?_ ?_) | (with_reducible refine below_plus ?_ ?_ _ _) | (with_reducible refine Below.setCell ?_ ?_ _) | (with_reducible refine Below.setRow ?_ ?_ _) | go_size)))) hg1 (by simp; omega) (powns_block HX.out); have K1 := (World.cell?_of_block (a := ⟨b, 0, none⟩) (hgb.block _ lb)).trans c0; have z1 := hgb.size; have lb1 : b < w1.heap.size := Nat.lt_of_lt_of_le lb z1; obtain ⟨av, cv, rfl, _⟩ := prc_owns hown1; have HO1 := Lib.hid (show w1.ownsRow wo.heap.size 27 2 _ (L ++ [(50 * (k : Int), 9)]).length (pcells (L ++ [(50 * (k : Int), 9)])) by rw [List.length_append, HL.out]; exact hown1); have HB1 := Lib.hid hgb; clear hown1 hg1 hgb; go_simp)
          | (refine step_gapp rfl (.tmp 34) (.tmp 41) rfl (b + 1) _ ps rfl (HI.out.2.2.2.1.below (HB1.out.trans (by ((try simp only [← Array.append_assoc]); repeat' (first | (with_reducible exact Below.refl _ _) | (with_reducible assumption) | (with_reducible refine Below.alloc ?_ ?_ _) | (with_reducible refine Below.drew ?_) | (with_reducible refine below_drewN ?_ _) | (with_reducible exact below_d _ _ _ _ _) | (with_reducible refine below_snoc _ _ ?_ ?_) | (with_reducible refine below_plus ?_ ?_ _ _) | (with_reducible refine Below.setCell ?_ ?_ _) | (with_reducible refine Below.setRow ?_ ?_ _) | go_size))))) _ _ (L ++ [(50 * (k : Int), 9)]) rfl (by simp [go_sem]) (gown_base (gown_keeps HO1.out (gkeeps_below (by ((try simp only [← Array.append_assoc]); repeat' (first | (with_reducible exact Below.refl _ _) | (with_reducible assumption) | (with_reducible refine Below.alloc ?_ ?_ _) | (with_reducible refine Below.drew ?_) | (with_reducible refine below_drewN ?_ _) | (with_reducible exact below_d _ _ _ _ _) | (with_reducible refine below_snoc _ _ ?_ ?_) | (with_reducible refine below_plus ?_ ?_ _ _) | (with_reducible refine Below.setCell ?_ ?_ _) | (with_reducible refine Below.setRow ?_ ?_ _) | go_size))) _ _)) (by omega)) (by have := HI.out.1; omega) (by simp; omega) ?_; intro v2 w2 hown2 hg2; have hgb2 := grown_below (B := b + 1) (a := wo) ((HB1.out.trans (by ((try simp only [← Array.append_assoc]); repeat' (first | (with_reducible exact Below.refl _ _) | (with_reducible assumption) | (with_reducible refine Below.alloc ?_ ?_ _) | (with_reducible refine Below.drew ?_) | (with_reducible refine below_drewN ?_ _) | (with_reducible exact below_d _ _ _ _ _) | (with_reducible refine below_snoc _ _ ?_ ?_) | (with_reducible refine below_plus ?_ ?_ _ _) | (with_reducible refine Below.setCell ?_ ?_ _) | (with_reducible refine Below.setRow ?_ ?_ _) | go_size)))).mono (by omega)) hg2 (by simp; omega) (fun r hr => (gown_block (HI.out.2.2.2.1).row r hr).1); have bG2 := (show Blk w2 b #[v] 25 from (hgb2.block b (by omega)).trans HI.out.2.2.1); have K2 : w2.cell? ⟨b, 0, none⟩ = some v := bG2.cell 0; have K3 := bG2.frozen 0; have lb2 := bG2.lt; obtain ⟨a9, c9, e9, _⟩ := hown2.grc; rw [List.length_append] at e9; change v2 = Value.slice a9 (ps.length + 1) c9 at e9; subst e9; have HG2 := Lib.hid hown2; have HB2 := Lib.hid hgb2; have HBk := Lib.hid bG2; clear hown2 hg2 hgb2 bG2; go_simp))
        all_goals
          go_wp2_with fail
          go_roundw
          case rel =>
            have h5 := HI.out.2.2.2.2
            exact ⟨k + 1, ps ++ [(_, L ++ [(50 * (k : Int), 9)])], _, by go_num, by omega, by rw [List.length_append, HI.out.1]; rfl, fun p hp => (by
              rcases List.mem_append.1 hp with hp | hp
              · exact HI.out.2.1 p hp
              · rw [List.mem_singleton.1 hp]; show (L ++ [(50 * (k : Int), 9)]).length ≤ 20; rw [List.length_append, HL.out]; simp), HBk.out.set 0 _, HG2.out.set (b := b) (by omega) _, (h5.trans (HB2.out.mono (by omega))).trans ((Below.refl _ _).setCell (p := ⟨b, 0, none⟩) hbw _), by have := HB2.out.size; simp; omega⟩
          case measure => simp [intOf]; omega
      | true =>
        have w4 : IntKind.i64.wrap (k : Int) = (k : Int) := by simp [IntKind.wrap, IntKind.signed, IntKind.bits]; omega
        have HU := Lib.hid (fun W => HUp.out W k (by omega))
        obtain ⟨L0, hL0⟩ : ∃ L : List Pt, [(50 * (k : Int), 0), (50 * (k : Int) + 40, 0), (50 * (k : Int) + 40, 9)] = L := ⟨_, rfl⟩
        obtain ⟨U, hU⟩ : ∃ U, upL k 16 = U := ⟨_, rfl⟩
        have hUl : U.length = 16 := by rw [← hU, up_len]
        rw [hU] at HU
        have hX0 := powns_blt (W := wo) (w := wo) (L := L0) (n := 3) (g := wo.heap.size) (c := #[.int .i64 (50 * (k : Int)), .int .i64 0, .int .i64 (50 * (k : Int) + 40), .int .i64 0, .int .i64 (50 * (k : Int) + 40), .int .i64 9]) (by rw [← hL0]; rfl) (by rw [← hL0]; rfl) (Nat.le_refl _) (by decide) rfl
        unfold POwn at hX0
        have hl0 : L0.length = 3 := by rw [← hL0]; rfl
        rw [hl0] at hX0
        have HX0 := Lib.hid hX0
        have HUL := Lib.hid hUl
        have HL0 := Lib.hid hl0
        clear hX0 hL0 hU hUl hl0
        go_upto_region 9 with (first
          | (go_at_call 8; refine (HU.out _).mono ?_; rintro e w1 ⟨⟨vu, rfl, hu⟩, J3, d3, rfl⟩; obtain ⟨au, cu, rfl, hpu⟩ := own_prc HUL.out hu; have HPU := Lib.hid hpu; clear hu hpu)
          | (at_builtin; refine wpList_pall rfl (.tmp 29) (.tmp 31) rfl wo.heap.size _ 3 L0 rfl (powns_below HX0.out (by ((try simp only [← Array.append_assoc]); repeat' (first | (with_reducible exact Below.refl _ _) | (with_reducible assumption) | (with_reducible refine Below.alloc ?_ ?_ _) | (with_reducible refine Below.drew ?_) | (with_reducible refine below_drewN ?_ _) | (with_reducible exact below_d _ _ _ _ _) | (with_reducible refine below_snoc _ _ ?_ ?_) | (with_reducible refine below_plus ?_ ?_ _ _) | (with_reducible refine Below.setCell ?_ ?_ _) | (with_reducible refine Below.setRow ?_ ?_ _) | go_size)))) au 16 cu U rfl HPU.out.ok HPU.out.rd (by decide) (by simp; omega) ?_; intro vl X hownX hgX; have hgb0 := grown_below (B := wo.heap.size) (a := wo) (by ((try simp only [← Array.append_assoc]); repeat' (first | (with_reducible exact Below.refl _ _) | (with_reducible assumption) | (with_reducible refine Below.alloc ?_ ?_ _) | (with_reducible refine Below.drew ?_) | (with_reducible refine below_drewN ?_ _) | (with_reducible exact below_d _ _ _ _ _) | (with_reducible refine below_snoc _ _ ?_ ?_) | (with_reducible refine below_plus ?_ ?_ _ _) | (with_reducible refine Below.setCell ?_ ?_ _) | (with_reducible refine Below.setRow ?_ ?_ _) | go_size))) hgX (by simp; omega) (powns_block HX0.out); have HX := Lib.hid hownX; have HXB := Lib.hid hgb0; have K0 := (World.cell?_of_block (a := ⟨b, 0, none⟩) (hgb0.block _ lb)).trans c0; have z0 := hgb0.size; have lb0 : b < X.heap.size := Nat.lt_of_lt_of_le lb z0; clear hownX hgX hgb0))
        have HL := Lib.hid (show (L0 ++ U).length = 3 + 16 by rw [List.length_append, HL0.out, HUL.out])
        generalize L0 ++ U = L at *
        go_region_law (first
          | (refine step_papp rfl (.tmp 35) (.tmp 39) rfl wo.heap.size _ _ L rfl (powns_below HX.out (by ((try simp only [← Array.append_assoc]); repeat' (first | (with_reducible exact Below.refl _ _) | (with_reducible assumption) | (with_reducible refine Below.alloc ?_ ?_ _) | (with_reducible refine Below.drew ?_) | (with_reducible refine below_drewN ?_ _) | (with_reducible exact below_d _ _ _ _ _) | (with_reducible refine below_snoc _ _ ?_ ?_) | (with_reducible refine below_plus ?_ ?_ _ _) | (with_reducible refine Below.setCell ?_ ?_ _) | (with_reducible refine Below.setRow ?_ ?_ _) | go_size)))) _ (50 * (k : Int)) 9 rfl (by simp [go_sem]) (by simp [go_sem]) (by omega) (by simp; omega) ?_; intro v1 w1 hown1 hg1; have hgb := grown_below (B := wo.heap.size) (a := wo) (HXB.out.trans (by ((try simp only [← Array.append_assoc]); repeat' (first | (with_reducible exact Below.refl _ _) | (with_reducible assumption) | (with_reducible refine Below.alloc ?_ ?_ _) | (with_reducible refine Below.drew ?_) | (with_reducible refine below_drewN ?_ _) | (with_reducible exact below_d _ _ _ _ _) | (with_reducible refine below_snoc _ _ ?_ ?_) | (with_reducible refine below_plus ?_ ?_ _ _) | (with_reducible refine Below.setCell ?_ ?_ _) | (with_reducible refine Below.setRow ?_ ?_ _) | go_size)))) hg1 (by simp; omega) (powns_block HX.out); have K1 := (World.cell?_of_block (a := ⟨b, 0, none⟩) (hgb.block _ lb)).trans c0; have z1 := hgb.size; have lb1 : b < w1.heap.size := Nat.lt_of_lt_of_le lb z1; obtain ⟨av, cv, rfl, _⟩ := prc_owns hown1; have HO1 := Lib.hid (show w1.ownsRow wo.heap.size 27 2 _ (L ++ [(50 * (k : Int), 9)]).length (pcells (L ++ [(50 * (k : Int), 9)])) by rw [List.length_append, HL.out]; exact hown1); have HB1 := Lib.hid hgb; clear hown1 hg1 hgb; go_simp)
          | (refine step_gapp rfl (.tmp 34) (.tmp 41) rfl (b + 1) _ ps rfl (HI.out.2.2.2.1.below (HB1.out.trans (by ((try simp only [← Array.append_assoc]); repeat' (first | (with_reducible exact Below.refl _ _) | (with_reducible assumption) | (with_reducible refine Below.alloc ?_ ?_ _) | (with_reducible refine Below.drew ?_) | (with_reducible refine below_drewN ?_ _) | (with_reducible exact below_d _ _ _ _ _) | (with_reducible refine below_snoc _ _ ?_ ?_) | (with_reducible refine below_plus ?_ ?_ _ _) | (with_reducible refine Below.setCell ?_ ?_ _) | (with_reducible refine Below.setRow ?_ ?_ _) | go_size))))) _ _ (L ++ [(50 * (k : Int), 9)]) rfl (by simp [go_sem]) (gown_base (gown_keeps HO1.out (gkeeps_below (by ((try simp only [← Array.append_assoc]); repeat' (first | (with_reducible exact Below.refl _ _) | (with_reducible assumption) | (with_reducible refine Below.alloc ?_ ?_ _) | (with_reducible refine Below.drew ?_) | (with_reducible refine below_drewN ?_ _) | (with_reducible exact below_d _ _ _ _ _) | (with_reducible refine below_snoc _ _ ?_ ?_) | (with_reducible refine below_plus ?_ ?_ _ _) | (with_reducible refine Below.setCell ?_ ?_ _) | (with_reducible refine Below.setRow ?_ ?_ _) | go_size))) _ _)) (by omega)) (by have := HI.out.1; omega) (by simp; omega) ?_; intro v2 w2 hown2 hg2; have hgb2 := grown_below (B := b + 1) (a := wo) ((HB1.out.trans (by ((try simp only [← Array.append_assoc]); repeat' (first | (with_reducible exact Below.refl _ _) | (with_reducible assumption) | (with_reducible refine Below.alloc ?_ ?_ _) | (with_reducible refine Below.drew ?_) | (with_reducible refine below_drewN ?_ _) | (with_reducible exact below_d _ _ _ _ _) | (with_reducible refine below_snoc _ _ ?_ ?_) | (with_reducible refine below_plus ?_ ?_ _ _) | (with_reducible refine Below.setCell ?_ ?_ _) | (with_reducible refine Below.setRow ?_ ?_ _) | go_size)))).mono (by omega)) hg2 (by simp; omega) (fun r hr => (gown_block (HI.out.2.2.2.1).row r hr).1); have bG2 := (show Blk w2 b #[v] 25 from (hgb2.block b (by omega)).trans HI.out.2.2.1); have K2 : w2.cell? ⟨b, 0, none⟩ = some v := bG2.cell 0; have K3 := bG2.frozen 0; have lb2 := bG2.lt; obtain ⟨a9, c9, e9, _⟩ := hown2.grc; rw [List.length_append] at e9; change v2 = Value.slice a9 (ps.length + 1) c9 at e9; subst e9; have HG2 := Lib.hid hown2; have HB2 := Lib.hid hgb2; have HBk := Lib.hid bG2; clear hown2 hg2 hgb2 bG2; go_simp))
        all_goals
          go_wp2_with fail
          go_roundw
          case rel =>
            have h5 := HI.out.2.2.2.2
            exact ⟨k + 1, ps ++ [(_, L ++ [(50 * (k : Int), 9)])], _, by go_num, by omega, by rw [List.length_append, HI.out.1]; rfl, fun p hp => (by
              rcases List.mem_append.1 hp with hp | hp
              · exact HI.out.2.1 p hp
              · rw [List.mem_singleton.1 hp]; show (L ++ [(50 * (k : Int), 9)]).length ≤ 20; rw [List.length_append, HL.out]; simp), HBk.out.set 0 _, HG2.out.set (b := b) (by omega) _, (h5.trans (HB2.out.mono (by omega))).trans ((Below.refl _ _).setCell (p := ⟨b, 0, none⟩) hbw _), by have := HB2.out.size; simp; omega⟩
          case measure => simp [intOf]; omega
    · obtain rfl : k = N := by omega
      obtain ⟨a, ca, rfl, hg⟩ := hown.grc
      rw [hpl] at hg
      have c0 : wr.cell? ⟨b, 0, none⟩ = some (.slice a ps.length ca) := bG.cell 0
      rw [hpl] at c0
      have lb := bG.lt
      have hl : ∀ K ∈ ps.map (·.2), K.length ≤ 20 := fun K hK => by
        obtain ⟨p, hp, rfl⟩ := List.mem_map.1 hK
        exact hps p hp
      have HC1 := Lib.hid (fun (J : Array Obj) (d : Nat) => c_reCheck (wr.plus J d) a k ca _ (hg.below (Junk.below ⟨J, d, rfl⟩)) (by omega) (fun K hK => Nat.le_trans (hl K hK) (by decide)))
      have HC2 := Lib.hid (fun (J : Array Obj) (d : Nat) => r_reCheck (wr.plus J d) a k ca _ (hg.below (Junk.below ⟨J, d, rfl⟩)) (fun K hK => Nat.le_trans (hl K hK) (by decide)))
      obtain ⟨⟨e, t⟩, he⟩ : ∃ r, checkR (ps.map (·.2)) = r := ⟨_, rfl⟩
      rw [he] at HC1 HC2
      unfold fltV at HC1 HC2
      simp only at HC1 HC2
      have HB := Lib.hid hB
      have i1 : ¬ (k : Int) < (k : Int) := by omega
      clear he hl hg hpl hps bG hown hB hbs
      go_upto_region 10 with fail
      refine region_quiet_all (C := Cls wr) (by kernel_rfl) (by kernel_rfl) (cls_drawn _) ?_
      repeat (first | (refine qw_skip (by rfl) ?_; simp only [Act.put, List.setIfInBounds_toArray, List.set_cons_succ, List.set_cons_zero]) | (refine qw_want (by rfl) (fun K hK => ?_); go_simp; first | (refine hK _ ?_; clear hK K) | (apply Exists.intro; refine ⟨?_, hK _ ?_⟩; (rintro w3_ ⟨J3_, d3_, rfl⟩; first | (with_reducible exact rfl) | (go_simp; with_reducible exact rfl) | (go_simp; (first | (with_reducible refine (HAw.out _).mono ?_) | (with_reducible refine (HC1.out _ _).mono ?_) | (with_reducible refine (HC2.out _ _).mono ?_)); rintro e_ w_ ⟨rfl, J4_, d4_, rfl⟩; exact ⟨rfl, J3_ ++ J4_, d4_, by simp only [plus_plus, Array.append_assoc]⟩)); clear hK K)))
      refine qw_nil ?_
      rintro w6 ⟨J8, d8, rfl⟩
      go_wp2_with fail
      go_ret
      exact ⟨rfl, junk_of_below (HB.out.trans ((Junk.below ⟨_, _, rfl⟩).mono HB.out.size))⟩
end Go.Proofs.Ytfkhefiilmdhmaa

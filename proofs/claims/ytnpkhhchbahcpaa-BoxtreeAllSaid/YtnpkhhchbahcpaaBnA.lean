/- The law BoxtreeAll: the walk. -/
import Derived.Test.YtnpkhhchbahcpaaBnLaw
namespace Go.Proofs.Ytnpkhhchbahcpaa
set_option linter.unusedVariables false
set_option linter.unusedSimpArgs false
open Go.RowKit

theorem scan_split (q : Bx → Bool) (L : List Bx) (i : Nat) (hi : i < L.length) (h : q (L.getD i Bx0) = true) : ∃ R, scanB q L = scanK q L i ++ i :: R := by
  have e : List.range L.length = List.range (i + 1) ++ (List.range (L.length - (i + 1))).map (i + 1 + ·) := by
    have := List.range_add (n := i + 1) (m := L.length - (i + 1))
    rw [show i + 1 + (L.length - (i + 1)) = L.length by omega] at this
    exact this
  refine ⟨((List.range (L.length - (i + 1))).map (i + 1 + ·)).filter fun i => q (L.getD i Bx0), ?_⟩
  have h1 := scanK_hit (f := q) (L := L) (k := i) h
  unfold scanB
  rw [e, List.filter_append]
  have h2 : (List.range (i + 1)).filter (fun i => q (L.getD i (0, 0, 0, 0))) = scanK q L i ++ [i] := h1
  rw [h2, List.append_assoc]
  rfl
theorem scan_at {q : Bx → Bool} {L : List Bx} {i : Nat} (hi : i < L.length) (h : q (L.getD i Bx0) = true) : (scanK q L i).length < (scanB q L).length ∧ (scanB q L).getD (scanK q L i).length 0 = i := by
  obtain ⟨R, e⟩ := scan_split q L i hi h
  rw [e]
  constructor
  · rw [List.length_append, List.length_cons]; omega
  · rw [List.getD_eq_getElem?_getD, List.getElem?_append_right (Nat.le_refl _), Nat.sub_self]; rfl
theorem meet_point (px py : Int) : meetB (px, py, px + 1, py + 1) = inB px py := by
  funext b
  unfold meetB inB meetF inF
  rw [decide_eq_decide]
  simp only
  omega
/-- Between two rounds: so many boxes have the point among the first i. -/
def AlRd (W : World) (q : Bx → Bool) (L : List Bx) (n : Nat) (c x : Value) (wr : World) : Prop := ∃ i : Nat, x = .int .i64 (i : Int) ∧ i ≤ n ∧ c = .int .i64 ((scanK q L i).length : Int) ∧ ∃ J d, wr = W.plus J d
set_option maxRecDepth 100000 in
set_option maxHeartbeats 4000000 in
theorem l_boxtreeAll (w : World) (a : Option Addr) (n ca : Nat) (L : List Bx) (hX : XRC w a n ca L) (hin : InBs L) (hs : n ≤ 9223372036854775807) (hz : a = none → n = 0 ∧ ca = 0) (px py : Int) :
    Calls Try.prog 8 #[.slice a n ca, pt px py] w fun e w' => e = .returned (.bool true) ∧ Junk w w' := by
  have HAw := Lib.hid l_btAwake
  have HV := Lib.hid (fun w' => n_ptValid px py w')
  by_cases hbig : 100 < n
  · have i1 : (n : Int) > 100 := by omega
    have i2 : (100 : Int) < (n : Int) := by omega
    unfold pt at *
    clear hX hin hs hz hbig
    go_enter Try.func8, Try.ntmps8
    go_wp2_with (go_at_call 10; refine (HAw.out _).mono ?_; rintro e w1 ⟨rfl, J1, d1, rfl⟩)
    go_ret
    exact ⟨rfl, junk_of_below (by (repeat' (first | (with_reducible exact Below.refl _ _) | (with_reducible assumption) | (with_reducible refine Below.alloc ?_ ?_ _) | (with_reducible refine Below.drew ?_) | (with_reducible refine below_drewN ?_ _) | (with_reducible refine below_plus ?_ ?_ _ _) | (with_reducible refine Below.setCell ?_ ?_ _) | (with_reducible refine Below.setRow ?_ ?_ _) | go_size)))⟩
  have i1 : ¬ (n : Int) > 100 := by omega
  by_cases hv : okP px py = false
  · rw [hv] at HV
    unfold pt at *
    clear hX hin hs hz hbig
    go_enter Try.func8, Try.ntmps8
    go_wp2_with (first | (go_at_call 10; refine (HAw.out _).mono ?_; rintro e w1 ⟨rfl, J1, d1, rfl⟩) | (go_at_call 26; refine (HV.out _).mono ?_; rintro e w1 ⟨rfl, J2, d2, rfl⟩))
    go_ret
    exact ⟨rfl, junk_of_below (by (repeat' (first | (with_reducible exact Below.refl _ _) | (with_reducible assumption) | (with_reducible refine Below.alloc ?_ ?_ _) | (with_reducible refine Below.drew ?_) | (with_reducible refine below_drewN ?_ _) | (with_reducible refine below_plus ?_ ?_ _ _) | (with_reducible refine Below.setCell ?_ ?_ _) | (with_reducible refine Below.setRow ?_ ?_ _) | go_size)))⟩
  have hv1 : okP px py = true := by cases h : okP px py with | true => rfl | false => exact absurd h hv
  have hL := hX.rd.1
  have hb : (-1099511627775 ≤ px ∧ px ≤ 1099511627775) ∧ (-1099511627775 ≤ py ∧ py ≤ 1099511627775) := by
    have := hv1
    unfold okP okI at this
    simp at this
    omega
  rw [hv1] at HV
  have HX := Lib.hid hX
  have HL := Lib.hid hL
  have HB := Lib.hid (fun (W : World) (h : XRC W a n ca L) => build_lit W a n ca L h hin (by omega))
  have HA := Lib.hid (fun W B T tb h => at_lit px py L _ rfl (by omega) W B T tb h)
  have HO := Lib.hid (fun W B T tb h => over_lit px py (px + 1) (py + 1) L (scanB (inB px py) L) (by rw [meet_point]) (by omega) W B T tb h)
  have hsl : (scanB (inB px py) L).length ≤ L.length := by
    have h := List.length_filter_le (fun i => inB px py (L.getD i Bx0)) (List.range L.length)
    rw [List.length_range] at h
    exact h
  have HS := Lib.hid (fun W x y c d h h2 => ints_self (scanB (inB px py) L) _ rfl (by omega) W x y c d h h2)
  have HBo := Lib.hid (fun W => l_btBox px py (px + 1) (py + 1) W)
  have HI := Lib.hid (fun (x1 x2 x3 x4 : Int) W => n_ptIn px py x1 x2 x3 x4 W)
  have HAt := Lib.hid (fun i h1 h2 => @scan_at (inB px py) L i h1 h2)
  have HKa := Lib.hid (scanK_all (inB px py) L)
  have HQ := Lib.hid (fun (b : Bx) => show inB px py b = inF px py b.1 b.2.1 b.2.2.1 b.2.2.2 from rfl)
  have hlen : (scanB (inB px py) L).length ≤ 100 := by omega
  have w1 : IntKind.i64.wrap (px + 1) = px + 1 := by simp [IntKind.wrap, IntKind.signed, IntKind.bits]; omega
  have w2 : IntKind.i64.wrap (py + 1) = py + 1 := by simp [IntKind.wrap, IntKind.signed, IntKind.bits]; omega
  have HFit := Lib.hid (scan_lt (q := inB px py) (L := L) (by omega))
  unfold pt bxV at *
  obtain ⟨q, hq⟩ : ∃ q, inB px py = q := ⟨_, rfl⟩
  rw [hq] at HA HO HS HAt HKa HFit hlen
  simp only [hq] at HQ
  have Hq := Lib.hid hq
  clear hX hin hs hz hbig hv hL hsl hq hv1
  go_enter Try.func8, Try.ntmps8
  go_wp2_with (first
    | (go_at_call 10; refine (HAw.out _).mono ?_; rintro e w1 ⟨rfl, J1, d1, rfl⟩)
    | (go_at_call 26; refine (HV.out _).mono ?_; rintro e w1 ⟨rfl, J2, d2, rfl⟩)
    | (go_at_call 11; refine (HB.out _ (HX.out.below (by ((try simp only [← Array.append_assoc]); repeat' (first | (with_reducible exact Below.refl _ _) | (with_reducible assumption) | (with_reducible refine Below.alloc ?_ ?_ _) | (with_reducible refine Below.drew ?_) | (with_reducible refine below_drewN ?_ _) | (with_reducible exact below_d _ _ _ _ _) | (with_reducible refine below_snoc _ _ ?_ ?_) | (with_reducible refine below_plus ?_ ?_ _ _) | (with_reducible refine Below.setCell ?_ ?_ _) | (with_reducible refine Below.setRow ?_ ?_ _) | go_size))))).mono ?_; rintro e w1 ⟨⟨tb, B, T, rfl, ht, _⟩, J3, d3, rfl⟩; (try simp only [plus_plus, Array.append_assoc] at ht); have HT := Lib.hid ht; clear ht)
    | (go_at_call 13; refine (HA.out _ B T tb (HT.out.below (by ((try simp only [← Array.append_assoc]); repeat' (first | (with_reducible exact Below.refl _ _) | (with_reducible assumption) | (with_reducible refine Below.alloc ?_ ?_ _) | (with_reducible refine Below.drew ?_) | (with_reducible refine below_drewN ?_ _) | (with_reducible exact below_d _ _ _ _ _) | (with_reducible refine below_snoc _ _ ?_ ?_) | (with_reducible refine below_plus ?_ ?_ _ _) | (with_reducible refine Below.setCell ?_ ?_ _) | (with_reducible refine Below.setRow ?_ ?_ _) | go_size))))).mono ?_; rintro e w1 ⟨⟨ax, cx, rfl, hr, _⟩, J4, d4, rfl⟩; (try simp only [plus_plus, Array.append_assoc] at hr); have HR := Lib.hid hr; clear hr))
  obtain ⟨W, hW⟩ : ∃ W, (w.alloc (Obj.cells #[Value.int IntKind.i64 px, Value.int IntKind.i64 py] 31)).plus (J1 ++ (J2 ++ (J3 ++ J4))) d4 = W := ⟨_, rfl⟩
  have hj : Below w.heap.size w W := by rw [← hW]; ((try simp only [← Array.append_assoc]); repeat' (first | (with_reducible exact Below.refl _ _) | (with_reducible assumption) | (with_reducible refine Below.alloc ?_ ?_ _) | (with_reducible refine Below.drew ?_) | (with_reducible refine below_drewN ?_ _) | (with_reducible exact below_d _ _ _ _ _) | (with_reducible refine below_snoc _ _ ?_ ?_) | (with_reducible refine below_plus ?_ ?_ _ _) | (with_reducible refine Below.setCell ?_ ?_ _) | (with_reducible refine Below.setRow ?_ ?_ _) | go_size))
  have HT2 := Lib.hid (show TreeB W B T tb L from by rw [← hW]; exact HT.out.below (by ((try simp only [← Array.append_assoc]); repeat' (first | (with_reducible exact Below.refl _ _) | (with_reducible assumption) | (with_reducible refine Below.alloc ?_ ?_ _) | (with_reducible refine Below.drew ?_) | (with_reducible refine below_drewN ?_ _) | (with_reducible exact below_d _ _ _ _ _) | (with_reducible refine below_snoc _ _ ?_ ?_) | (with_reducible refine below_plus ?_ ?_ _ _) | (with_reducible refine Below.setCell ?_ ?_ _) | (with_reducible refine Below.setRow ?_ ?_ _) | go_size))))
  have HR2 := Lib.hid (show Reads W ax (scanB q L).length (nums (scanB q L)) from by rw [← hW]; exact HR.out)
  have HX2 := Lib.hid (HX.out.below hj)
  have p0 : W.cell? ⟨w.heap.size, 0, none⟩ = some (.int .i64 px) := by rw [← hW]; simp [go_sem]
  have p1 : W.cell? ⟨w.heap.size, 1, none⟩ = some (.int .i64 py) := by rw [← hW]; simp [go_sem]
  have HJ := Lib.hid hj
  obtain ⟨b0, hb0⟩ : ∃ b, w.heap.size = b := ⟨_, rfl⟩
  rw [hW, hb0]
  rw [hb0] at p0 p1
  have l0 := World.block_lt_of_cell? _ _ p0
  obtain ⟨S, hS⟩ : ∃ S, scanB q L = S := ⟨_, rfl⟩
  rw [hS] at HR2 hlen HO HS HAt HKa HFit ⊢
  obtain ⟨s, hss⟩ : ∃ s, S.length = s := ⟨_, rfl⟩
  rw [hss] at HR2 hlen HO HS HAt ⊢
  have Hss := Lib.hid hss
  clear hW hj hb0 hS hss HT HR HX HB HA HV
  go_loopw [9, 10] (fun c x wr => AlRd W q L n c x wr) (fun _ x _ => n - (intOf x).toNat)
  case atStart => exact ⟨0, rfl, Nat.zero_le _, rfl, #[], _, (plus_nil _).symm⟩
  case round =>
    obtain ⟨i, rfl, hi, rfl, J0, d0, rfl⟩ := hrel
    by_cases hlt : i < n
    · obtain ⟨bl, ol, x1, x2, x3, x4, ea, ex, b1, b2, b3, b4, lbl⟩ := xreads_at HX2.out.rd (k := i) hlt
      subst ea
      have hqv : q (L.getD i Bx0) = inF px py x1 x2 x3 x4 := by rw [HQ.out, ex]
      have i4 : (i : Int) < (n : Int) := by omega
      have HI1 := Lib.hid (fun W => HI.out x1 x2 x3 x4 W)
      have Hat := Lib.hid (HAt.out i (by rw [HL.out]; exact hlt))
      cases hf : inF px py x1 x2 x3 x4 with
      | false =>
        rw [hf] at HI1 hqv
        have HN := Lib.hid (scanK_not hqv)
        clear hf ex hqv
        go_upto_region 12 with fail
        refine region_quiet_all (C := Cls (W.plus J0 d0)) (by kernel_rfl) (by kernel_rfl) (cls_drawn _) ?_
        repeat (first | (refine qw_skip (by rfl) ?_; simp only [Act.put, List.setIfInBounds_toArray, List.set_cons_succ, List.set_cons_zero]) | (refine qw_want (by rfl) (fun K hK => ?_); go_simp; first | (refine hK _ ?_; clear hK K) | (apply Exists.intro; refine ⟨?_, hK _ ?_⟩; (rintro w3_ ⟨J3_, d3_, rfl⟩; first | (with_reducible exact rfl) | (go_simp; with_reducible exact rfl) | (go_simp; (first | (with_reducible refine (HI1.out _).mono ?_)); rintro e_ w_ ⟨rfl, J4_, d4_, rfl⟩; exact ⟨rfl, J3_ ++ J4_, d4_, by simp only [plus_plus, Array.append_assoc]⟩)); clear hK K)))
        refine qw_nil ?_
        rintro w3 ⟨J5, d5, rfl⟩
        go_wp2_with fail
        go_roundw
        case rel => exact ⟨i + 1, by go_num, by omega, by rw [HN.out], _, _, rfl⟩
        case measure => simp [intOf]; omega
      | true =>
        rw [hf] at HI1 hqv
        have HN := Lib.hid (scanK_hit hqv)
        obtain ⟨g1, g2⟩ := Hat.out hqv
        obtain ⟨c, hc⟩ : ∃ c, (scanK q L i).length = c := ⟨_, rfl⟩
        rw [hc] at g1 g2 ⊢
        have HC := Lib.hid hc
        obtain ⟨bs, os, es, sc, lbs⟩ := reads_at HR2.out (k := c) g1
        rw [g2] at sc
        subst es
        have i5 : (c : Int) < (s : Int) := by omega
        have i6 : ¬ (c : Int) ≥ (s : Int) := by omega
        have i7 : ((i : Int) != (i : Int)) = false := by simp
        clear hf ex hqv g2 hc
        go_upto_region 12 with fail
        refine region_quiet_all (C := Cls (W.plus J0 d0)) (by kernel_rfl) (by kernel_rfl) (cls_drawn _) ?_
        repeat (first | (refine qw_skip (by rfl) ?_; simp only [Act.put, List.setIfInBounds_toArray, List.set_cons_succ, List.set_cons_zero]) | (refine qw_want (by rfl) (fun K hK => ?_); go_simp; first | (refine hK _ ?_; clear hK K) | (apply Exists.intro; refine ⟨?_, hK _ ?_⟩; (rintro w3_ ⟨J3_, d3_, rfl⟩; first | (with_reducible exact rfl) | (go_simp; with_reducible exact rfl) | (go_simp; (first | (with_reducible refine (HI1.out _).mono ?_)); rintro e_ w_ ⟨rfl, J4_, d4_, rfl⟩; exact ⟨rfl, J3_ ++ J4_, d4_, by simp only [plus_plus, Array.append_assoc]⟩)); clear hK K)))
        refine qw_nil ?_
        rintro w3 ⟨J5, d5, rfl⟩
        go_wp2_with fail
        go_roundw
        case rel => exact ⟨i + 1, by go_num, by omega, by rw [HN.out, List.length_append, HC.out]; rfl, _, _, rfl⟩
        case measure => simp [intOf]; omega
    · obtain rfl : n = i := by omega
      have HK := Lib.hid (show (scanK q L n).length = s by rw [← HL.out, HKa.out, Hss.out])
      rw [HK.out]
      have i5 : ¬ (n : Int) < (n : Int) := by omega
      go_wp2_with (first
        | (go_at_call 24; refine (HBo.out _).mono ?_; rintro e w1 ⟨rfl, J6, d6, rfl⟩)
        | (go_at_call 16; refine (HO.out _ B T tb (HT2.out.below (by ((try simp only [← Array.append_assoc]); repeat' (first | (with_reducible exact Below.refl _ _) | (with_reducible assumption) | (with_reducible refine Below.alloc ?_ ?_ _) | (with_reducible refine Below.drew ?_) | (with_reducible refine below_drewN ?_ _) | (with_reducible exact below_d _ _ _ _ _) | (with_reducible refine below_snoc _ _ ?_ ?_) | (with_reducible refine below_plus ?_ ?_ _ _) | (with_reducible refine Below.setCell ?_ ?_ _) | (with_reducible refine Below.setRow ?_ ?_ _) | go_size))))).mono ?_; rintro e w1 ⟨⟨ay, cy, rfl, hr, _⟩, J7, d7, rfl⟩; (try simp only [plus_plus, Array.append_assoc] at hr); have HRy := Lib.hid hr; clear hr)
        | (go_at_call 14; refine (HS.out _ _ _ _ _ (HRy.out.below (by ((try simp only [← Array.append_assoc]); repeat' (first | (with_reducible exact Below.refl _ _) | (with_reducible assumption) | (with_reducible refine Below.alloc ?_ ?_ _) | (with_reducible refine Below.drew ?_) | (with_reducible refine below_drewN ?_ _) | (with_reducible exact below_d _ _ _ _ _) | (with_reducible refine below_snoc _ _ ?_ ?_) | (with_reducible refine below_plus ?_ ?_ _ _) | (with_reducible refine Below.setCell ?_ ?_ _) | (with_reducible refine Below.setRow ?_ ?_ _) | go_size)))) (HR2.out.below (by ((try simp only [← Array.append_assoc]); repeat' (first | (with_reducible exact Below.refl _ _) | (with_reducible assumption) | (with_reducible refine Below.alloc ?_ ?_ _) | (with_reducible refine Below.drew ?_) | (with_reducible refine below_drewN ?_ _) | (with_reducible exact below_d _ _ _ _ _) | (with_reducible refine below_snoc _ _ ?_ ?_) | (with_reducible refine below_plus ?_ ?_ _ _) | (with_reducible refine Below.setCell ?_ ?_ _) | (with_reducible refine Below.setRow ?_ ?_ _) | go_size))))).mono ?_; rintro e w1 ⟨rfl, J8, d8, rfl⟩))
      go_ret
      exact ⟨rfl, junk_of_below (HJ.out.trans ((show Below W.heap.size W _ by ((try simp only [← Array.append_assoc]); repeat' (first | (with_reducible exact Below.refl _ _) | (with_reducible assumption) | (with_reducible refine Below.alloc ?_ ?_ _) | (with_reducible refine Below.drew ?_) | (with_reducible refine below_drewN ?_ _) | (with_reducible exact below_d _ _ _ _ _) | (with_reducible refine below_snoc _ _ ?_ ?_) | (with_reducible refine below_plus ?_ ?_ _ _) | (with_reducible refine Below.setCell ?_ ?_ _) | (with_reducible refine Below.setRow ?_ ?_ _) | go_size))).mono HJ.out.size))⟩
end Go.Proofs.Ytnpkhhchbahcpaa

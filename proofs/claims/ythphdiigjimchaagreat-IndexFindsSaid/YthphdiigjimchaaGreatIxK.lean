/- apportionref14: Check, At, Near. -/
import Derived.Test.YthphdiigjimchaaGreatIxMath
import Derived.Test.YthphdiigjimchaaGreatReOne
namespace Go.Proofs.YthphdiigjimchaaGreat
set_option linter.unusedVariables false
set_option linter.unusedSimpArgs false
open Go.RowKit
set_option maxRecDepth 100000 in
set_option maxHeartbeats 2000000 in
theorem r_ixCheck (w : World) (a : Option Addr) (n ca : Nat) (L : List (List (List Pt))) (hL : LRC w a n ca L) (hs : n ≤ 4611686018427387903) (hl : ∀ R ∈ L, ∀ K ∈ R, K.length ≤ 8796093022208) :
    Calls Tryz.prog 12 #[.slice a n ca] w fun e w' => e = .returned (fltV (checkX L)) ∧ Junk w w' := by
  have L1 := Lib.hid hL.len
  have hln := hL.len
  obtain ⟨V, hV⟩ : ∃ V, checkX L = V := ⟨_, rfl⟩
  rw [hV]
  have HV := Lib.hid hV
  by_cases h1 : 64 < n
  · have HE := Lib.hid (show V = (3, 0) by rw [← hV]; exact checkX_many (by omega))
    have i1 : (n : Int) > 64 := by omega
    clear hL hl hV h1 hln
    go_enter Tryz.func12, Tryz.ntmps12
    go_wp2_with fail
    refine bodyPost_ret (results_flt rfl _ _ w.heap.size #[.int .i64 3, .int .i64 0] rfl (by simp [go_sem]) rfl) rfl ⟨congrArg Ending.returned (show _ = fltV V by rw [HE.out]; rfl), junk_of_below (by (repeat' first | with_reducible (first | apply Below.refl | assumption | apply bw_a | apply bw_d | apply bw_n | apply bw_p | apply bw_c | apply bw_r) | go_size))⟩
  have HK := Lib.hid hL
  have HL := Lib.hid hl
  have n64 : n ≤ 64 := by omega
  have i1 : ¬ (n : Int) > 64 := by omega
  clear hL hl hV h1 hln
  go_enter Tryz.func12, Tryz.ntmps12
  go_wp2_with fail
  have HJ := Lib.hid (show Below w.heap.size w (w.alloc (.cells #[.int .i64 0, .int .i64 0] 33)) by (repeat' first | with_reducible (first | apply Below.refl | assumption | apply bw_a | apply bw_d | apply bw_n | apply bw_p | apply bw_c | apply bw_r) | go_size))
  go_loopw [3] (fun x wr => IcAt (w.alloc (.cells #[.int .i64 0, .int .i64 0] 33)) L n x wr) (fun x _ => n - (intOf x).toNat)
  case atStart => exact ⟨0, rfl, by omega, fun j hj => by omega, #[], _, (plus_nil _).symm⟩
  case round =>
    obtain ⟨k, rfl, k1, hk, J, d, rfl⟩ := hrel
    have HB := Lib.hid hk
    clear hk
    by_cases hlt : k < n
    · obtain ⟨b, o, x, m, c, rfl, p1, hg, hb⟩ := HK.out.at hlt
      have hkL : k < L.length := by rw [L1.out]; exact hlt
      have HC := Lib.hid (fun w' (h : GRC w' x m c (L.getD k [])) => r_reCheck w' x m c (L.getD k []) h (HL.out _ (mem_getD hkL)))
      obtain ⟨⟨e, t⟩, he⟩ : ∃ r, checkR (L.getD k []) = r := ⟨_, rfl⟩
      rw [he] at HC
      have HE := Lib.hid he
      have HG := Lib.hid hg
      unfold fltV at HC
      simp only at HC
      have i5 : (k : Int) < (n : Int) := by omega
      clear he hg
      by_cases h0 : e = 0
      · subst h0
        have HN := Lib.hid (show ∀ j, j < k + 1 → (checkR (L.getD j [])).1 = 0 from fun j hj => by
          by_cases hjk : j = k
          · subst hjk; rw [HE.out]
          · exact HB.out j (by omega))
        go_wp2_with (go_at_call 33; (with_reducible refine (HC.out _ (HG.out.below (by ((try simp only [← Array.append_assoc]); repeat' first | with_reducible (first | apply Below.refl | assumption | apply bw_a | apply bw_d | apply bw_n | apply bw_e | apply bw_s | apply bw_p | apply bw_c | apply bw_r) | go_size)))).mono ?_); rintro e w1 ⟨rfl, J2, d2, rfl⟩)
        go_roundw
        case rel => exact ⟨k + 1, by go_num, by omega, HN.out, junk_of_below (by ((try simp only [← Array.append_assoc]); repeat' first | with_reducible (first | apply Below.refl | assumption | apply bw_a | apply bw_d | apply bw_n | apply bw_e | apply bw_s | apply bw_p | apply bw_c | apply bw_r) | go_size))⟩
        case measure => simp [intOf]; omega
      · have HN := Lib.hid (show V = (e, k) by rw [← HV.out, checkX_hit (by rw [L1.out]; omega) hkL HB.out (by rw [HE.out]; exact h0), HE.out])
        have e1 : (e != 0) = true := by simpa using h0
        go_wp2_with (go_at_call 33; (with_reducible refine (HC.out _ (HG.out.below (by ((try simp only [← Array.append_assoc]); repeat' first | with_reducible (first | apply Below.refl | assumption | apply bw_a | apply bw_d | apply bw_n | apply bw_e | apply bw_s | apply bw_p | apply bw_c | apply bw_r) | go_size)))).mono ?_); rintro e w1 ⟨rfl, J2, d2, rfl⟩)
        refine bodyPost_ret (results_flt rfl _ _ w.heap.size #[.int .i64 e, .int .i64 (k : Int)] rfl (by simp [go_sem]) rfl) rfl ⟨congrArg Ending.returned (show _ = fltV V by rw [HN.out]; rfl), junk_of_below (by (repeat' first | with_reducible (first | apply Below.refl | assumption | apply bw_a | apply bw_d | apply bw_n | apply bw_p | apply bw_c | apply bw_r) | go_size))⟩
    · obtain rfl : k = n := by omega
      have HN := Lib.hid (show V = (0, 0) by rw [← HV.out]; exact checkX_none (by rw [L1.out]; omega) (fun j hj => HB.out j (by rw [L1.out] at hj; exact hj)))
      have i5 : ¬ (k : Int) < (k : Int) := by omega
      go_wp2_with fail
      refine bodyPost_ret (results_flt rfl _ _ w.heap.size #[.int .i64 0, .int .i64 0] rfl (by simp [go_sem]) rfl) rfl ⟨congrArg Ending.returned (show _ = fltV V by rw [HN.out]; rfl), junk_of_below (by (repeat' first | with_reducible (first | apply Below.refl | assumption | apply bw_a | apply bw_d | apply bw_n | apply bw_p | apply bw_c | apply bw_r) | go_size))⟩
set_option maxRecDepth 100000 in
set_option maxHeartbeats 2000000 in
theorem r_ixAt (px py : Int) (w : World) (a : Option Addr) (n ca : Nat) (L : List (List (List Pt))) (hL : LRC w a n ca L) (hs : n ≤ 100000) (hl : ∀ R ∈ L, R.length ≤ 1000 ∧ R.flatten.length ≤ 100000) :
    Calls Tryz.prog 17 #[.slice a n ca, pt px py] w fun e w' => (∃ v, e = .returned v ∧ IOwn w w' v (hasR (px, py) L)) ∧ Junk w w' := by
  have L1 := Lib.hid hL.len
  have HK := Lib.hid hL
  have HL := Lib.hid hl
  unfold pt
  obtain ⟨F, hF⟩ : ∃ F, regQ (px, py) = F := ⟨_, rfl⟩
  have HF := Lib.hid hF
  have HV := Lib.hid (show hasR (px, py) L = scanR F L L.length by rw [← hF]; rfl)
  rw [HV.out]
  clear hL hF hl HV
  go_enter Tryz.func17, Tryz.ntmps17
  go_wp2_with fail
  obtain ⟨W, hW⟩ : ∃ W, w.alloc (.cells #[.int .i64 px, .int .i64 py] 42) = W := ⟨_, rfl⟩
  have c0 : W.cell? ⟨w.heap.size, 0, none⟩ = some (.int .i64 px) := by rw [← hW]; simp [go_sem]
  have c1 : W.cell? ⟨w.heap.size, 1, none⟩ = some (.int .i64 py) := by rw [← hW]; simp [go_sem]
  have hj : Below w.heap.size w W := by rw [← hW]; (repeat' first | with_reducible (first | apply Below.refl | assumption | apply bw_a | apply bw_d | apply bw_n | apply bw_p | apply bw_c | apply bw_r) | go_size)
  have l0 : w.heap.size < W.heap.size := World.block_lt_of_cell? _ _ c0
  have HKW := Lib.hid (HK.out.below hj)
  have HJ := Lib.hid hj
  rw [hW]
  clear hW HK hj
  go_loopw [5, 6] (fun v i wr => SgAt W F L v i wr) (fun _ i _ => n - (intOf i).toNat)
  case atStart => exact ⟨0, rfl, by omega, inil_owns _ _, Below.refl _ _⟩
  case round =>
    obtain ⟨k, rfl, k1, hown, hB⟩ := hrel
    rw [L1.out] at k1
    have hsz := hB.size
    have s0 := (World.cell?_of_block (hB.block _ l0)).trans c0
    have s1 := (World.cell?_of_block (hB.block _ l0)).trans c1
    have n0 := World.block_lt_of_cell? _ _ s0
    have hle := scanR_le F L k
    by_cases hlt : k < n
    · obtain ⟨b, o, x, m, c, rfl, p1, hg, hb⟩ := HKW.out.at hlt
      have q1 := (World.cell?_of_block (hB.block _ hb)).trans p1
      have n1 := World.block_lt_of_cell? _ _ q1
      have hkL : k < L.length := by rw [L1.out]; exact hlt
      have hkm := HL.out _ (mem_getD hkL)
      have hm := hg.len
      have hF1 : F (L.getD k []) = regQ (px, py) (L.getD k []) := by rw [← HF.out]
      have HG := Lib.hid (hg.below hB)
      obtain ⟨R, hR⟩ : ∃ R, L.getD k [] = R := ⟨_, rfl⟩
      rw [hR] at HG hkm hF1 hm
      have HRe := Lib.hid hR
      obtain ⟨wo, rfl⟩ : ∃ wo : World, wo = wr := ⟨_, rfl⟩
      have hfl : ∀ K ∈ R, K.length ≤ 4611686018427387903 := fun K hK => by
        have := ring_leR2 hK
        omega
      have HC := Lib.hid (fun (J : Array Obj) (d : Nat) => r_reIn px py (wo.plus J d) x m c R (HG.out.below (Junk.below ⟨J, d, rfl⟩)) (by omega) hfl)
      unfold pt at HC
      generalize regQ (px, py) R = g at *
      clear hfl
      obtain ⟨S, hS⟩ : ∃ S, scanR F L k = S := ⟨_, rfl⟩
      have HS := Lib.hid hS
      have HOW := Lib.hid hown
      have HB := Lib.hid hB
      rw [hS] at HOW hle
      have HFk := Lib.hid (show F (L.getD k []) = g by rw [HRe.out]; exact hF1)
      have i1 : (k : Int) < (n : Int) := by omega
      clear hg hF1 hown hB hS hR p1 hkm hm
      cases g with
      | true =>
        have HN := Lib.hid (show scanR F L (k + 1) = S ++ [k] by rw [scanR_hit HFk.out, HS.out])
        go_upto_region 5 with fail
        refine region_quiet_all (C := Cls wo) (by kernel_rfl) (by kernel_rfl) (by first | exact cls_drawn _ | exact ⟨#[], _, (plus_nil _).symm⟩) ?_
        repeat (first | (refine qw_skip (by rfl) ?_; simp only [Act.put, List.setIfInBounds_toArray, List.set_cons_succ, List.set_cons_zero]) | (refine qw_want (by rfl) (fun K hK => ?_); go_simp; first | (refine hK _ ?_; clear hK K) | (apply Exists.intro; refine ⟨?_, hK _ ?_⟩; (rintro w3_ ⟨J3_, d3_, rfl⟩; first | (with_reducible exact rfl) | (go_simp; with_reducible exact rfl) | (go_simp; (first | (with_reducible refine (L1.out _).mono ?_) | (with_reducible refine (HC.out _ _).mono ?_)); rintro e_ w_ ⟨rfl, J4_, d4_, rfl⟩; exact ⟨rfl, J3_ ++ J4_, d4_, by simp only [plus_plus, Array.append_assoc]⟩)); clear hK K)))
        refine qw_nil ?_
        rintro w4 ⟨J3, d3, rfl⟩
        go_wp2_with (at_builtin; refine wpList_app rfl (.tmp 19) (.tmp 21) rfl W.heap.size _ S.length (nums S) rfl (powns_below HOW.out (by ((try simp only [← Array.append_assoc]); repeat' first | with_reducible (first | apply Below.refl | assumption | apply bw_a | apply bw_d | apply bw_n | apply bw_e | apply bw_s | apply bw_p | apply bw_c | apply bw_r) | go_size))) _ 1 1 [(k : Int)] rfl (by intro h; cases h) (by have := reads_one (wo.plus J3 d3) (k : Int) (by omega) (by omega); rwa [size_plus] at this) (by omega) (by simp; omega) ?_; intro v' w' hown' hg')
        go_roundw
        case rel => exact ⟨k + 1, by go_num, by rw [L1.out]; omega, by rw [HN.out, nums_snoc, List.length_append]; exact hown', grown_below (B := W.heap.size) (a := W) (HB.out.trans (by ((try simp only [← Array.append_assoc]); repeat' first | with_reducible (first | apply Below.refl | assumption | apply bw_a | apply bw_d | apply bw_n | apply bw_e | apply bw_s | apply bw_p | apply bw_c | apply bw_r) | go_size))) hg' (by simp; omega) (powns_block HOW.out)⟩
        case measure => simp [intOf]; omega
      | false =>
        have HN := Lib.hid (show scanR F L (k + 1) = S by rw [scanR_not HFk.out, HS.out])
        go_upto_region 5 with fail
        refine region_quiet_all (C := Cls wo) (by kernel_rfl) (by kernel_rfl) (by first | exact cls_drawn _ | exact ⟨#[], _, (plus_nil _).symm⟩) ?_
        repeat (first | (refine qw_skip (by rfl) ?_; simp only [Act.put, List.setIfInBounds_toArray, List.set_cons_succ, List.set_cons_zero]) | (refine qw_want (by rfl) (fun K hK => ?_); go_simp; first | (refine hK _ ?_; clear hK K) | (apply Exists.intro; refine ⟨?_, hK _ ?_⟩; (rintro w3_ ⟨J3_, d3_, rfl⟩; first | (with_reducible exact rfl) | (go_simp; with_reducible exact rfl) | (go_simp; (first | (with_reducible refine (L1.out _).mono ?_) | (with_reducible refine (HC.out _ _).mono ?_)); rintro e_ w_ ⟨rfl, J4_, d4_, rfl⟩; exact ⟨rfl, J3_ ++ J4_, d4_, by simp only [plus_plus, Array.append_assoc]⟩)); clear hK K)))
        refine qw_nil ?_
        rintro w4 ⟨J3, d3, rfl⟩
        go_wp2_with fail
        go_roundw
        case rel => exact ⟨k + 1, by go_num, by rw [L1.out]; omega, by rw [HN.out]; exact powns_below HOW.out (by ((try simp only [← Array.append_assoc]); repeat' first | with_reducible (first | apply Below.refl | assumption | apply bw_a | apply bw_d | apply bw_n | apply bw_e | apply bw_s | apply bw_p | apply bw_c | apply bw_r) | go_size)), HB.out.trans ((show Below wo.heap.size wo _ by ((try simp only [← Array.append_assoc]); repeat' first | with_reducible (first | apply Below.refl | assumption | apply bw_a | apply bw_d | apply bw_n | apply bw_e | apply bw_s | apply bw_p | apply bw_c | apply bw_r) | go_size)).mono hsz)⟩
        case measure => simp [intOf]; omega
    · obtain rfl : k = n := by omega
      have hE : scanR F L k = scanR F L L.length := by rw [L1.out]
      rw [hE] at hown
      have i1 : ¬ (k : Int) < (k : Int) := by omega
      have HOW := Lib.hid hown
      clear hE hown hle
      go_wp2_with fail
      go_ret
      exact ⟨⟨_, rfl, ⟨HOW.out.1, HOW.out.2.imp id fun ⟨g, cap, cur, h1, h2, h3⟩ => ⟨g, cap, cur, h1, by omega, h3⟩⟩⟩, junk_of_below (HJ.out.trans (hB.mono HJ.out.size))⟩
set_option maxRecDepth 100000 in
set_option maxHeartbeats 2000000 in
theorem r_ixNear (px py : Int) (w : World) (a : Option Addr) (n ca : Nat) (L : List (List (List Pt))) (hL : LRC w a n ca L) (hs : n ≤ 100000) (hl : ∀ R ∈ L, R.length ≤ 1000 ∧ R.flatten.length ≤ 100000) :
    Calls Tryz.prog 19 #[.slice a n ca, pt px py] w fun e w' => (∃ v, e = .returned v ∧ IOwn w w' v (nearR (px, py) L)) ∧ Junk w w' := by
  have L1 := Lib.hid hL.len
  have HK := Lib.hid hL
  have HL := Lib.hid hl
  unfold pt
  obtain ⟨F, hF⟩ : ∃ F, nearQ (px, py) = F := ⟨_, rfl⟩
  have HF := Lib.hid hF
  have HV := Lib.hid (show nearR (px, py) L = scanR F L L.length by rw [← hF]; rfl)
  rw [HV.out]
  clear hL hF hl HV
  go_enter Tryz.func19, Tryz.ntmps19
  go_wp2_with fail
  obtain ⟨W, hW⟩ : ∃ W, w.alloc (.cells #[.int .i64 px, .int .i64 py] 42) = W := ⟨_, rfl⟩
  have c0 : W.cell? ⟨w.heap.size, 0, none⟩ = some (.int .i64 px) := by rw [← hW]; simp [go_sem]
  have c1 : W.cell? ⟨w.heap.size, 1, none⟩ = some (.int .i64 py) := by rw [← hW]; simp [go_sem]
  have hj : Below w.heap.size w W := by rw [← hW]; (repeat' first | with_reducible (first | apply Below.refl | assumption | apply bw_a | apply bw_d | apply bw_n | apply bw_p | apply bw_c | apply bw_r) | go_size)
  have l0 : w.heap.size < W.heap.size := World.block_lt_of_cell? _ _ c0
  have HKW := Lib.hid (HK.out.below hj)
  have HJ := Lib.hid hj
  rw [hW]
  clear hW HK hj
  go_loopw [5, 6] (fun v i wr => SgAt W F L v i wr) (fun _ i _ => n - (intOf i).toNat)
  case atStart => exact ⟨0, rfl, by omega, inil_owns _ _, Below.refl _ _⟩
  case round =>
    obtain ⟨k, rfl, k1, hown, hB⟩ := hrel
    rw [L1.out] at k1
    have hsz := hB.size
    have s0 := (World.cell?_of_block (hB.block _ l0)).trans c0
    have s1 := (World.cell?_of_block (hB.block _ l0)).trans c1
    have n0 := World.block_lt_of_cell? _ _ s0
    have hle := scanR_le F L k
    by_cases hlt : k < n
    · obtain ⟨b, o, x, m, c, rfl, p1, hg, hb⟩ := HKW.out.at hlt
      have q1 := (World.cell?_of_block (hB.block _ hb)).trans p1
      have n1 := World.block_lt_of_cell? _ _ q1
      have hkL : k < L.length := by rw [L1.out]; exact hlt
      have hkm := HL.out _ (mem_getD hkL)
      have hm := hg.len
      have hF1 : F (L.getD k []) = nearQ (px, py) (L.getD k []) := by rw [← HF.out]
      have HG := Lib.hid (hg.below hB)
      obtain ⟨R, hR⟩ : ∃ R, L.getD k [] = R := ⟨_, rfl⟩
      rw [hR] at HG hkm hF1 hm
      have HRe := Lib.hid hR
      obtain ⟨wo, rfl⟩ : ∃ wo : World, wo = wr := ⟨_, rfl⟩
      have HI0 := Lib.hid (fun W' (h : GRC W' x m c R) => r_reBox W' x m c R h hkm.2 (by omega))
      obtain ⟨y1, y2, y3, y4, hy⟩ : ∃ y1 y2 y3 y4, boxF R.flatten = (y1, y2, y3, y4) := ⟨_, _, _, _, rfl⟩
      have hbv : boxV R.flatten = .agg #[.int .i64 y1, .int .i64 y2, .int .i64 y3, .int .i64 y4] := by unfold boxV bxV; rw [hy]
      rw [hbv] at HI0
      have hnq : nearQ (px, py) R = (bndOk R.flatten && inF px py y1 y2 y3 y4) := by unfold nearQ; rw [hy]
      rw [hnq] at hF1
      have HI := Lib.hid (fun w' => r_ptIn px py y1 y2 y3 y4 w')
      generalize inF px py y1 y2 y3 y4 = g at *
      generalize bndOk R.flatten = h at *
      unfold pt bxV at HI
      obtain ⟨S, hS⟩ : ∃ S, scanR F L k = S := ⟨_, rfl⟩
      have HS := Lib.hid hS
      have HOW := Lib.hid hown
      have HB := Lib.hid hB
      rw [hS] at HOW hle
      have HFk := Lib.hid (show F (L.getD k []) = (h && g) by rw [HRe.out]; exact hF1)
      have i1 : (k : Int) < (n : Int) := by omega
      clear hg hF1 hown hB hS hR p1 hkm hm hbv hnq hy
      cases h with
      | false =>
        have HN := Lib.hid (show scanR F L (k + 1) = S by rw [scanR_not HFk.out, HS.out])
        go_wp2_with (go_at_call 40; (with_reducible refine (HI0.out _ (HG.out.below (by ((try simp only [← Array.append_assoc]); repeat' first | with_reducible (first | apply Below.refl | assumption | apply bw_a | apply bw_d | apply bw_n | apply bw_e | apply bw_s | apply bw_p | apply bw_c | apply bw_r) | go_size)))).mono ?_); rintro e w1 ⟨rfl, J2, d2, rfl⟩)
        go_roundw
        case rel => exact ⟨k + 1, by go_num, by rw [L1.out]; omega, by rw [HN.out]; exact powns_below HOW.out (by ((try simp only [← Array.append_assoc]); repeat' first | with_reducible (first | apply Below.refl | assumption | apply bw_a | apply bw_d | apply bw_n | apply bw_e | apply bw_s | apply bw_p | apply bw_c | apply bw_r) | go_size)), HB.out.trans ((show Below wo.heap.size wo _ by ((try simp only [← Array.append_assoc]); repeat' first | with_reducible (first | apply Below.refl | assumption | apply bw_a | apply bw_d | apply bw_n | apply bw_e | apply bw_s | apply bw_p | apply bw_c | apply bw_r) | go_size)).mono hsz)⟩
        case measure => simp [intOf]; omega
      | true =>
      cases g with
      | true =>
        have HN := Lib.hid (show scanR F L (k + 1) = S ++ [k] by rw [scanR_hit HFk.out, HS.out])
        go_wp2_with (first
          | (go_at_call 40; (with_reducible refine (HI0.out _ (HG.out.below (by ((try simp only [← Array.append_assoc]); repeat' first | with_reducible (first | apply Below.refl | assumption | apply bw_a | apply bw_d | apply bw_n | apply bw_e | apply bw_s | apply bw_p | apply bw_c | apply bw_r) | go_size)))).mono ?_); rintro e w1 ⟨rfl, J2, d2, rfl⟩)
          | (go_at_call 41; (with_reducible refine (HI.out _).mono ?_); rintro e w1 ⟨rfl, J3, d3, rfl⟩)
          | (at_builtin; refine wpList_app rfl (.tmp 29) (.tmp 31) rfl W.heap.size _ S.length (nums S) rfl (powns_below HOW.out (by ((try simp only [← Array.append_assoc]); repeat' first | with_reducible (first | apply Below.refl | assumption | apply bw_a | apply bw_d | apply bw_n | apply bw_e | apply bw_s | apply bw_p | apply bw_c | apply bw_r) | go_size))) _ 1 1 [(k : Int)] rfl (by intro h; cases h) (by have := reads_one (((wo.plus J2 d2).alloc (.cells #[.int .i64 y1, .int .i64 y2, .int .i64 y3, .int .i64 y4] 67)).plus J3 d3) (k : Int) (by omega) (by omega); rw [size_plus, World.size_alloc, size_plus] at this; exact this) (by omega) (by simp; omega) ?_; intro v' w' hown' hg'))
        go_roundw
        case rel => exact ⟨k + 1, by go_num, by rw [L1.out]; omega, by rw [HN.out, nums_snoc, List.length_append]; exact hown', grown_below (B := W.heap.size) (a := W) (HB.out.trans (by ((try simp only [← Array.append_assoc]); repeat' first | with_reducible (first | apply Below.refl | assumption | apply bw_a | apply bw_d | apply bw_n | apply bw_e | apply bw_s | apply bw_p | apply bw_c | apply bw_r) | go_size))) hg' (by simp; omega) (powns_block HOW.out)⟩
        case measure => simp [intOf]; omega
      | false =>
        have HN := Lib.hid (show scanR F L (k + 1) = S by rw [scanR_not HFk.out, HS.out])
        go_wp2_with (first
          | (go_at_call 40; (with_reducible refine (HI0.out _ (HG.out.below (by ((try simp only [← Array.append_assoc]); repeat' first | with_reducible (first | apply Below.refl | assumption | apply bw_a | apply bw_d | apply bw_n | apply bw_e | apply bw_s | apply bw_p | apply bw_c | apply bw_r) | go_size)))).mono ?_); rintro e w1 ⟨rfl, J2, d2, rfl⟩)
          | (go_at_call 41; (with_reducible refine (HI.out _).mono ?_); rintro e w1 ⟨rfl, J3, d3, rfl⟩))
        go_roundw
        case rel => exact ⟨k + 1, by go_num, by rw [L1.out]; omega, by rw [HN.out]; exact powns_below HOW.out (by ((try simp only [← Array.append_assoc]); repeat' first | with_reducible (first | apply Below.refl | assumption | apply bw_a | apply bw_d | apply bw_n | apply bw_e | apply bw_s | apply bw_p | apply bw_c | apply bw_r) | go_size)), HB.out.trans ((show Below wo.heap.size wo _ by ((try simp only [← Array.append_assoc]); repeat' first | with_reducible (first | apply Below.refl | assumption | apply bw_a | apply bw_d | apply bw_n | apply bw_e | apply bw_s | apply bw_p | apply bw_c | apply bw_r) | go_size)).mono hsz)⟩
        case measure => simp [intOf]; omega
    · obtain rfl : k = n := by omega
      have hE : scanR F L k = scanR F L L.length := by rw [L1.out]
      rw [hE] at hown
      have i1 : ¬ (k : Int) < (k : Int) := by omega
      have HOW := Lib.hid hown
      clear hE hown hle
      go_wp2_with fail
      go_ret
      exact ⟨⟨_, rfl, ⟨HOW.out.1, HOW.out.2.imp id fun ⟨g, cap, cur, h1, h2, h3⟩ => ⟨g, cap, cur, h1, by omega, h3⟩⟩⟩, junk_of_below (HJ.out.trans (hB.mono HJ.out.size))⟩
end Go.Proofs.YthphdiigjimchaaGreat

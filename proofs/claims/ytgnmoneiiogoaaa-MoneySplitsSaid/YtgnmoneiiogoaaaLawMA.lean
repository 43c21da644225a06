/- The law MoneyAll: the parts of a split come to the total. -/
import Derived.Test.YtgnmoneiiogoaaaMonE
import Derived.Test.YtgnmoneiiogoaaaSplA
import Derived.Deep.DeepCutAuto
namespace Go.Proofs.Ytgnmoneiiogoaaa
set_option linter.unusedVariables false
set_option linter.unusedSimpArgs false
open Go.RowKit

theorem Junk.trans {a b c : World} (h : Junk a b) (g : Junk b c) : Junk a c := by
  obtain ⟨J, d, rfl⟩ := h
  obtain ⟨K, e, rfl⟩ := g
  exact ⟨J ++ K, e, by rw [plus_plus]⟩

theorem Reads.junk {w w' : World} {a : Option Addr} {n : Nat} {zs : List Int} (h : Reads w a n zs) (hj : Junk w w') : Reads w' a n zs := h.below hj.below

/-- What is known of the parts, sign aside. -/
structure Known (T W : Int) (zs : List Int) (n : Nat) (G : Nat → Int) : Prop where
  low : ∀ i, i < n → G i = T * zs.getD i 0 / W ∨ (G i = T * zs.getD i 0 / W + 1 ∧ 0 < T * zs.getD i 0 % W)
  mono : ∀ i k, i < n → k < n → zs.getD i 0 < zs.getD k 0 → G i ≤ G k
  sum : sumF G n = T
  bd : ∀ i, i < n → 0 ≤ G i ∧ G i ≤ T + 1

theorem known_of {t : Int} {zs : List Int} {n : Nat} {G : Nat → Int} (h : Parts t zs (sumL zs) n G) (hg : Good zs) (hn : zs.length = n) (t0 : 0 ≤ t) : Known t (sumL zs) zs n G := by
  have hbd := fun i hi => parts_bd h t0 (good_sum hg).1 (fun i hi => good_le hg i (by omega)) i hi
  obtain ⟨z, r, d, rfl, hs, hr, hr2, hp⟩ := h
  have W0 := (good_sum hg).1
  obtain ⟨r', e1, e2, e3⟩ := rem_end t zs (sumL zs) t0 W0 (fun i hi => (hg.2.1 i hi).1) rfl (by omega)
  rw [hn] at e1 e2 e3
  obtain rfl : r' = r := by omega
  refine ⟨fun i hi => ?_, fun i k hi hk hz => ?_, ?_, hbd⟩
  · rw [hp i hi]
    by_cases c : Had d r' i
    · have h1 : had1 d r' i = 1 := if_pos c
      rw [h1]; exact .inr ⟨rfl, had_rest hs W0 e3 hr2 i c⟩
    · have h1 : had1 d r' i = 0 := if_neg c
      rw [h1, Int.add_zero]; exact .inl rfl
  · rw [hp i hi, hp k hk]; exact had_mono hs W0 t0 hr hr2 i k hi hk hz
  · rw [sumF_congr (z + 1) hp]; exact all_sum hs hr hr2

set_option maxRecDepth 100000 in
set_option maxHeartbeats 4000000 in
theorem l_moneyAll (t : Int) (a : Option Addr) (len cap : Nat) (zs : List Int) (w0 : World) (ht : (Lit.int .i64 t).wf = true) (hr : Reads w0 a len zs) :
    Calls Try.prog 5 #[.int .i64 t, .slice a len cap] w0 fun e w' => e = .returned (.bool true) ∧ Junk w0 w' := by
  obtain ⟨t0, t1⟩ := bounds_i64 ht
  clear ht
  have HR0 := Lib.hid hr; clear hr
  generalize hQ : (fun e w' => e = Ending.returned (.bool true) ∧ Junk w0 w') = Q
  have HQ := Lib.hid hQ
  clear hQ
  go_enter Try.func5, Try.ntmps5
  go_wp2_with fail
  refine (awake_ok _).mono ?_
  rintro e w ⟨rfl, hj⟩
  have HR := Lib.hid (HR0.out.junk hj)
  have HE := Lib.hid (show ∀ w', Junk w w' → Q (.returned (.bool true)) w' from fun w' h => by rw [← HQ.out]; exact ⟨rfl, hj.trans h⟩)
  clear hj HR0 HQ
  by_cases h1 : t < -1073741824
  · go_wp2
    exact HE.out _ (junk_of_below (by (repeat' (first | (with_reducible exact Below.refl _ _) | (with_reducible assumption) | (with_reducible refine Below.alloc ?_ ?_ _) | (with_reducible refine Below.drew ?_) | (with_reducible refine below_drewN ?_ _) | (with_reducible refine below_plus ?_ ?_ _ _) | (with_reducible refine Below.setCell ?_ ?_ _) | (with_reducible refine Below.setRow ?_ ?_ _) | go_size))))
  by_cases h2 : 1073741824 < t
  · go_wp2
    exact HE.out _ (junk_of_below (by (repeat' (first | (with_reducible exact Below.refl _ _) | (with_reducible assumption) | (with_reducible refine Below.alloc ?_ ?_ _) | (with_reducible refine Below.drew ?_) | (with_reducible refine below_drewN ?_ _) | (with_reducible refine below_plus ?_ ?_ _ _) | (with_reducible refine Below.setCell ?_ ?_ _) | (with_reducible refine Below.setRow ?_ ?_ _) | go_size))))
  by_cases h3 : 200 < len
  · go_wp2
    exact HE.out _ (junk_of_below (by (repeat' (first | (with_reducible exact Below.refl _ _) | (with_reducible assumption) | (with_reducible refine Below.alloc ?_ ?_ _) | (with_reducible refine Below.drew ?_) | (with_reducible refine below_drewN ?_ _) | (with_reducible refine below_plus ?_ ?_ _ _) | (with_reducible refine Below.setCell ?_ ?_ _) | (with_reducible refine Below.setRow ?_ ?_ _) | go_size))))
  obtain ⟨hzl, hzb, hzc⟩ := HR.out
  have HZL := Lib.hid hzl; have HZC := Lib.hid hzc
  clear hzl hzc hzb
  go_wp2_with fail
  go_loopw [6, 7] (fun s i wr => ∃ k : Nat, i = .int .i64 k ∧ k ≤ len ∧ s = .int .i64 (sumL (zs.take k)) ∧ (∀ j, j < k → 0 ≤ zs.getD j 0 ∧ zs.getD j 0 ≤ 1048576) ∧ wr = w) (fun _ i _ => len - (intOf i).toNat)
  case atStart => exact ⟨0, rfl, Nat.zero_le _, by simp [sumL], fun j h => by omega, rfl⟩
  case round =>
    obtain ⟨k, rfl, hk, rfl, hall, rfl⟩ := hrel
    by_cases hlt : k < len
    · rcases HZC.out with h0 | ⟨b, off, rfl, hc⟩
      · omega
      have c1 := hc k hlt
      clear hc
      have s1 := lt_of_cell' c1
      have HT := Lib.hid (sumL_take zs k (by rw [HZL.out]; exact hlt))
      have hsb := sumL_nonneg (zs.take k) 1048576 (fun i hi => by
        have hik : i < k := by simp at hi; omega
        have e : (zs.take k).getD i 0 = zs.getD i 0 := by simp [List.getD_eq_getElem?_getD, List.getElem?_take_of_lt hik]
        rw [e]; exact hall i hik) k (by simp; rw [HZL.out]; omega)
      rw [List.take_take, Nat.min_self] at hsb
      obtain ⟨sb0, sb1⟩ := hsb
      have HA := Lib.hid hall; clear hall
      obtain ⟨z, hz⟩ : ∃ z, z = zs.getD k 0 := ⟨_, rfl⟩
      rw [← hz] at c1 HT
      have HZ := Lib.hid hz; clear hz
      have hs2 : sumL (zs.take k) ≤ 209715200 := by omega
      clear sb1
      generalize hse : sumL (zs.take k) = s at *
      clear hse
      by_cases z0 : z < 0
      · go_wp2
        exact HE.out _ (junk_of_below (by (repeat' (first | (with_reducible exact Below.refl _ _) | (with_reducible assumption) | (with_reducible refine Below.alloc ?_ ?_ _) | (with_reducible refine Below.drew ?_) | (with_reducible refine below_drewN ?_ _) | (with_reducible refine below_plus ?_ ?_ _ _) | (with_reducible refine Below.setCell ?_ ?_ _) | (with_reducible refine Below.setRow ?_ ?_ _) | go_size))))
      by_cases z1 : 1048576 < z
      · go_wp2
        exact HE.out _ (junk_of_below (by (repeat' (first | (with_reducible exact Below.refl _ _) | (with_reducible assumption) | (with_reducible refine Below.alloc ?_ ?_ _) | (with_reducible refine Below.drew ?_) | (with_reducible refine below_drewN ?_ _) | (with_reducible refine below_plus ?_ ?_ _ _) | (with_reducible refine Below.setCell ?_ ?_ _) | (with_reducible refine Below.setRow ?_ ?_ _) | go_size))))
      go_wp2_with fail
      go_round
      case rel => exact ⟨k + 1, by go_num, by omega, by rw [HT.out], fun j hj => by
        by_cases e : j = k
        · rw [e, ← HZ.out]; omega
        · exact HA.out j (by omega), trivial⟩
      case measure => simp [intOf]; omega
    · obtain rfl : k = len := by omega
      have htk : zs.take k = zs := List.take_of_length_le (by rw [HZL.out]; exact Nat.le_refl _)
      rw [htk]
      have hb : ∀ i, i < zs.length → 0 ≤ zs.getD i 0 ∧ zs.getD i 0 ≤ 1048576 := fun i hi => hall i (by rw [HZL.out] at hi; exact hi)
      have hW := sumL_nonneg zs 1048576 hb k (by rw [HZL.out]; exact Nat.le_refl _)
      rw [htk] at hW
      have W2 : sumL zs ≤ 209715200 := by omega
      have HB := Lib.hid (show ∀ i, i < k → 0 ≤ zs.getD i 0 ∧ zs.getD i 0 ≤ 1048576 from hall)
      have HS := Lib.hid (n_Split a k cap zs t wr HR.out (by omega) t0 t1)
      clear hall htk hb hlt hk
      obtain ⟨W0, -⟩ := hW
      by_cases hw0 : sumL zs = 0
      · have HD := Lib.hid (show ∀ e w', SplitDone t zs k wr e w' → e = .returned (.tuple #[.slice none 0 0, .int .i64 2]) ∧ Junk wr w' from fun e w' h => by
          rcases h with ⟨h, _⟩ | ⟨_, _, h⟩ | ⟨_, h, _⟩
          · omega
          · exact h
          · exact absurd hw0 h.2.2)
        rw [hw0]
        clear hw0 W0 W2
        go_wp2_with fail
        refine HS.out.mono ?_
        intro e w' hd
        obtain ⟨rfl, J, d, rfl⟩ := HD.out _ _ hd
        clear hd
        go_wp2_with fail
        exact HE.out _ (junk_of_below (by (repeat' (first | (with_reducible exact Below.refl _ _) | (with_reducible assumption) | (with_reducible refine Below.alloc ?_ ?_ _) | (with_reducible refine Below.drew ?_) | (with_reducible refine below_drewN ?_ _) | (with_reducible refine below_plus ?_ ?_ _ _) | (with_reducible refine Below.setCell ?_ ?_ _) | (with_reducible refine Below.setRow ?_ ?_ _) | go_size))))
      · have hgood : Good zs := ⟨by rw [HZL.out]; omega, fun i hi => by have := HB.out i (by rw [HZL.out] at hi; exact hi); omega, hw0⟩
        have W3 : 1 ≤ sumL zs := by omega
        have hwb : (sumL zs == 0) = false := by rw [beq_eq_false_iff_ne]; exact hw0
        have HD := Lib.hid (show ∀ e w', SplitDone t zs k wr e w' → ∃ P J d, e = .returned (.tuple #[.slice (some ⟨wr.heap.size, 0, none⟩) k k, .int .i64 0]) ∧ SParts t zs k P ∧ w' = (wr.alloc (.cells (nrow P k) 3)).plus J d from fun e w' h => by
          rcases h with ⟨h, _⟩ | ⟨_, h, _⟩ | ⟨_, _, h⟩
          · omega
          · exact absurd hgood h
          · exact h)
        obtain ⟨T, hT⟩ : ∃ T, T = (t.natAbs : Int) := ⟨_, rfl⟩
        have HG := Lib.hid (show ∀ P, SParts t zs k P → ∃ G, Known T (sumL zs) zs k G ∧ ∀ i, i < k → P i = if t < 0 then - G i else G i from fun P ⟨G, h1, h2⟩ => ⟨G, by rw [hT]; exact known_of h1 hgood HZL.out (by omega), h2⟩)
        have T0 : 0 ≤ T := by omega
        have T1 : T ≤ 1073741824 := by omega
        have hmx : max t (-t) = T := by omega
        rcases HZC.out with hc0 | ⟨b, off, rfl, hc⟩
        · exfalso
          have h0 := HZL.out
          rw [hc0] at h0
          rw [List.eq_nil_of_length_eq_zero h0] at hw0
          exact hw0 rfl
        have HC := Lib.hid hc
        have k1 : 1 ≤ k := by
          rcases Nat.eq_zero_or_pos k with h | h
          · exfalso
            have h0 := HZL.out
            rw [h] at h0
            rw [List.eq_nil_of_length_eq_zero h0] at hw0
            exact hw0 rfl
          · exact h
        have lb := lt_of_cell' (hc 0 (by omega))
        have lb1 : b < wr.heap.size + 1 := by omega
        have HT := Lib.hid hT
        generalize hWe : sumL zs = W at *
        clear hc hw0 hgood HZC hT hWe
        go_wp2_with fail
        refine HS.out.mono ?_
        intro e w' hd
        obtain ⟨P, J, d, rfl, hp, rfl⟩ := HD.out _ _ hd
        obtain ⟨G, hkn, hpg⟩ := HG.out P hp
        have HK := Lib.hid hkn; have HPG := Lib.hid hpg
        clear hd hp hkn hpg HS HD HG
        obtain ⟨S, hS⟩ : ∃ S : Int, (t < 0 ∧ S = -1) ∨ (¬ t < 0 ∧ S = 1) := by
          by_cases h : t < 0
          · exact ⟨-1, .inl ⟨h, rfl⟩⟩
          · exact ⟨1, .inr ⟨h, rfl⟩⟩
        have HSS := Lib.hid hS
        have HSP := Lib.hid (show ∀ i, i < k → S * P i = G i from fun i hi => by
          rw [HPG.out i hi]
          rcases hS with ⟨h, rfl⟩ | ⟨h, rfl⟩
          · rw [if_pos h]; omega
          · rw [if_neg h]; omega)
        clear hS
        go_upto_if 82 with fail
        go_cut [11] from 82 (fun s wx => s = .int .i64 S ∧ (wr.alloc (.cells (nrow P k) 3)).plus J d = wx)
        case first =>
          rcases HSS.out with ⟨h, rfl⟩ | ⟨h, rfl⟩
          · go_wp2_with fail
            go_meet
            case rel => exact ⟨rfl, rfl⟩
          · go_wp2_with fail
            go_meet
            case rel => exact ⟨rfl, rfl⟩
        case rest =>
          obtain ⟨rfl, rfl⟩ := hcut
          have SB : -1 ≤ S ∧ S ≤ 1 := by rcases HSS.out with ⟨h, rfl⟩ | ⟨h, rfl⟩ <;> omega
          obtain ⟨sb0, sb1⟩ := SB
          go_wp2_with fail
          go_loopw [12, 13] (fun va vi w2 => ∃ (i d : Nat), vi = .int .i64 i ∧ i ≤ k ∧ va = .int .i64 (sumF G i) ∧ w2 = (wr.alloc (.cells (nrow P k) 3)).plus J d) (fun _ vi _ => k - (intOf vi).toNat)
          case atStart => exact ⟨0, d, rfl, Nat.zero_le _, rfl, rfl⟩
          case round =>
            obtain ⟨i, d, rfl, hi, rfl, rfl⟩ := hrel
            have sm0 := sumF_nonneg G i (fun j hj => (HK.out.bd j (by omega)).1)
            have sm1 := sumF_le G 1073741825 i (fun j hj => by have := (HK.out.bd j (by omega)).2; omega)
            have sm2 : sumF G i ≤ 214748365000 := by omega
            clear sm1
            by_cases hlt : i < k
            · have c1 := HC.out i hlt
              obtain ⟨x0, x1⟩ := HB.out i hlt
              have pg := nrow_get P k i hlt
              have sp := HSP.out i hlt
              obtain ⟨g0, g1⟩ := HK.out.bd i hlt
              have hlow := HK.out.low i hlt
              have HN := Lib.hid (show sumF G (i + 1) = sumF G i + G i from rfl)
              generalize hxe : zs.getD i 0 = x at *
              generalize hge : G i = g at *
              generalize hse : sumF G i = s at *
              have HXE := Lib.hid hxe; have HGE := Lib.hid hge
              have z0 : 0 ≤ T * x := Int.mul_nonneg T0 x0
              have z1 : T * x ≤ 1073741824 * 1048576 := Int.mul_le_mul T1 x1 x0 (by omega)
              generalize hze : T * x = Z at *
              obtain ⟨q, hq⟩ : ∃ q, Z / W = q := ⟨_, rfl⟩
              obtain ⟨f, hf⟩ : ∃ f, Z % W = f := ⟨_, rfl⟩
              have hq2 : Z.tdiv W = q := by rw [← hq]; exact Int.tdiv_eq_ediv_of_nonneg z0
              have hf2 : Z.tmod W = f := by rw [← hf]; exact Int.tmod_eq_emod_of_nonneg z0
              rw [hq, hf] at hlow
              have q0 : 0 ≤ q := by rw [← hq]; exact Int.ediv_nonneg z0 W0
              have q1 : q ≤ 1125899906842624 := by rw [← hq]; exact Int.le_trans (Int.ediv_le_self _ z0) (by omega)
              have hWz : (W == 0) = false := by rw [beq_eq_false_iff_ne]; omega
              clear hxe hge hse
              go_upto_region 24 with fail
              go_cut [127] from 103 to 155 (fun t wx => t = .bool false ∧ (wr.alloc (.cells (nrow P k) 3)).plus J d = wx)
              case first =>
                rcases hlow with hg | ⟨hg, hf0⟩
                · have e1 : (g != q) = false := by simp [hg]
                  have e2 : ¬ q < g := by omega
                  clear hg
                  go_wp2_with fail
                  go_meet
                  case rel => exact ⟨by simp, rfl⟩
                · have e1 : (g != q) = true := by simp; omega
                  have e2 : (g != q + 1) = false := by simp [hg]
                  have e3 : q < g := by omega
                  have e4 : (f == 0) = false := by rw [beq_eq_false_iff_ne]; omega
                  clear hg
                  go_wp2_with fail
                  go_meet
                  case rel => exact ⟨by simp, rfl⟩
              case rest =>
                obtain ⟨rfl, rfl⟩ := hcut
                clear hlow hq hf hq2 hf2 q0 q1 z0 z1 hze
                go_wp2_with fail
                go_loopw [16] (fun vc w2 => ∃ c d : Nat, vc = .int .i64 c ∧ c ≤ k ∧ w2 = (wr.alloc (.cells (nrow P k) 3)).plus J d) (fun vc _ => k - (intOf vc).toNat)
                case atStart => exact ⟨0, d, rfl, Nat.zero_le _, rfl⟩
                case round =>
                  obtain ⟨c, d, rfl, hc, rfl⟩ := hrel
                  by_cases hcl : c < k
                  · have c2 := HC.out c hcl
                    obtain ⟨y0, y1⟩ := HB.out c hcl
                    have sp2 := HSP.out c hcl
                    obtain ⟨u0, u1⟩ := HK.out.bd c hcl
                    have hmo := HK.out.mono i c hlt hcl
                    rw [HXE.out, HGE.out] at hmo
                    generalize zs.getD c 0 = y at *
                    generalize G c = u at *
                    by_cases hxy : x < y
                    · have e1 : ¬ u < g := by have := hmo hxy; omega
                      clear hmo
                      go_upto_region 29 with fail
                      go_quiet (fail)
                      go_wp2_with fail
                      go_roundw
                      case rel => exact ⟨c + 1, _, by go_num, by omega, rfl⟩
                      case measure => simp [intOf]; omega
                    · clear hmo
                      go_upto_region 29 with fail
                      go_quiet (fail)
                      go_wp2_with fail
                      go_roundw
                      case rel => exact ⟨c + 1, _, by go_num, by omega, rfl⟩
                      case measure => simp [intOf]; omega
                  · go_wp2_with fail
                    go_roundw
                    case rel => exact ⟨i + 1, d, by go_num, by omega, by rw [HN.out], rfl⟩
                    case measure => simp [intOf]; omega
            · obtain rfl : i = k := by omega
              have hsum := HK.out.sum
              rw [hsum]
              go_wp2_with fail
              exact HE.out _ (junk_of_below (by (repeat' (first | (with_reducible exact Below.refl _ _) | (with_reducible assumption) | (with_reducible refine Below.alloc ?_ ?_ _) | (with_reducible refine Below.drew ?_) | (with_reducible refine below_drewN ?_ _) | (with_reducible refine below_plus ?_ ?_ _ _) | (with_reducible refine Below.setCell ?_ ?_ _) | (with_reducible refine Below.setRow ?_ ?_ _) | go_size))))
end Go.Proofs.Ytgnmoneiiogoaaa

/- Contract of apportionref02's Split. Conditions: the weights read as a list of ints; the indices can be put in the order of their rests. -/
import Derived.Test.YtgnmoneiiogoaaaMonX
import Derived.Test.YtgnmoneiiogoaaaMonG
import Derived.Test.YtgnmoneiiogoaaaMonC
import Derived.Test.YtgnmoneiiogoaaaNumL
import Derived.Deep.DeepCutAuto
namespace Go.Proofs.Ytgnmoneiiogoaaa
set_option linter.unusedVariables false
set_option linter.unusedSimpArgs false
open Go.RowKit

/-- The cells of a row of n bools. -/
def brow (g : Nat → Bool) (n : Nat) : Array Value := ((List.range n).map (fun i => Value.bool (g i))).toArray
@[simp, go_sem] theorem size_brow (g : Nat → Bool) (n : Nat) : (brow g n).size = n := by simp [brow]
@[simp, go_sem] theorem brow_getElem (g : Nat → Bool) (n i : Nat) (h : i < (brow g n).size) : (brow g n)[i] = .bool (g i) := by simp [brow]
theorem brow_get (g : Nat → Bool) (n i : Nat) (h : i < n) : (brow g n)[i]? = some (.bool (g i)) := by simp [brow, h]
theorem brow_set (g : Nat → Bool) (n k : Nat) (v : Bool) : (brow g n).setIfInBounds k (.bool v) = brow (fun i => if i = k then v else g i) n := by
  apply Array.ext_getElem?
  intro i
  rw [Array.getElem?_setIfInBounds]
  by_cases hk : k = i
  · subst hk
    by_cases h : k < n
    · rw [if_pos rfl, if_pos (by simpa using h), brow_get _ _ _ h, if_pos rfl]
    · rw [if_pos rfl, if_neg (by simpa using h), Array.getElem?_eq_none (by simpa using Nat.le_of_not_lt h)]
  · rw [if_neg hk]
    by_cases h : i < n
    · rw [brow_get _ _ _ h, brow_get _ _ _ h, if_neg (Ne.symm hk)]
    · rw [Array.getElem?_eq_none (by simpa using Nat.le_of_not_lt h), Array.getElem?_eq_none (by simpa using Nat.le_of_not_lt h)]

theorem info_bool : ∃ i, Try.prog.info? 4 = some i ∧ i.zero = some (.bool false) ∧ i.size = 1 ∧ i.bytes = 1 := by
  have h : (Try.prog.info? 4).map (fun i => (i.zero, i.size, i.bytes)) = some (some (.bool false), 1, 1) := by kernel_rfl
  cases hi : Try.prog.info? 4 with
  | none => rw [hi] at h; cases h
  | some i =>
    rw [hi] at h
    simp at h
    exact ⟨i, rfl, h.1, h.2.1, h.2.2⟩
theorem made_bools (n : Nat) (hn : n ≤ 1099511627776) (w : World) : (Instr.makeSlice 40 (.int .i64 n) (.int .i64 n)).run Try.prog w = .ok (.slice (some ⟨w.heap.size, 0, none⟩) n n) (w.alloc (.cells (brow (fun _ => false) n) 4)) := by
  obtain ⟨i, hi, hz, hs, hb⟩ := info_bool
  have h := run_make (P := Try.prog) w 40 4 i (.bool false) Try.underlying40 hi hz .i64 .i64 n n (by omega) (by omega) (by rw [hb]; omega) (by omega)
  rw [h]
  have e : madeCells (Value.bool false).cells ((n : Int).toNat * i.size) = brow (fun _ => false) n := by
    rw [hs, Nat.mul_one, Int.toNat_natCast]
    apply Array.ext_getElem?
    intro k
    by_cases hk : k < n
    · rw [brow_get _ _ _ hk]
      simp [madeCells, hk, Value.cells, Nat.mod_one]
    · rw [Array.getElem?_eq_none (by rw [size_madeCells]; omega), Array.getElem?_eq_none (by simpa using Nat.le_of_not_lt hk)]
  rw [e, Int.toNat_natCast]

theorem wp_rq {P : Program} {C : World → Prop} {id : Nat} {Q : Exit → Act → World → Prop} {a : Act} {w : World} {l : List Oper} (hm : P.follows .mixedOrders = true) (hB : Region.lexB .any l.toArray = true) (hC : C { w with drawn := w.drawn + 1 })
    (h : wpQuiet P l.toArray C (fun a' => ∀ w', C w' → Q .normal a' w') l a) : (Code.region id l.toArray true).wp P Q a w :=
  wp_region_quiet (C := C) hm hB hC (by simpa using h)

/-- The best of those that have not had, below a place. -/
def Best {z : Nat} (F : Nat → Int) (d : Array (Fin (z + 1))) (j c : Nat) (v : Int) : Prop :=
  (v = -1 ∧ ∀ i, i < c → Had d j i) ∨ (∃ b : Nat, v = b ∧ b < c ∧ ¬ Had d j b ∧ ∀ i, i < c → ¬ Had d j i → i ≠ b → F i < F b ∨ (F i = F b ∧ b < i))

theorem best_next {z : Nat} {F : Nat → Int} {d : Array (Fin (z + 1))} (h : Sorted F z d) (j : Nat) (hj : j < z + 1) (v : Int) (hb : Best F d j (z + 1) v) : v = d[j]!.val := by
  have hn : ¬ Had d j d[j]!.val := fun ⟨k, h1, h2⟩ => by
    have := h.inj k j (by omega) hj h2
    omega
  rcases hb with ⟨_, hall⟩ | ⟨b, rfl, hbc, hnb, hbest⟩
  · exact absurd (hall _ (d[j]!).isLt) hn
  · obtain ⟨q, hq, rfl⟩ := h.surj b hbc
    by_cases e : d[j]!.val = d[q]!.val
    · rw [e]
    · exfalso
      have h1 := hbest _ (d[j]!).isLt hn e
      have hqj : j < q := by
        rcases Nat.lt_trichotomy q j with g | g | g
        · exact absurd ⟨q, g, rfl⟩ hnb
        · subst g; exact absurd rfl e
        · exact g
      have h2 := h.2 j q (Nat.zero_le _) hqj hq
      unfold Rk at h2
      omega
theorem had_succ {z : Nat} (d : Array (Fin (z + 1))) (j i : Nat) : Had d (j + 1) i ↔ i = d[j]!.val ∨ Had d j i := by
  constructor
  · rintro ⟨k, h1, h2⟩
    by_cases e : k = j
    · subst e; exact .inl h2.symm
    · exact .inr ⟨k, by omega, h2⟩
  · rintro (h | ⟨k, h1, h2⟩)
    · exact ⟨j, by omega, h.symm⟩
    · exact ⟨k, by omega, h2⟩

/-- What the document's Split leaves. -/
def RefDone (t : Int) (zs : List Int) (n : Nat) (w : World) (e : Ending) (w' : World) : Prop :=
  (¬ (-1099511627775 ≤ t ∧ t ≤ 1099511627775) ∧ e = .returned (.tuple #[.slice none 0 0, .int .i64 5]) ∧ Junk w w') ∨
  ((-1099511627775 ≤ t ∧ t ≤ 1099511627775) ∧ ¬ Good zs ∧ e = .returned (.tuple #[.slice none 0 0, .int .i64 2]) ∧ Junk w w') ∨
  ((-1099511627775 ≤ t ∧ t ≤ 1099511627775) ∧ Good zs ∧ ∃ P b, e = .returned (.tuple #[.slice (some ⟨b, 0, none⟩) n n, .int .i64 0]) ∧ SParts t zs n P ∧ w'.rowAt b = some (nrow P n) ∧ w.heap.size ≤ b ∧ Junk w w')

set_option maxRecDepth 100000 in
set_option maxHeartbeats 4000000 in
theorem r_Split (a : Option Addr) (n cap : Nat) (zs : List Int) (t : Int) (w : World) (hr : Reads w a n zs) (hm : n ≤ 1152921504606846976) (t0 : -9223372036854775808 ≤ t) (t1 : t ≤ 9223372036854775807)
    (hd : Good zs → ∃ z d, n = z + 1 ∧ Sorted (Ff (t.natAbs : Int) zs (sumL zs)) z d) :
    Calls Try.prog 17 #[.int .i64 t, .slice a n cap] w (RefDone t zs n w) := by
  have HC := m_Check t
  generalize hQ : RefDone t zs n w = Q
  rcases amtErr_two t with ⟨h1, a0, a1⟩ | ⟨h1, h2⟩
  · rw [h1] at HC
    have HC := Lib.hid HC
    have HQ := Lib.hid hQ
    obtain ⟨hzl, hzb, hzc⟩ := hr
    have HZL := Lib.hid hzl; have HZC := Lib.hid hzc; have HD := Lib.hid hd
    have HBAD := Lib.hid (show ¬ Good zs → ∀ w', Junk w w' → Q (.returned (.tuple #[.slice none 0 0, .int .i64 2])) w' from fun h w' hj => by rw [← hQ]; exact .inr (.inl ⟨⟨a0, a1⟩, h, rfl, hj⟩))
    clear hQ h1 hzl hzb hzc hd
    go_enter Try.func17, Try.ntmps17
    go_wp2_with fail
    refine (HC.out _).mono ?_; rintro e w' ⟨rfl, rfl⟩
    go_wp2_with fail
    go_loopw [6, 7] (fun s i wr => ∃ k : Nat, i = .int .i64 k ∧ k ≤ n ∧ k ≤ 1001 ∧ s = .int .i64 (sumL (zs.take k)) ∧ (∀ j, j < k → 0 ≤ zs.getD j 0 ∧ zs.getD j 0 ≤ 1099511627775) ∧ wr = w) (fun _ i _ => n - (intOf i).toNat)
    case atStart => exact ⟨0, rfl, Nat.zero_le _, by omega, by simp [sumL], fun j h => by omega, rfl⟩
    case round =>
      obtain ⟨k, rfl, hk, hk2, rfl, hall, rfl⟩ := hrel
      by_cases hlt : k < n
      · by_cases hlt2 : k ≤ 1000
        · rcases HZC.out with h0 | ⟨b, off, rfl, hc⟩
          · omega
          have c1 := hc k hlt
          clear hc
          have HT := Lib.hid (sumL_take zs k (by rw [HZL.out]; exact hlt))
          have hsb := sumL_nonneg (zs.take k) 1099511627775 (fun i hi => by
            have hik : i < k := by simp at hi; omega
            have e : (zs.take k).getD i 0 = zs.getD i 0 := by simp [List.getD_eq_getElem?_getD, List.getElem?_take_of_lt hik]
            rw [e]; exact hall i hik) k (by simp; rw [HZL.out]; omega)
          rw [List.take_take, Nat.min_self] at hsb
          obtain ⟨sb0, sb1⟩ := hsb
          have HA := Lib.hid hall; clear hall
          obtain ⟨x, hx⟩ : ∃ x, x = zs.getD k 0 := ⟨_, rfl⟩
          rw [← hx] at c1 HT
          have HX := Lib.hid hx; clear hx
          have hs2 : sumL (zs.take k) ≤ 1099511627775000 := by omega
          clear sb1
          generalize hse : sumL (zs.take k) = s at *
          clear hse
          by_cases z0 : x < 0
          · have hend := Lib.hid (HBAD.out (fun h => by have h1 := h.2.1 k (by rw [HZL.out]; exact hlt); rw [← HX.out] at h1; omega) _ (Junk.refl _))
            go_wp2
            exact hend.out
          by_cases z1 : 1099511627775 < x
          · have hend := Lib.hid (HBAD.out (fun h => by have h1 := h.2.1 k (by rw [HZL.out]; exact hlt); rw [← HX.out] at h1; omega) _ (Junk.refl _))
            go_wp2
            exact hend.out
          go_wp2_with fail
          go_roundw
          case rel => exact ⟨k + 1, by go_num, by omega, by omega, by rw [HT.out], fun j hj => by
            by_cases e : j = k
            · rw [e, ← HX.out]; omega
            · exact HA.out j (by omega), trivial⟩
          case measure => simp [intOf]; omega
        · have hbig : 1000 < n := by omega
          have hend := Lib.hid (HBAD.out (fun h => by have h1 := h.1; have := HZL.out; omega) _ (Junk.refl _))
          generalize sumL (zs.take k) = s at *
          clear hall
          go_wp2
          exact hend.out
      · obtain rfl : k = n := by omega
        by_cases hbig : 1000 < k
        · have hend := Lib.hid (HBAD.out (fun h => by have h1 := h.1; have := HZL.out; omega) _ (Junk.refl _))
          generalize sumL (zs.take k) = s at *
          clear hall
          go_wp2
          exact hend.out
        have htk : zs.take k = zs := List.take_of_length_le (by rw [HZL.out]; exact Nat.le_refl _)
        rw [htk]
        have HA := Lib.hid hall
        clear hall htk
        by_cases hs0 : sumL zs = 0
        · have hend := Lib.hid (HBAD.out (fun h => h.2.2 hs0) _ (Junk.refl _))
          rw [hs0]
          go_wp2
          exact hend.out
        have hgood : Good zs := ⟨by rw [HZL.out]; omega, fun i hi => HA.out i (by rw [HZL.out] at hi; exact hi), hs0⟩
        obtain ⟨z, dd, hz, hsd⟩ := HD.out hgood
        obtain ⟨W0, W1⟩ := good_sum hgood
        have hwb : (sumL zs == 0) = false := by rw [beq_eq_false_iff_ne]; exact hs0
        obtain ⟨T, hT⟩ : ∃ T, T = (t.natAbs : Int) := ⟨_, rfl⟩
        have T0 : 0 ≤ T := by omega
        have T1 : T ≤ 1099511627775 := by omega
        have hmx : max t (-t) = T := by omega
        obtain ⟨S, hS⟩ : ∃ S : Int, (t < 0 ∧ S = -1) ∨ (¬ t < 0 ∧ S = 1) := by
          by_cases h : t < 0
          · exact ⟨-1, .inl ⟨h, rfl⟩⟩
          · exact ⟨1, .inr ⟨h, rfl⟩⟩
        have HSS := Lib.hid hS
        have sb : -1 ≤ S ∧ S ≤ 1 := by omega
        obtain ⟨sb0, sb1⟩ := sb
        have hmk := made_ints k (by omega)
        have hmb := made_bools k (by omega)
        have hkz : k = z + 1 := hz
        rcases HZC.out with hc0 | ⟨b, off, rfl, hc⟩
        · omega
        have HCE := Lib.hid hc
        have lb := lt_of_cell' (hc 0 (by omega))
        have lb1 : b < wr.heap.size + 1 := by omega
        have lb2 : b < wr.heap.size + 1 + 1 := by omega
        rw [← hT] at hsd
        have HRB := Lib.hid (fun i (hi : i ≤ k) => rem_bd T zs (sumL zs) T0 W0 (fun i hi => (hgood.2.1 i hi).1) rfl i (by rw [HZL.out]; exact hi))
        have HRE := Lib.hid (rem_end T zs (sumL zs) T0 W0 (fun i hi => (hgood.2.1 i hi).1) rfl (by rw [HZL.out]; omega))
        have HGL := Lib.hid (fun i (hi : i < k) => good_le hgood i (by rw [HZL.out]; exact hi))
        have HOK := Lib.hid (show ∀ G P b w', Parts T zs (sumL zs) k G → (∀ i, i < k → P i = S * G i) → w'.rowAt b = some (nrow P k) → wr.heap.size ≤ b → Junk wr w' → Q (.returned (.tuple #[.slice (some ⟨b, 0, none⟩) k k, .int .i64 0])) w' from fun G P b w' h1 h2 h3 h4 h5 => by
          rw [← HQ.out]
          refine .inr (.inr ⟨⟨a0, a1⟩, hgood, P, b, rfl, ⟨G, by rw [← hT]; exact h1, fun i hi => ?_⟩, h3, h4, h5⟩)
          rw [h2 i hi]
          rcases hS with ⟨h, rfl⟩ | ⟨h, rfl⟩
          · rw [if_pos h]; omega
          · rw [if_neg h]; omega)
        have HSD := Lib.hid hsd; have HKZ := Lib.hid hkz
        rw [HZL.out] at HRE
        generalize hWe : sumL zs = W at *
        clear hc hs0 hgood HZC hT hS hz hkz hsd HBAD HD HQ hWe
        go_upto_if 62 with fail
        go_cut [9] from 62 (fun s wx => s = .int .i64 S ∧ wr = wx)
        case first =>
          rcases HSS.out with ⟨h, rfl⟩ | ⟨h, rfl⟩
          · go_wp2_with fail
            go_meet
            case rel => exact ⟨rfl, rfl⟩
          · go_wp2_with fail
            go_meet
            case rel => exact ⟨rfl, rfl⟩
        case rest =>
          obtain ⟨rfl, rfl⟩ := hcut
          go_wp2_with fail
          go_loopw [10, 13] (fun vl vi w2 => ∃ (i d : Nat) (p : Nat → Int) (J : Array Obj), vi = .int .i64 i ∧ i ≤ k ∧ vl = .int .i64 (T - sumF (Qf T zs W) i) ∧ (∀ j, j < i → p j = Qf T zs W j) ∧ w2 = ((wr.alloc (.cells (nrow p k) 3)).alloc (.cells (brow (fun _ => false) k) 4)).plus J d) (fun _ vi _ => k - (intOf vi).toNat)
          case atStart => exact ⟨0, wr.drawn, fun _ => 0, #[], rfl, Nat.zero_le _, by simp [sumF], fun j h => by omega, (plus_nil _).symm⟩
          case round =>
            obtain ⟨i, d, p, J, rfl, hi, rfl, hpq, rfl⟩ := hrel
            have HPQ := Lib.hid hpq; clear hpq
            by_cases hlt : i < k
            · have c1 := HCE.out i hlt
              have hzi := HA.out i hlt
              obtain ⟨x0, x1⟩ := hzi
              have x2 := (HGL.out i hlt).2
              have hq := qf_bd T zs W i T0 x0 x2 W0
              obtain ⟨q0, q1⟩ := hq
              obtain ⟨r0, r1⟩ := HRB.out i hi
              obtain ⟨r2, r3⟩ := HRB.out (i + 1) hlt
              have HS := Lib.hid (show T - sumF (Qf T zs W) (i + 1) = T - sumF (Qf T zs W) i - Qf T zs W i by show T - (sumF (Qf T zs W) i + Qf T zs W i) = _; omega)
              rw [HS.out] at r2 r3
              have HF := Lib.hid (fun w => r_Floor T (zs.getD i 0) W (by omega) (by omega) (by omega) (by omega) (by omega) (by omega) w)
              rw [floor_pos T (zs.getD i 0) W T0 x0 x2 W0 T1] at HF
              change Hid (∀ w, Calls _ _ _ _ fun e w' => e = .returned (.tuple #[.int .i64 (Qf T zs W i), .int .i64 0]) ∧ _) at HF
              generalize zs.getD i 0 = x at *
              generalize hqe : Qf T zs W i = q at *
              generalize hse : sumF (Qf T zs W) i = s at *
              have HQE := Lib.hid hqe; have HSE := Lib.hid hse
              clear hqe hse
              go_wp2_with fail
              refine (HF.out _).mono ?_; rintro e w' ⟨rfl, J2, d2, rfl⟩
              go_wp2_with fail
              go_roundw
              case rel => exact ⟨i + 1, _, fun j => if j = i then q else p j, _, by go_num, by omega, by rw [HS.out], fun j hj => by
                by_cases e : j = i
                · rw [e]; simp only [if_true]; exact HQE.out.symm
                · simp only [e, if_false]; exact HPQ.out j (by omega), by rw [nrow_set]⟩
              case measure => simp [intOf]; omega
            · obtain rfl : i = k := by omega
              obtain ⟨r, hr1, hr2, hr3⟩ := HRE.out
              rw [hr1, nrow_congr HPQ.out]
              have HR1 := Lib.hid hr1
              clear hr1 hr3
              have HNZ := Lib.hid (fun m (hm : m < i) => HGL.out m hm)
              have HQB := Lib.hid (fun m (hm : m < i) => qf_bd T zs W m T0 (HGL.out m hm).1 (HGL.out m hm).2 W0)
              go_wp2_with fail
              go_loopw [10] (fun vl w2 => ∃ (j d : Nat) (hh : Nat → Bool) (J : Array Obj), vl = .int .i64 ((r : Int) - j) ∧ j ≤ r ∧ Hid (∀ m, m < i → (hh m = true ↔ Had dd j m)) ∧ w2 = ((wr.alloc (.cells (nrow (Qf T zs W) i) 3)).alloc (.cells (brow hh i) 4)).plus J d) (fun vl _ => (intOf vl).toNat)
              case atStart => exact ⟨0, d, fun _ => false, J, by go_num, Nat.zero_le _, Lib.hid (fun m _ => ⟨fun h => (by cases h), fun ⟨k, h, _⟩ => (by omega)⟩), rfl⟩
              case round =>
                obtain ⟨j, d, hh, J, rfl, hj, HH, rfl⟩ := hrel
                by_cases hjr : j < r
                · have e0 : (0 : Int) < (r : Int) - j := by omega
                  go_wp2_with fail
                  go_loopw [16, 17] (fun vb vc w2 => ∃ (c d : Nat) (v : Int) (J : Array Obj), vc = .int .i64 c ∧ c ≤ i ∧ vb = .int .i64 v ∧ Hid (Best (Ff T zs W) dd j c v) ∧ w2 = ((wr.alloc (.cells (nrow (Qf T zs W) i) 3)).alloc (.cells (brow hh i) 4)).plus J d) (fun _ vc _ => i - (intOf vc).toNat)
                  case atStart => exact ⟨0, d, -1, J, rfl, Nat.zero_le _, rfl, Lib.hid (.inl ⟨rfl, fun m hm => by omega⟩), rfl⟩
                  case round =>
                   obtain ⟨c, d, v, J, rfl, hc, rfl, HB, rfl⟩ := hrel
                   by_cases hcl : c < i
                   · have pg := brow_get hh i c hcl
                     cases hv : hh c with
                     | true =>
                      have HB2 := Lib.hid (show Best (Ff T zs W) dd j (c + 1) v from by
                        have hhad := (HH.out c hcl).1 hv
                        rcases HB.out with ⟨h1, h2⟩ | ⟨b, h1, h2, h3, h4⟩
                        · exact .inl ⟨h1, fun m hm => by
                            by_cases e : m = c
                            · rw [e]; exact hhad
                            · exact h2 m (by omega)⟩
                        · exact .inr ⟨b, h1, by omega, h3, fun m hm hn hne => by
                            by_cases e : m = c
                            · exact absurd (by rw [e]; exact hhad) hn
                            · exact h4 m (by omega) hn hne⟩)
                      rw [hv] at pg
                      go_upto_region 29 with fail
                      go_quiet (fail)
                      go_wp2_with fail
                      go_roundw
                      case rel => exact ⟨c + 1, _, v, J, by go_num, by omega, rfl, HB2, rfl⟩
                      case measure => simp [intOf]; omega
                     | false =>
                      rw [hv] at pg
                      have hnh : ¬ Had dd j c := fun h => by have := (HH.out c hcl).2 h; rw [hv] at this; cases this
                      by_cases hvn : v = -1
                      · subst hvn
                        have HB2 := Lib.hid (show Best (Ff T zs W) dd j (c + 1) c from by
                          rcases HB.out with ⟨h1, h2⟩ | ⟨b, h1, h2, h3, h4⟩
                          · exact .inr ⟨c, rfl, by omega, hnh, fun m hm hn hne => absurd (h2 m (by omega)) hn⟩
                          · omega)
                        clear hnh
                        go_upto_region 29 with fail
                        go_quiet (fail)
                        go_wp2_with fail
                        go_roundw
                        case rel => exact ⟨c + 1, _, c, J, by go_num, by omega, rfl, HB2, rfl⟩
                        case measure => simp [intOf]; omega
                      · obtain ⟨bb, rfl, hbc, hnb, hbb⟩ : ∃ b : Nat, v = b ∧ b < c ∧ ¬ Had dd j b ∧ ∀ m, m < c → ¬ Had dd j m → m ≠ b → Ff T zs W m < Ff T zs W b ∨ (Ff T zs W m = Ff T zs W b ∧ b < m) := by
                          rcases HB.out with ⟨h1, h2⟩ | h
                          · exact absurd h1 hvn
                          · exact h
                        have HBB := Lib.hid hbb
                        have HNB := Lib.hid hnb
                        have HNH := Lib.hid hnh
                        clear hbb hnb hnh hvn HB
                        have c1 := HCE.out c hcl
                        have c2 := HCE.out bb (by omega)
                        have bbi : bb < i := by omega
                        have hx := HA.out c hcl
                        have hy := HA.out bb bbi
                        have hqc := HQB.out c hcl
                        have hqb := HQB.out bb bbi
                        have fc : T * zs.getD c 0 - Qf T zs W c * W = Ff T zs W c := by
                          have := Int.mul_ediv_add_emod (T * zs.getD c 0) W
                          have h2 := Int.mul_comm W (T * zs.getD c 0 / W)
                          unfold Qf Ff; omega
                        have fb : T * zs.getD bb 0 - Qf T zs W bb * W = Ff T zs W bb := by
                          have := Int.mul_ediv_add_emod (T * zs.getD bb 0) W
                          have h2 := Int.mul_comm W (T * zs.getD bb 0 / W)
                          unfold Qf Ff; omega
                        have HG := fun w => m_greater T (zs.getD c 0) (Qf T zs W c) (zs.getD bb 0) (Qf T zs W bb) W (by omega) (by omega) (by omega) (by omega) (by omega) (by omega) (by omega) (by omega) (by omega) (by omega) (by omega) (by omega) w
                        rw [fc, fb] at HG
                        clear fc fb hx hy hqc hqb
                        have ebb : ¬ (bb : Int) < 0 := by omega
                        by_cases hgt : Ff T zs W bb < Ff T zs W c
                        · have HB2 := Lib.hid (show Best (Ff T zs W) dd j (c + 1) c from .inr ⟨c, rfl, by omega, HNH.out, fun m hm hn hne => by
                            by_cases e : m = bb
                            · subst e; exact .inl hgt
                            · have := HBB.out m (by omega) hn e; omega⟩)
                          rw [decide_eq_true hgt] at HG
                          have HG := Lib.hid HG
                          clear hgt
                          go_upto_region 29 with fail
                          refine wp_rq (C := fun w' => ∃ J d, w' = ((wr.alloc (.cells (nrow (Qf T zs W) i) 3)).alloc (.cells (brow hh i) 4)).plus J d) (by kernel_rfl) (by kernel_rfl) ⟨J, d + 1, rfl⟩ ?_
                          repeat (refine wpQuiet_step (fun K hK => ?_); go_simp; first | (refine hK _ ?_; clear hK K) | (apply Exists.intro; refine ⟨?_, hK _ ?_⟩; (intro w3_ J3_ d3_ hw3_; subst hw3_; first | (with_reducible exact rfl) | (go_simp; with_reducible exact rfl) | (go_simp; refine (HG.out _).mono ?_; rintro e_ w_ ⟨rfl, J4_, d4_, rfl⟩; exact ⟨rfl, _, _, by rw [plus_plus]⟩)); clear hK K))
                          refine wpQuiet_nil ?_
                          intro w3 hw3
                          obtain ⟨J3, d3, rfl⟩ := hw3
                          go_wp2_with fail
                          go_roundw
                          case rel => exact ⟨c + 1, _, c, _, by go_num, by omega, rfl, HB2, rfl⟩
                          case measure => simp [intOf]; omega
                        · have HB2 := Lib.hid (show Best (Ff T zs W) dd j (c + 1) bb from .inr ⟨bb, rfl, by omega, HNB.out, fun m hm hn hne => by
                            by_cases e : m = c
                            · subst e
                              rcases Int.lt_or_eq_of_le (Int.not_lt.1 hgt) with g | g
                              · exact .inl g
                              · exact .inr ⟨g, hbc⟩
                            · exact HBB.out m (by omega) hn hne⟩)
                          rw [decide_eq_false hgt] at HG
                          have HG := Lib.hid HG
                          clear hgt
                          go_upto_region 29 with fail
                          refine wp_rq (C := fun w' => ∃ J d, w' = ((wr.alloc (.cells (nrow (Qf T zs W) i) 3)).alloc (.cells (brow hh i) 4)).plus J d) (by kernel_rfl) (by kernel_rfl) ⟨J, d + 1, rfl⟩ ?_
                          repeat (refine wpQuiet_step (fun K hK => ?_); go_simp; first | (refine hK _ ?_; clear hK K) | (apply Exists.intro; refine ⟨?_, hK _ ?_⟩; (intro w3_ J3_ d3_ hw3_; subst hw3_; first | (with_reducible exact rfl) | (go_simp; with_reducible exact rfl) | (go_simp; refine (HG.out _).mono ?_; rintro e_ w_ ⟨rfl, J4_, d4_, rfl⟩; exact ⟨rfl, _, _, by rw [plus_plus]⟩)); clear hK K))
                          refine wpQuiet_nil ?_
                          intro w3 hw3
                          obtain ⟨J3, d3, rfl⟩ := hw3
                          go_wp2_with fail
                          go_roundw
                          case rel => exact ⟨c + 1, _, bb, _, by go_num, by omega, rfl, HB2, rfl⟩
                          case measure => simp [intOf]; omega
                   · obtain rfl : c = i := by omega
                     have hv := best_next HSD.out j (by have := HKZ.out; omega) v (by rw [← HKZ.out]; exact HB.out)
                     have hyl : dd[j]!.val < c := by have := (dd[j]!).isLt; have := HKZ.out; omega
                     obtain ⟨y, hy⟩ : ∃ y, y = dd[j]!.val := ⟨_, rfl⟩
                     rw [← hy] at hv hyl
                     subst hv
                     have HH2 := Lib.hid (show ∀ m, m < c → ((if m = y then true else hh m) = true ↔ Had dd (j + 1) m) from fun m hm => by
                       rw [had_succ, ← hy]
                       by_cases e : m = y
                       · simp [e]
                       · simp only [e, if_false, false_or]; exact HH.out m hm)
                     clear hy HB
                     go_wp2_with fail
                     go_roundw
                     case rel => exact ⟨j + 1, d, fun m => if m = y then true else hh m, J, by go_num, by omega, HH2, by rw [brow_set]⟩
                     case measure => simp [intOf]; omega
                · obtain rfl : j = r := by omega
                  have HP := Lib.hid (show Parts T zs W i (fun x => Qf T zs W x + had1 dd j x) from ⟨z, j, dd, HKZ.out, HSD.out, HR1.out, hr2, fun _ _ => rfl⟩)
                  have HH1 := Lib.hid (show ∀ m, m < i → (hh m = true → had1 dd j m = 1) ∧ (hh m = false → had1 dd j m = 0) from fun m hm => ⟨fun h => if_pos ((HH.out m hm).1 h), fun h => if_neg (fun h2 => by rw [(HH.out m hm).2 h2] at h; cases h)⟩)
                  have e0 : ¬ (0 : Int) < (j : Int) - j := by omega
                  go_wp2_with fail
                  go_loopw [18] (fun vm w2 => ∃ (m d : Nat) (p : Nat → Int), vm = .int .i64 m ∧ m ≤ i ∧ Hid (∀ x, x < i → p x = if x < m then S * (Qf T zs W x + had1 dd j x) else Qf T zs W x) ∧ w2 = ((wr.alloc (.cells (nrow p i) 3)).alloc (.cells (brow hh i) 4)).plus J d) (fun vm _ => i - (intOf vm).toNat)
                  case atStart => exact ⟨0, d, _, rfl, Nat.zero_le _, Lib.hid (fun x hx => by rw [if_neg (by omega)]), rfl⟩
                  case round =>
                    obtain ⟨m, d, p, rfl, hm, HPX, rfl⟩ := hrel
                    by_cases hml : m < i
                    · have hpm : p m = Qf T zs W m := by rw [HPX.out m hml, if_neg (by omega)]
                      have hqb := HQB.out m hml
                      rw [← hpm] at hqb
                      obtain ⟨g0, g1⟩ := hqb
                      have hst := HH1.out m hml
                      have HPM := Lib.hid hpm
                      have bg := brow_get hh i m hml
                      have pg := nrow_get p i m hml
                      cases hv : hh m with
                      | true =>
                        rw [hv] at bg
                        obtain ⟨y, hy⟩ : ∃ y, S * (p m + 1) = y := ⟨_, rfl⟩
                        have yb : -1099511627777 ≤ y ∧ y ≤ 1099511627777 := by
                          rcases HSS.out with ⟨_, rfl⟩ | ⟨_, rfl⟩ <;> omega
                        obtain ⟨y0, y1⟩ := yb
                        have HY := Lib.hid (show y = S * (Qf T zs W m + had1 dd j m) by rw [hst.1 hv, ← hpm, hy])
                        have g2 : p m + 1 ≤ 1099511627777 := by omega
                        clear hpm hst
                        go_wp2_with fail
                        go_roundw
                        case rel => exact ⟨m + 1, d, fun x => if x = m then y else p x, by go_num, by omega, Lib.hid (fun x hx => by
                          by_cases e : x = m
                          · subst e; simp only [if_true]; rw [if_pos (by omega), HY.out]
                          · simp only [e, if_false]; rw [HPX.out x hx]
                            by_cases e2 : x < m
                            · rw [if_pos e2, if_pos (by omega)]
                            · rw [if_neg e2, if_neg (by omega)]), by
                          rw [nrow_set]⟩
                        case measure => simp [intOf]; omega
                      | false =>
                        rw [hv] at bg
                        obtain ⟨y, hy⟩ : ∃ y, S * p m = y := ⟨_, rfl⟩
                        have yb : -1099511627777 ≤ y ∧ y ≤ 1099511627777 := by
                          rcases HSS.out with ⟨_, rfl⟩ | ⟨_, rfl⟩ <;> omega
                        obtain ⟨y0, y1⟩ := yb
                        have HY := Lib.hid (show y = S * (Qf T zs W m + had1 dd j m) by rw [hst.2 hv, ← hpm, Int.add_zero, hy])
                        clear hpm hst
                        go_wp2_with fail
                        go_roundw
                        case rel => exact ⟨m + 1, d, fun x => if x = m then y else p x, by go_num, by omega, Lib.hid (fun x hx => by
                          by_cases e : x = m
                          · subst e; simp only [if_true]; rw [if_pos (by omega), HY.out]
                          · simp only [e, if_false]; rw [HPX.out x hx]
                            by_cases e2 : x < m
                            · rw [if_pos e2, if_pos (by omega)]
                            · rw [if_neg e2, if_neg (by omega)]), by rw [nrow_set]⟩
                        case measure => simp [intOf]; omega
                    · obtain rfl : m = i := by omega
                      have hend := Lib.hid (HOK.out _ p wr.heap.size (((wr.alloc (.cells (nrow p m) 3)).alloc (.cells (brow hh m) 4)).plus J d) HP.out (fun x hx => by rw [HPX.out x hx, if_pos hx]) (by simp [go_sem]) (Nat.le_refl _) (junk_of_below (by (repeat' (first | (with_reducible exact Below.refl _ _) | (with_reducible assumption) | (with_reducible refine Below.alloc ?_ ?_ _) | (with_reducible refine Below.drew ?_) | (with_reducible refine below_drewN ?_ _) | (with_reducible refine below_plus ?_ ?_ _ _) | (with_reducible refine Below.setCell ?_ ?_ _) | (with_reducible refine Below.setRow ?_ ?_ _) | go_size)))))
                      go_wp2_with fail
                      exact hend.out
  · rw [h1] at HC
    have HC := Lib.hid HC
    have HQ := Lib.hid (show ∀ e w', (e = .returned (.tuple #[.slice none 0 0, .int .i64 5]) ∧ Junk w w') → Q e w' from fun e w' h => by rw [← hQ]; exact .inl ⟨h2, h⟩)
    clear hQ hr h1 h2 hd
    go_enter Try.func17, Try.ntmps17
    go_wp2_with fail
    refine (HC.out _).mono ?_; rintro e w' ⟨rfl, rfl⟩
    go_wp2_with fail
    exact HQ.out _ _ ⟨rfl, junk_of_below (by (repeat' (first | (with_reducible exact Below.refl _ _) | (with_reducible assumption) | (with_reducible refine Below.alloc ?_ ?_ _) | (with_reducible refine Below.drew ?_) | (with_reducible refine below_drewN ?_ _) | (with_reducible refine below_plus ?_ ?_ _ _) | (with_reducible refine Below.setCell ?_ ?_ _) | (with_reducible refine Below.setRow ?_ ?_ _) | go_size)))⟩
end Go.Proofs.Ytgnmoneiiogoaaa

/- The law MoneySplits: an amount is split as the document says. -/
import Derived.Test.YtgnmoneiiogoaaaLawMA
import Derived.Test.YtgnmoneiiogoaaaRefS
import Derived.LoopN
namespace Go.Proofs.Ytgnmoneiiogoaaa
set_option linter.unusedVariables false
set_option linter.unusedSimpArgs false
open Go.RowKit

theorem sorted_unique {F : Nat → Int} {z : Nat} {d d' : Array (Fin (z + 1))} (h : Sorted F z d) (h' : Sorted F z d') : ∀ j, j < z + 1 → d[j]! = d'[j]! := by
  intro j
  induction j using Nat.strongRecOn with
  | ind j ih =>
    intro hj
    obtain ⟨p, hp, ep⟩ := h.surj d'[j]!.val (d'[j]!).isLt
    obtain ⟨q, hq, eq⟩ := h'.surj d[j]!.val (d[j]!).isLt
    have hp2 : ¬ p < j := fun g => by
      have := ih p g hp
      rw [this] at ep
      have := h'.inj p j hp hj ep
      omega
    have hq2 : ¬ q < j := fun g => by
      have := ih q g hq
      rw [← this] at eq
      have := h.inj q j hq hj eq
      omega
    by_cases e1 : p = j
    · subst e1; exact Fin.ext ep
    by_cases e2 : q = j
    · subst e2; exact Fin.ext eq.symm
    have r1 := h.2 j p (Nat.zero_le _) (by omega) hp
    have r2 := h'.2 j q (Nat.zero_le _) (by omega) hq
    rw [show d[p]! = d'[j]! from Fin.ext ep] at r1
    rw [show d'[q]! = d[j]! from Fin.ext eq] at r2
    exact r1.anti r2

theorem parts_unique {t : Int} {zs : List Int} {W : Int} {n : Nat} {P P' : Nat → Int} (h : Parts t zs W n P) (h' : Parts t zs W n P') (i : Nat) (hi : i < n) : P i = P' i := by
  obtain ⟨z, r, d, rfl, hs, hr, hr2, hp⟩ := h
  obtain ⟨z', r', d', hz, hs', hr', hr2', hp'⟩ := h'
  obtain rfl : z' = z := by omega
  obtain rfl : r' = r := by omega
  have hu := sorted_unique hs hs'
  rw [hp i hi, hp' i hi]
  have e : Had d r' i ↔ Had d' r' i := ⟨fun ⟨k, h1, h2⟩ => ⟨k, h1, by rw [← hu k (by omega)]; exact h2⟩, fun ⟨k, h1, h2⟩ => ⟨k, h1, by rw [hu k (by omega)]; exact h2⟩⟩
  unfold had1
  by_cases c : Had d r' i
  · rw [if_pos c, if_pos (e.1 c)]
  · rw [if_neg c, if_neg (fun g => c (e.2 g))]

theorem sparts_unique {t : Int} {zs : List Int} {n : Nat} {P P' : Nat → Int} (h : SParts t zs n P) (h' : SParts t zs n P') : partsL P n = partsL P' n := by
  obtain ⟨G, hG, hp⟩ := h
  obtain ⟨G', hG', hp'⟩ := h'
  unfold partsL
  apply List.map_congr_left
  intro i hi
  have hi := List.mem_range.1 hi
  rw [hp i hi, hp' i hi, parts_unique hG hG' i hi]

theorem sparts_sorted {t : Int} {zs : List Int} {n : Nat} {P : Nat → Int} (h : SParts t zs n P) : ∃ z d, n = z + 1 ∧ Sorted (Ff (t.natAbs : Int) zs (sumL zs)) z d := by
  obtain ⟨G, ⟨z, r, d, hn, hs, _⟩, _⟩ := h
  exact ⟨z, d, hn, hs⟩

theorem same_true (a b : Option Addr) (n ca cb : Nat) (xs : List Int) (w : World) (hx : Reads w a n xs) (hy : Reads w b n xs) (hn : n ≤ 1152921504606846976) :
    Calls Try.prog 18 #[.slice a n ca, .slice b n cb] w fun e w' => e = .returned (.bool true) ∧ Junk w w' :=
  (k_SameInts a b n n ca cb xs xs w hx hy hn hn).mono fun e w' h => ⟨by rw [h.1, decide_eq_true rfl], h.2⟩

set_option maxRecDepth 100000 in
set_option maxHeartbeats 4000000 in
theorem l_moneySplits (t : Int) (a : Option Addr) (len cap : Nat) (zs : List Int) (w : World) (ht : (Lit.int .i64 t).wf = true) (hn : a = none → len = 0 ∧ cap = 0) (hr : Reads w a len zs) :
    Calls Try.prog 4 #[.int .i64 t, .slice a len cap] w fun e w' => e = .returned (.bool true) ∧ Junk w w' := by
  obtain ⟨t0, t1⟩ := bounds_i64 ht
  clear ht
  generalize hQ : (fun e w' => e = Ending.returned (.bool true) ∧ Junk w w') = Q
  have HE := Lib.hid (show ∀ w', Junk w w' → Q (.returned (.bool true)) w' from fun w' h => by rw [← hQ]; exact ⟨rfl, h⟩)
  have HR := Lib.hid hr; have HN := Lib.hid hn
  clear hQ hr hn
  by_cases h1 : 1100 < len
  · go_enter Try.func4, Try.ntmps4
    go_wp2_with fail
    refine (awake_ok _).mono ?_
    rintro e w' ⟨rfl, J, d, rfl⟩
    go_wp2
    exact HE.out _ (junk_of_below (by (repeat' (first | (with_reducible exact Below.refl _ _) | (with_reducible assumption) | (with_reducible refine Below.alloc ?_ ?_ _) | (with_reducible refine Below.drew ?_) | (with_reducible refine below_drewN ?_ _) | (with_reducible refine below_plus ?_ ?_ _ _) | (with_reducible refine Below.setCell ?_ ?_ _) | (with_reducible refine Below.setRow ?_ ?_ _) | go_size))))
  · go_enter Try.func4, Try.ntmps4
    go_upto_region 3 with fail
    have hl : len ≤ 1100 := by omega
    go_cut [5] from 17 (fun v wx => Copied w a len zs v wx)
    case first =>
      go_wp2_with (at_builtin; refine wpList_copy rfl (.tmp 17) (.tmp 18) rfl rfl a len cap zs rfl HN.out HR.out (by omega) ?_; intro v' w' hc)
      go_meet
      case rel => exact hc
    case rest =>
      obtain ⟨a', cap', rfl, hown, hr1, hb⟩ := hcut
      obtain ⟨x1, x2, hx, hr2⟩ := reads_of_owns (zs := zs) hown hr1.2.1
      obtain ⟨rfl, rfl⟩ : a' = x1 ∧ cap' = x2 := by injection hx with g1 g2 g3; exact ⟨g1, g3⟩
      clear hx hown hr1
      have hj0 := junk_of_below hb
      have HE2 := Lib.hid (show ∀ w', Junk wc w' → Q (.returned (.bool true)) w' from fun w' h => HE.out _ (hj0.trans h))
      have HR1 := Lib.hid (show ∀ w', Junk wc w' → Reads w' a len zs from fun w' h => HR.out.junk (hj0.trans h))
      have HR2 := Lib.hid (show ∀ w', Junk wc w' → Reads w' a' len zs from fun w' h => hr2.junk h)
      clear hb hj0 HE HR HN hr2
      by_cases hok : (-1099511627775 ≤ t ∧ t ≤ 1099511627775) ∧ Good zs
      · have HS := Lib.hid (show ∀ W, Junk wc W → Calls Try.prog 16 #[.int .i64 t, .slice a' len cap'] W fun e w' => ∃ P J d, e = .returned (.tuple #[.slice (some ⟨W.heap.size, 0, none⟩) len len, .int .i64 0]) ∧ SParts t zs len P ∧ w' = (W.alloc (.cells (nrow P len) 3)).plus J d from fun W hw =>
          (n_Split a' len cap' zs t W (HR2.out W hw) (by omega) t0 t1).mono fun e w' h => by
            rcases h with ⟨g1, g2⟩ | ⟨g1, g2, g3⟩ | ⟨g1, g2, g3⟩
            · exact absurd hok.1 g1
            · exact absurd hok.2 g2
            · exact g3)
        have HF := Lib.hid (show ∀ P, SParts t zs len P → ∀ W, Junk wc W → Calls Try.prog 17 #[.int .i64 t, .slice a len cap] W fun e w' => ∃ P b, e = .returned (.tuple #[.slice (some ⟨b, 0, none⟩) len len, .int .i64 0]) ∧ SParts t zs len P ∧ w'.rowAt b = some (nrow P len) ∧ W.heap.size ≤ b ∧ Junk W w' from fun P hp W hw =>
          (r_Split a len cap zs t W (HR1.out W hw) (by omega) t0 t1 (fun _ => sparts_sorted hp)).mono fun e w' h => by
            rcases h with ⟨g1, g2⟩ | ⟨g1, g2, g3⟩ | ⟨g1, g2, g3⟩
            · exact absurd hok.1 g1
            · exact absurd hok.2 g2
            · exact g3)
        have HA := Lib.hid awake_ok
        have HI := Lib.hid (fun W hw => same_true a' a len cap' cap zs W (HR2.out W hw) (HR1.out W hw) (by omega))
        have hlen := (HR1.out wc (Junk.refl _)).1
        have HBD := Lib.hid (fun P (h : SParts t zs len P) i (hi : i < len) => (show -9223372036854775808 ≤ P i ∧ P i ≤ 9223372036854775807 by have := sparts_bd h hok.2 hlen hok.1.1 hok.1.2 i hi; omega))
        clear hok hlen
        go_wp2_with fail
        refine (HS.out _ (Junk.refl _)).mono ?_
        intro e w' hd
        obtain ⟨P, J, d, rfl, hp, rfl⟩ := hd
        have HP := Lib.hid hp; clear hp
        go_wp2_with fail
        refine (HF.out P HP.out _ (junk_of_below (by (repeat' (first | (with_reducible exact Below.refl _ _) | (with_reducible assumption) | (with_reducible refine Below.alloc ?_ ?_ _) | (with_reducible refine Below.drew ?_) | (with_reducible refine below_drewN ?_ _) | (with_reducible refine below_plus ?_ ?_ _ _) | (with_reducible refine Below.setCell ?_ ?_ _) | (with_reducible refine Below.setRow ?_ ?_ _) | go_size))))).mono ?_
        intro e w' hd
        obtain ⟨P2, b2, rfl, hp2, hb2, hbl, J2, d2, rfl⟩ := hd
        have HP2 := Lib.hid hp2
        rw [plus_plus] at hb2 ⊢
        have hb3 : wc.heap.size + 1 ≤ b2 := by simp at hbl; omega
        have HB2 := Lib.hid hb2
        have HU := Lib.hid (sparts_unique HP.out hp2)
        clear hp2 hbl hb2
        go_wp2_with fail
        refine (same_true (some ⟨wc.heap.size, 0, none⟩) (some ⟨b2, 0, none⟩) len len len (partsL P len) _ (reads_nrow (by simp [go_sem]) (HBD.out P HP.out)) (by rw [HU.out]; exact reads_nrow HB2.out (HBD.out P2 HP2.out)) (by omega)).mono ?_
        intro e w3 h3
        obtain ⟨rfl, hj3⟩ := h3
        have HJ3 := Lib.hid hj3; clear hj3
        have HW3 := Lib.hid (show Junk wc w3 from Junk.trans (junk_of_below (by (repeat' (first | (with_reducible exact Below.refl _ _) | (with_reducible assumption) | (with_reducible refine Below.alloc ?_ ?_ _) | (with_reducible refine Below.drew ?_) | (with_reducible refine below_drewN ?_ _) | (with_reducible refine below_plus ?_ ?_ _ _) | (with_reducible refine Below.setCell ?_ ?_ _) | (with_reducible refine Below.setRow ?_ ?_ _) | go_size)))) HJ3.out)
        go_wp2_with fail
        refine (HI.out _ HW3.out).mono ?_
        intro e w4 h4
        obtain ⟨rfl, hj4⟩ := h4
        obtain ⟨J4, d4, rfl⟩ := HJ3.out.trans hj4
        rw [plus_plus]
        have hb4 : ((wc.alloc (.cells (nrow P len) 3)).plus ((J ++ J2) ++ J4) d4).rowAt b2 = some (nrow P2 len) := by
          rw [← plus_plus _ _ d2, rowAt_plus _ _ _ _ (by obtain ⟨t, h⟩ := rowAt_some HB2.out; exact (Array.getElem?_eq_some_iff.1 h).1)]
          exact HB2.out
        clear hj4
        generalize (J ++ J2) ++ J4 = JT at *
        have hb5 : b2 < wc.heap.size + 1 + JT.size := by
          obtain ⟨t, h⟩ := rowAt_some hb4
          have := (Array.getElem?_eq_some_iff.1 h).1
          simpa using this
        have HB4 := Lib.hid hb4
        clear hb4
        go_wp2_with fail
        go_loopw [10] (fun vi wr => ∃ (k d : Nat) (p : Nat → Int), vi = .int .i64 k ∧ k ≤ len ∧ wr = (wc.alloc (.cells (nrow p len) 3)).plus JT d) (fun vi _ => len - (intOf vi).toNat)
        case atStart => exact ⟨0, d4, P, rfl, Nat.zero_le _, rfl⟩
        case round =>
          obtain ⟨k, d, p, rfl, hk, rfl⟩ := hrel
          by_cases hlt : k < len
          · go_wp2_with fail
            go_roundw
            case rel => exact ⟨k + 1, d, _, by go_num, by omega, by rw [nrow_set]⟩
            case measure => simp [intOf]; omega
          · obtain rfl : k = len := by omega
            have HB5 := Lib.hid (rowAt_new (Y := wc.alloc (.cells (nrow p k) 3)) (e := d) (by simp) (by simp; omega) HB4.out)
            have HJ5 := Lib.hid (show Junk wc ((wc.alloc (.cells (nrow p k) 3)).plus JT d) from (junk_of_below (by (repeat' (first | (with_reducible exact Below.refl _ _) | (with_reducible assumption) | (with_reducible refine Below.alloc ?_ ?_ _) | (with_reducible refine Below.drew ?_) | (with_reducible refine below_drewN ?_ _) | (with_reducible refine below_plus ?_ ?_ _ _) | (with_reducible refine Below.setCell ?_ ?_ _) | (with_reducible refine Below.setRow ?_ ?_ _) | go_size)))))
            obtain ⟨W6, hW6⟩ : ∃ W6, W6 = (wc.alloc (.cells (nrow p k) 3)).plus JT d := ⟨_, rfl⟩
            have hsz : b2 < W6.heap.size := by rw [hW6]; simp; omega
            rw [← hW6] at HB5 HJ5
            have HW6 := Lib.hid hW6
            go_wp2_with fail
            rw [← HW6.out]
            refine (HS.out _ HJ5.out).mono ?_
            intro e w' hd
            obtain ⟨P3, J6, d6, rfl, hp3, rfl⟩ := hd
            have HP3 := Lib.hid hp3
            have HU3 := Lib.hid (sparts_unique hp3 HP2.out)
            clear hp3 hW6
            go_wp2_with fail
            refine (same_true (some ⟨W6.heap.size, 0, none⟩) (some ⟨b2, 0, none⟩) k k k (partsL P3 k) _ (reads_nrow (by simp [go_sem]) (HBD.out P3 HP3.out)) (by
              rw [HU3.out]
              refine reads_nrow ?_ (HBD.out P2 HP2.out)
              rw [rowAt_plus _ _ _ _ (by simp; omega), rowAt_alloc_past _ _ _ hsz]
              exact HB5.out) (by omega)).mono ?_
            intro e w7 h7
            obtain ⟨rfl, hj7⟩ := h7
            have HJ7 := Lib.hid hj7; clear hj7
            go_wp2_with fail
            refine (HA.out _).mono ?_
            intro e w8 h8
            obtain ⟨rfl, hj8⟩ := h8
            have hend := Lib.hid (HE2.out w8 ((HJ5.out.trans (Junk.trans (junk_of_below (by (repeat' (first | (with_reducible exact Below.refl _ _) | (with_reducible assumption) | (with_reducible refine Below.alloc ?_ ?_ _) | (with_reducible refine Below.drew ?_) | (with_reducible refine below_drewN ?_ _) | (with_reducible refine below_plus ?_ ?_ _ _) | (with_reducible refine Below.setCell ?_ ?_ _) | (with_reducible refine Below.setRow ?_ ?_ _) | go_size)))) HJ7.out)).trans hj8))
            clear hj8
            go_wp2
            exact hend.out
      · obtain ⟨E, hE⟩ : ∃ E : Int, E = if -1099511627775 ≤ t ∧ t ≤ 1099511627775 then 2 else 5 := ⟨_, rfl⟩
        have HS := Lib.hid (show ∀ W, Junk wc W → Calls Try.prog 16 #[.int .i64 t, .slice a' len cap'] W fun e w' => e = .returned (.tuple #[.slice none 0 0, .int .i64 E]) ∧ Junk W w' from fun W hw =>
          (n_Split a' len cap' zs t W (HR2.out W hw) (by omega) t0 t1).mono fun e w' h => by
            rcases h with ⟨g1, g2⟩ | ⟨g1, g2, g3⟩ | ⟨g1, g2, _⟩
            · rw [if_neg g1] at hE; rw [hE]; exact g2
            · rw [if_pos g1] at hE; rw [hE]; exact g3
            · exact absurd ⟨g1, g2⟩ hok)
        have HF := Lib.hid (show ∀ W, Junk wc W → Calls Try.prog 17 #[.int .i64 t, .slice a len cap] W fun e w' => e = .returned (.tuple #[.slice none 0 0, .int .i64 E]) ∧ Junk W w' from fun W hw => by
          by_cases hg : Good zs
          · have hna : ¬ (-1099511627775 ≤ t ∧ t ≤ 1099511627775) := fun h => hok ⟨h, hg⟩
            have HC := m_Check t
            rw [show amtErr t = 5 from if_neg hna] at HC
            rw [if_neg hna] at hE
            subst hE
            have HC := Lib.hid HC
            clear hna hg hok
            go_enter Try.func17, Try.ntmps17
            go_wp2_with fail
            refine (HC.out _).mono ?_; rintro e w' ⟨rfl, rfl⟩
            go_wp2_with fail
            go_ret2
            exact ⟨rfl, junk_of_below (by (repeat' (first | (with_reducible exact Below.refl _ _) | (with_reducible assumption) | (with_reducible refine Below.alloc ?_ ?_ _) | (with_reducible refine Below.drew ?_) | (with_reducible refine below_drewN ?_ _) | (with_reducible refine below_plus ?_ ?_ _ _) | (with_reducible refine Below.setCell ?_ ?_ _) | (with_reducible refine Below.setRow ?_ ?_ _) | go_size)))⟩
          · refine (r_Split a len cap zs t W (HR1.out W hw) (by omega) t0 t1 (fun h => absurd h hg)).mono fun e w' h => ?_
            rcases h with ⟨g1, g2⟩ | ⟨g1, g2, g3⟩ | ⟨g1, g2, _⟩
            · rw [if_neg g1] at hE; rw [hE]; exact g2
            · rw [if_pos g1] at hE; rw [hE]; exact g3
            · exact absurd g2 hg)
        have HA := Lib.hid awake_ok
        have HK := Lib.hid (fun W => same_true none none 0 0 0 [] W (reads_nil _ _) (reads_nil _ _) (by omega))
        have HI := Lib.hid (fun W hw => same_true a' a len cap' cap zs W (HR2.out W hw) (HR1.out W hw) (by omega))
        clear hok hE
        go_wp2_with fail
        refine (HS.out _ (Junk.refl _)).mono ?_; rintro e w' ⟨rfl, J1, d1, rfl⟩
        go_wp2_with fail
        refine (HF.out _ ⟨_, _, rfl⟩).mono ?_; rintro e w' ⟨rfl, J2, d2, rfl⟩
        go_wp2_with fail
        refine (HK.out _).mono ?_; rintro e w' ⟨rfl, J3, d3, rfl⟩
        go_wp2_with fail
        refine (HI.out _ ⟨_, _, rfl⟩).mono ?_; rintro e w' ⟨rfl, J4, d4, rfl⟩
        go_wp2_with fail
        refine wp_loop_rounds 1 ?_
        rw [rounds_succ]
        go_wp2_with fail
        refine (HS.out _ ⟨_, _, rfl⟩).mono ?_; rintro e w' ⟨rfl, J5, d5, rfl⟩
        go_wp2_with fail
        refine (HK.out _).mono ?_; rintro e w' ⟨rfl, J6, d6, rfl⟩
        go_wp2_with fail
        refine (HA.out _).mono ?_; rintro e w' ⟨rfl, J7, d7, rfl⟩
        go_wp2
        exact HE2.out _ (junk_of_below (by (repeat' (first | (with_reducible exact Below.refl _ _) | (with_reducible assumption) | (with_reducible refine Below.alloc ?_ ?_ _) | (with_reducible refine Below.drew ?_) | (with_reducible refine below_drewN ?_ _) | (with_reducible refine below_plus ?_ ?_ _ _) | (with_reducible refine Below.setCell ?_ ?_ _) | (with_reducible refine Below.setRow ?_ ?_ _) | go_size))))
end Go.Proofs.Ytgnmoneiiogoaaa

/- Contract of apportionref06's Scan. -/
import Derived.Test.YtfapldajodobhaaFrR
import Derived.Test.YtfapldajodobhaaFrL
namespace Go.Proofs.Ytfapldajodobhaa
set_option linter.unusedVariables false
set_option linter.unusedSimpArgs false
open Go.RowKit

def RScanRes (w : World) (L : List UInt8) (e : Ending) (w' : World) : Prop :=
  (∃ v ps, e = .returned (.tuple #[v, .int .i64 ((L.length - (scanF L).2.length : Nat) : Int), .int .i64 ((stateF (scanF L).2 : Nat) : Int)]) ∧ ps.map (·.2) = (scanF L).1 ∧ LOwns w' w.heap.size v ps) ∧ Junk w w'

def RScanAt (w : World) (L : List UInt8) (v i : Value) (wr : World) : Prop :=
  ∃ (k : Nat) (ps : List (Value × List UInt8)), i = .int .i64 (k : Int) ∧ k ≤ L.length ∧ ps.length ≤ k ∧ LOwns wr w.heap.size v ps ∧ scanF L = (ps.map (·.2) ++ (scanF (L.drop k)).1, (scanF (L.drop k)).2) ∧ Below w.heap.size w wr

/-- The end of the loop where nothing more is found. -/
theorem rscan_end {w wr : World} {L : List UInt8} {v : Value} {k : Nat} {ps : List (Value × List UInt8)} {st : Nat} (hk : k ≤ L.length) (ho : LOwns wr w.heap.size v ps) (hs : scanF L = (ps.map (·.2) ++ (scanF (L.drop k)).1, (scanF (L.drop k)).2)) (hb : Below w.heap.size w wr)
    (hn : splitF (L.drop k) = none) (hst : stateF (L.drop k) = st) : RScanRes w L (.returned (.tuple #[v, .int .i64 (k : Int), .int .i64 (st : Int)])) wr := by
  rw [scan_none hn] at hs
  refine ⟨⟨v, ps, ?_, by rw [hs]; simp, ho⟩, junk_of_below hb⟩
  rw [hs, ← hst]
  simp only [List.length_drop]
  rw [show L.length - (L.length - k) = k by omega]

/-- Where the rest is: its length, its number and the number behind. -/
theorem torn_short {L : List UInt8} (h : L.length < 8) : tornF L = true := by unfold tornF; rw [decide_eq_true h]; rfl
theorem split_torn {L : List UInt8} (h : tornF L = true) : splitF L = none := by unfold splitF; rw [if_pos h]
theorem state_torn {L : List UInt8} (h : tornF L = true) (h0 : 0 < L.length) : stateF L = 1 := by unfold stateF; rw [if_neg (by omega), if_pos h]
theorem state_bad {L : List UInt8} (h : tornF L = false) : stateF L = 2 := by
  have h8 : ¬ L.length < 8 := fun h' => by rw [torn_short h'] at h; cases h
  unfold stateF; rw [if_neg (by omega), if_neg (by rw [h]; decide)]
theorem split_bad {L : List UInt8} (h : formF L = false ∨ goodF L = false) : splitF L = none := by
  unfold splitF
  by_cases ht : tornF L = true
  · rw [if_pos ht]
  · rw [if_neg ht, if_neg]
    rcases h with h | h <;> rw [h] <;> simp
theorem torn_not {L : List UInt8} (h8 : 8 ≤ L.length) (h : formF L = false ∨ num4 L + 12 ≤ L.length) : tornF L = false := by
  unfold tornF
  rw [decide_eq_false (by omega), Bool.false_or]
  rcases h with h | h
  · rw [h]; rfl
  · rw [decide_eq_false (by omega), Bool.and_false]

theorem wpList_lapp {ops : Array Oper} {rest : List Oper} {o : Oper} {a : Act} {w : World} {Q : Exit → Act → World → Prop} (hgd : o.guard = none) (s x : Operand)
    (ho : o.op = .call { callee := .builtin .append, args := #[s, x], argTypes := #[33, 33] }) (base : Nat) (v : Value) (ps : List (Value × List UInt8)) (hs : a.eval s = v) (hown : LOwns w base v ps)
    (g : Nat) (u : Value) (L : List UInt8) (hx : a.eval x = .slice (some ⟨g, 0, none⟩) 1 1) (hc : w.cell? ⟨g, 0, none⟩ = some u) (hu1 : u.oneCell' = true) (hu : BFull w base u L) (hlt : ∀ p ∈ ps, ∀ k, p.1.ownBlock = some k → u.ownBlock ≠ some k)
    (hm : ps.length ≤ 1099511627776) (hb : base ≤ w.heap.size)
    (h : ∀ v' w', LOwns w' base v' (ps ++ [(u, L)]) → w.grownBy w' v.ownBlock → wpList Try.prog ops Q rest (a.put o.dst v') w') : wpList Try.prog ops Q (o :: rest) a w := by
  obtain ⟨i0, hi0, hz0, hz1, hz2⟩ := info_sl
  refine wpList_append_own _ hgd s x _ ho base 22 i0 _ 1 24 Try.underlying33 hi0 hz0 hz1 hz2 rfl (by decide) v ps.length (ps.map (·.1)) hs hown.row ⟨g, 0, none⟩ 1 1 [u] hx
    rfl (fun j z hz => by
      cases j with
      | zero => simp at hz; subst hz; exact hc
      | succ j => simp at hz) (by intro z hz; simp at hz; subst hz; exact hu1) (by unfold maxLen; omega) (by omega) hb ?_
  intro v' w' hown' hg _
  refine h _ _ (hown.snoc hu hlt hown' (keeps_grown hg _ _ fun r c e _ hc2 => ?_)) hg
  obtain ⟨_, c2, hc3⟩ := ownsRow_block hown.row r e
  rw [hc2] at hc3
  injection hc3 with hc3
  injection hc3 with _ e2 _
  exact absurd e2 (by decide)

set_option maxRecDepth 100000 in
set_option maxHeartbeats 4000000 in
theorem r_frScan (w : World) (a : Option Addr) (len cap : Nat) (L : List UInt8) (h : BIn w a len L cap) : Calls Try.prog 21 #[.slice a len cap] w (RScanRes w L) := by
  have hL := h.reads.1
  have hsm := h.small
  have hroom := h.room
  have HB := Lib.hid h
  subst hL
  clear h
  go_enter Try.func21, Try.ntmps21
  go_wp2_with fail
  go_loopw [5, 6] (fun v i wr => RScanAt w L v i wr) (fun _ i _ => L.length - (intOf i).toNat)
  case atStart => exact ⟨0, [], rfl, by omega, by simp, lowns_nil _ _, rfl, Below.refl _ _⟩
  case round =>
    obtain ⟨k, ps, rfl, k1, kp, ho, hsc, hb⟩ := hrel
    have HO := Lib.hid ho
    have HSC := Lib.hid hsc
    clear ho hsc
    by_cases hlt : k < L.length
    · obtain ⟨b, off, rfl⟩ := bin_some HB.out (by omega)
      have HT := Lib.hid (bin_tail HB.out k (by omega))
      obtain ⟨r, hr⟩ : ∃ r, L.drop k = r := ⟨_, rfl⟩
      have hrl : r.length = L.length - k := by rw [← hr]; simp
      have HRd := Lib.hid hr
      rw [hr] at HT
      clear hr
      have i1 : (k : Int) < (L.length : Int) := by omega
      have i2 : (k : Int) ≤ (cap : Int) := by omega
      have i3 : k ≠ cap := by omega
      have i3' : cap ≠ k := by omega
      obtain ⟨q, hq⟩ : ∃ q, L.length - k = q := ⟨_, rfl⟩
      obtain ⟨cq, hcq⟩ : ∃ cq, cap - k = cq := ⟨_, rfl⟩
      rw [hq] at hrl HT
      rw [hcq] at HT
      have hcq1 : q ≤ cq := by omega
      by_cases h8 : q < 8
      · have ht : tornF r = true := torn_short (by omega)
        have HX := Lib.hid (rscan_end (st := 1) k1 HO.out HSC.out hb (by rw [HRd.out]; exact split_torn ht) (by rw [HRd.out]; exact state_torn ht (by omega)))
        have i5 : (q : Int) < 8 := by omega
        clear ht HRd
        go_wp2
        go_ret3
        exact HX.out
      have i5 : ¬ (q : Int) < 8 := by omega
      have HN0 := Lib.hid (fun w' (h : Below w.heap.size w w') => r_frNumber w' (some ⟨b, off + k, none⟩) q cq r (HT.out.reads.below h) (by omega))
      have HN4 := Lib.hid (fun w' (h : Below w.heap.size w w') => r_frNumber w' (some ⟨b, off + k + 4, none⟩) (q - 4) (cq - 4) (r.drop 4) ((bin_tail HT.out 4 (by omega)).reads.below h) (by omega))
      have hfm : formF r = (num4 r + num4 (r.drop 4) == 4294967295 && decide (num4 r ≤ 65536)) := rfl
      have lx := num4_lt r
      have ly := num4_lt (r.drop 4)
      obtain ⟨x, hx⟩ : ∃ x, num4 r = x := ⟨_, rfl⟩
      obtain ⟨y, hy⟩ : ∃ y, num4 (r.drop 4) = y := ⟨_, rfl⟩
      rw [hx] at lx HN0
      rw [hy] at ly HN4
      rw [hx, hy] at hfm
      have HXx := Lib.hid hx
      clear hx hy
      have i6 : (4 : Int) ≤ (q : Int) := by omega
      have i7 : (4 : Int) ≤ (cq : Int) := by omega
      have i8 : cq ≠ 4 := by omega
      have i8' : (4 : Nat) ≠ cq := by omega
      have i9 : (q : Int) ≤ (cq : Int) := by omega
      have e3 : bits .xor .u32 IntKind.u32.max (x : Int) = ((4294967295 - x : Nat) : Int) := by
        rw [← not32 x lx, Nat.xor_comm]; exact bits_xor32 4294967295 x (by decide) lx
      by_cases hf : formF r = true
      · rw [hf] at hfm
        have hfm' := hfm.symm
        rw [Bool.and_eq_true, beq_iff_eq, decide_eq_true_eq] at hfm'
        obtain ⟨f1, f2⟩ := hfm'
        have e4 : (y : Int) = bits .xor .u32 IntKind.u32.max (x : Int) := by rw [e3]; omega
        have e5 : ¬ (65536 : Int) < (x : Int) := by omega
        have e6 : IntKind.i64.wrap (x : Int) = (x : Int) := by simp [IntKind.wrap, IntKind.signed, IntKind.bits]; omega
        have e7 : IntKind.i64.wrap ((x : Int) + 12) = (x : Int) + 12 := by simp [IntKind.wrap, IntKind.signed, IntKind.bits]; omega
        have e8 : IntKind.i64.wrap (8 + (x : Int)) = ((8 + x : Nat) : Int) := by simp [IntKind.wrap, IntKind.signed, IntKind.bits]; omega
        clear hfm f1 e3
        by_cases hqx : q < x + 12
        · have ht : tornF r = true := by unfold tornF; rw [hf, HXx.out, decide_eq_true (show r.length < x + 12 by omega)]; simp
          have HX := Lib.hid (fun W (hW : Below wr.heap.size wr W) => rscan_end (st := 1) k1 (HO.out.below hW) HSC.out (hb.trans (hW.mono hb.size)) (by rw [HRd.out]; exact split_torn ht) (by rw [HRd.out]; exact state_torn ht (by omega)))
          have i10 : (q : Int) < (x : Int) + 12 := by omega
          clear ht hf
          go_wp2_with fail
          refine (HN0.out _ (hb.trans (by (repeat' (first | (with_reducible exact Below.refl _ _) | (with_reducible assumption) | (with_reducible refine Below.alloc ?_ ?_ _) | (with_reducible refine Below.drew ?_) | (with_reducible refine below_drewN ?_ _) | (with_reducible refine below_plus ?_ ?_ _ _) | (with_reducible refine Below.setCell ?_ ?_ _) | (with_reducible refine Below.setRow ?_ ?_ _) | go_size))))).mono ?_
          rintro e w2 ⟨rfl, d2, rfl⟩
          go_wp2_with fail
          refine (HN4.out _ (hb.trans (by (repeat' (first | (with_reducible exact Below.refl _ _) | (with_reducible assumption) | (with_reducible refine Below.alloc ?_ ?_ _) | (with_reducible refine Below.drew ?_) | (with_reducible refine below_drewN ?_ _) | (with_reducible refine below_plus ?_ ?_ _ _) | (with_reducible refine Below.setCell ?_ ?_ _) | (with_reducible refine Below.setRow ?_ ?_ _) | go_size))))).mono ?_
          rintro e w2 ⟨rfl, d3, rfl⟩
          clear HN0 HN4
          go_wp2
          all_goals (go_ret3; exact HX.out _ (by (repeat' (first | (with_reducible exact Below.refl _ _) | (with_reducible assumption) | (with_reducible refine Below.alloc ?_ ?_ _) | (with_reducible refine Below.drew ?_) | (with_reducible refine below_drewN ?_ _) | (with_reducible refine below_plus ?_ ?_ _ _) | (with_reducible refine Below.setCell ?_ ?_ _) | (with_reducible refine Below.setRow ?_ ?_ _) | go_size))))
        · have i10 : ¬ (q : Int) < (x : Int) + 12 := by omega
          have htn : tornF r = false := torn_not (by omega) (.inr (by rw [HXx.out]; omega))
          have hgd : goodF r = (sumF ((r.drop 8).take x) == num4 (r.drop (8 + x))) := by unfold goodF; rw [HXx.out]
          have hspl : splitF r = if goodF r = true then some ((r.drop 8).take x, r.drop (12 + x)) else none := by unfold splitF; rw [if_neg (by rw [htn]; decide), hf, Bool.true_and, HXx.out]
          have hrec := bin_from HT.out 8 (8 + x) (by omega) (by omega)
          rw [show (r.take (8 + x)).drop 8 = (r.drop 8).take x by rw [List.drop_take]; congr 1; omega] at hrec
          have htl := bin_tail HT.out (8 + x) (by omega)
          rw [hgd] at hspl
          obtain ⟨R, hR⟩ : ∃ R, (r.drop 8).take x = R := ⟨_, rfl⟩
          obtain ⟨T8, hT8⟩ : ∃ T8, r.drop (8 + x) = T8 := ⟨_, rfl⟩
          rw [hR] at hrec hspl hgd
          rw [hT8] at htl hspl hgd
          have hRs : R.length = x := by rw [← hR]; simp; omega
          clear hR hT8
          obtain ⟨z, hz⟩ : ∃ z, 8 + x = z := ⟨_, rfl⟩
          rw [hz] at hrec htl e8
          have HRec := Lib.hid hrec
          have HN8 := Lib.hid (fun w' (h : Below w.heap.size w w') => r_frNumber w' (some ⟨b, off + k + z, none⟩) (q - z) (cq - z) T8 (htl.reads.below h) (by omega))
          have HSm := Lib.hid (fun w' (h : Below w.heap.size w w') => r_frSum w' (some ⟨b, off + k + 8, none⟩) (z - 8) (cq - 8) R (hrec.reads.below h) (by omega))
          have i11 : (8 : Int) ≤ (z : Int) := by omega
          have i12 : (z : Int) ≤ (cq : Int) := by omega
          have i13 : (z : Int) ≤ (q : Int) := by omega
          have i14 : cq ≠ 8 := by omega
          have i14' : (8 : Nat) ≠ cq := by omega
          have i15 : cq ≠ z := by omega
          have i15' : z ≠ cq := by omega
          clear hrec htl
          obtain ⟨sn, hsn⟩ : ∃ sn, sumF R = sn := ⟨_, rfl⟩
          obtain ⟨nn, hnn⟩ : ∃ nn, num4 T8 = nn := ⟨_, rfl⟩
          rw [hsn] at HSm hspl hgd
          rw [hnn] at HN8 hspl hgd
          clear hsn hnn
          by_cases hsm2 : sn = nn
          · have hsp : splitF r = some (R, r.drop (12 + x)) := by rw [hspl, if_pos (by rw [beq_iff_eq]; exact hsm2)]
            have e9 : (nn : Int) = (sn : Int) := by omega
            have HSp := Lib.hid hsp
            clear hspl hgd htn hf hsm2 hsp
            have hnn2 : ∀ {g o n m : Nat}, (some ⟨g, o, none⟩ : Option Addr) = none → n = 0 ∧ m = 0 := fun h => by cases h
            have HRL := Lib.hid hRs
            have HZ := Lib.hid hz
            clear hRs hz
            go_wp2_with fail
            refine (HN0.out _ (hb.trans (by (repeat' (first | (with_reducible exact Below.refl _ _) | (with_reducible assumption) | (with_reducible refine Below.alloc ?_ ?_ _) | (with_reducible refine Below.drew ?_) | (with_reducible refine below_drewN ?_ _) | (with_reducible refine below_plus ?_ ?_ _ _) | (with_reducible refine Below.setCell ?_ ?_ _) | (with_reducible refine Below.setRow ?_ ?_ _) | go_size))))).mono ?_
            rintro e w2 ⟨rfl, d2, rfl⟩
            go_wp2_with fail
            refine (HN4.out _ (hb.trans (by (repeat' (first | (with_reducible exact Below.refl _ _) | (with_reducible assumption) | (with_reducible refine Below.alloc ?_ ?_ _) | (with_reducible refine Below.drew ?_) | (with_reducible refine below_drewN ?_ _) | (with_reducible refine below_plus ?_ ?_ _ _) | (with_reducible refine Below.setCell ?_ ?_ _) | (with_reducible refine Below.setRow ?_ ?_ _) | go_size))))).mono ?_
            rintro e w2 ⟨rfl, d3, rfl⟩
            clear HN0 HN4
            go_wp2_with fail
            refine (HN8.out _ (hb.trans (by (repeat' (first | (with_reducible exact Below.refl _ _) | (with_reducible assumption) | (with_reducible refine Below.alloc ?_ ?_ _) | (with_reducible refine Below.drew ?_) | (with_reducible refine below_drewN ?_ _) | (with_reducible refine below_plus ?_ ?_ _ _) | (with_reducible refine Below.setCell ?_ ?_ _) | (with_reducible refine Below.setRow ?_ ?_ _) | go_size))))).mono ?_
            rintro e w2 ⟨rfl, d4, rfl⟩
            go_wp2_with fail
            refine (HSm.out _ (hb.trans (by (repeat' (first | (with_reducible exact Below.refl _ _) | (with_reducible assumption) | (with_reducible refine Below.alloc ?_ ?_ _) | (with_reducible refine Below.drew ?_) | (with_reducible refine below_drewN ?_ _) | (with_reducible refine below_plus ?_ ?_ _ _) | (with_reducible refine Below.setCell ?_ ?_ _) | (with_reducible refine Below.setRow ?_ ?_ _) | go_size))))).mono ?_
            rintro e w5 ⟨rfl, hj5⟩
            have hb5 : Below wr.heap.size wr w5 := (below_drewN (Below.refl _ wr) _).trans hj5.below
            have hbw5 : Below w.heap.size w w5 := hb.trans (hb5.mono hb.size)
            have hs5 : w.heap.size ≤ w5.heap.size := hbw5.size
            clear HN8 HSm hj5
            go_wp2_with (at_builtin; first
              | (refine wpList_fappo rfl _ _ rfl w5.heap.size _ [] rfl (bowns_empty w5) (allbytes_new w5 #[] _ _ (by simp)) (some ⟨b, off + k + 8, none⟩) (z - 8) (cq - 8) R rfl hnn2 (HRec.out.reads.below (hbw5.alloc hs5 _)) (by simp; omega) (by simp) ?_
                 intro v6 w6 ho6 ha6 hg6
                 obtain ⟨a6, c6, rfl, _, _⟩ := breads_of_owns ho6
                 have hb6 : Below w5.heap.size w5 w6 := ((Below.refl _ w5).alloc (Nat.le_refl _) _).grown hg6 (by simp) (fun k hk => (bowns_empty w5).block k hk)
                 have HF6 := Lib.hid (show BFull w6 w5.heap.size (.slice a6 R.length c6) R from ⟨ho6, ha6⟩)
                 have HO6 := Lib.hid ((HO.out.below hb5).below hb6)
                 have hs6 := hb6.size
                 clear ho6 ha6 hg6)
              | (refine wpList_lapp rfl _ _ rfl w.heap.size _ ps rfl (HO6.out.below ((Below.refl _ _).alloc (Nat.le_refl _) _)) w6.heap.size (.slice a6 R.length c6) R rfl (by simp [go_sem]) rfl
                   ((HF6.out.keeps (keeps_below ((Below.refl _ _).alloc (Nat.le_refl _) _) _ _)).base hs5) (fun p hp j hj e => by
                     have hA := (((HO.out.below hb5).each p hp).block j hj).2.1
                     have hBk := (HF6.out.block j e).1
                     omega) (by omega) (by simp; omega) ?_
                 intro v7 w7 ho7 hg7))
            have hb7 : Below w.heap.size w w7 := Below.grown ((hbw5.trans (hb6.mono hs5)).alloc (by omega) _) hg7 (by simp; omega) (fun j hj => (ownsRow_block HO6.out.row j hj).1)
            have hdr : L.drop (k + x + 12) = r.drop (12 + x) := by rw [← HRd.out, List.drop_drop]; congr 1; omega
            have hsc := HSC.out
            rw [HRd.out, scan_some HSp.out] at hsc
            refine ⟨⟨k + x + 12, ps ++ [(.slice a6 R.length c6, R)], by simp, by omega, by simp; omega, ho7, ?_, hb7⟩, by simp [intOf]; omega⟩
            rw [hdr, hsc]
            simp
          · have hgf : goodF r = false := by rw [hgd, beq_eq_false_iff_ne]; exact hsm2
            have HX := Lib.hid (fun W (hW : Below wr.heap.size wr W) => rscan_end (st := 2) k1 (HO.out.below hW) HSC.out (hb.trans (hW.mono hb.size)) (by rw [HRd.out]; exact split_bad (.inr hgf)) (by rw [HRd.out]; exact state_bad htn))
            have e9 : ¬ (nn : Int) = (sn : Int) := by omega
            clear hspl hgd htn hf hsm2 hgf
            go_wp2_with fail
            refine (HN0.out _ (hb.trans (by (repeat' (first | (with_reducible exact Below.refl _ _) | (with_reducible assumption) | (with_reducible refine Below.alloc ?_ ?_ _) | (with_reducible refine Below.drew ?_) | (with_reducible refine below_drewN ?_ _) | (with_reducible refine below_plus ?_ ?_ _ _) | (with_reducible refine Below.setCell ?_ ?_ _) | (with_reducible refine Below.setRow ?_ ?_ _) | go_size))))).mono ?_
            rintro e w2 ⟨rfl, d2, rfl⟩
            go_wp2_with fail
            refine (HN4.out _ (hb.trans (by (repeat' (first | (with_reducible exact Below.refl _ _) | (with_reducible assumption) | (with_reducible refine Below.alloc ?_ ?_ _) | (with_reducible refine Below.drew ?_) | (with_reducible refine below_drewN ?_ _) | (with_reducible refine below_plus ?_ ?_ _ _) | (with_reducible refine Below.setCell ?_ ?_ _) | (with_reducible refine Below.setRow ?_ ?_ _) | go_size))))).mono ?_
            rintro e w2 ⟨rfl, d3, rfl⟩
            clear HN0 HN4
            go_wp2_with fail
            all_goals refine (HN8.out _ (hb.trans (by (repeat' (first | (with_reducible exact Below.refl _ _) | (with_reducible assumption) | (with_reducible refine Below.alloc ?_ ?_ _) | (with_reducible refine Below.drew ?_) | (with_reducible refine below_drewN ?_ _) | (with_reducible refine below_plus ?_ ?_ _ _) | (with_reducible refine Below.setCell ?_ ?_ _) | (with_reducible refine Below.setRow ?_ ?_ _) | go_size))))).mono ?_
            all_goals rintro e w2 ⟨rfl, d4, rfl⟩
            all_goals go_wp2_with fail
            all_goals refine (HSm.out _ (hb.trans (by (repeat' (first | (with_reducible exact Below.refl _ _) | (with_reducible assumption) | (with_reducible refine Below.alloc ?_ ?_ _) | (with_reducible refine Below.drew ?_) | (with_reducible refine below_drewN ?_ _) | (with_reducible refine below_plus ?_ ?_ _ _) | (with_reducible refine Below.setCell ?_ ?_ _) | (with_reducible refine Below.setRow ?_ ?_ _) | go_size))))).mono ?_
            all_goals rintro e w2 ⟨rfl, J5, d5, rfl⟩
            all_goals go_wp2
            all_goals (go_ret3; exact HX.out _ (by (repeat' (first | (with_reducible exact Below.refl _ _) | (with_reducible assumption) | (with_reducible refine Below.alloc ?_ ?_ _) | (with_reducible refine Below.drew ?_) | (with_reducible refine below_drewN ?_ _) | (with_reducible refine below_plus ?_ ?_ _ _) | (with_reducible refine Below.setCell ?_ ?_ _) | (with_reducible refine Below.setRow ?_ ?_ _) | go_size))))
      · have hf' := Bool.eq_false_iff.2 hf
        have HX := Lib.hid (fun W (hW : Below wr.heap.size wr W) => rscan_end (st := 2) k1 (HO.out.below hW) HSC.out (hb.trans (hW.mono hb.size)) (by rw [HRd.out]; exact split_bad (.inl hf')) (by rw [HRd.out]; exact state_bad (torn_not (by omega) (.inl hf'))))
        rw [hf'] at hfm
        by_cases f1 : x + y = 4294967295
        · have f2 : 65536 < x := by
            by_cases h2 : x ≤ 65536
            · rw [decide_eq_true h2, show (x + y == 4294967295) = true by rw [beq_iff_eq]; exact f1] at hfm; cases hfm
            · omega
          have e4 : (y : Int) = bits .xor .u32 IntKind.u32.max (x : Int) := by rw [e3]; omega
          have e5 : (65536 : Int) < (x : Int) := by omega
          clear hfm hf hf' f1 f2 e3
          go_wp2_with fail
          refine (HN0.out _ (hb.trans (by (repeat' (first | (with_reducible exact Below.refl _ _) | (with_reducible assumption) | (with_reducible refine Below.alloc ?_ ?_ _) | (with_reducible refine Below.drew ?_) | (with_reducible refine below_drewN ?_ _) | (with_reducible refine below_plus ?_ ?_ _ _) | (with_reducible refine Below.setCell ?_ ?_ _) | (with_reducible refine Below.setRow ?_ ?_ _) | go_size))))).mono ?_
          rintro e w2 ⟨rfl, d2, rfl⟩
          go_wp2_with fail
          refine (HN4.out _ (hb.trans (by (repeat' (first | (with_reducible exact Below.refl _ _) | (with_reducible assumption) | (with_reducible refine Below.alloc ?_ ?_ _) | (with_reducible refine Below.drew ?_) | (with_reducible refine below_drewN ?_ _) | (with_reducible refine below_plus ?_ ?_ _ _) | (with_reducible refine Below.setCell ?_ ?_ _) | (with_reducible refine Below.setRow ?_ ?_ _) | go_size))))).mono ?_
          rintro e w2 ⟨rfl, d3, rfl⟩
          clear HN0 HN4
          go_wp2
          all_goals (go_ret3; exact HX.out _ (by (repeat' (first | (with_reducible exact Below.refl _ _) | (with_reducible assumption) | (with_reducible refine Below.alloc ?_ ?_ _) | (with_reducible refine Below.drew ?_) | (with_reducible refine below_drewN ?_ _) | (with_reducible refine below_plus ?_ ?_ _ _) | (with_reducible refine Below.setCell ?_ ?_ _) | (with_reducible refine Below.setRow ?_ ?_ _) | go_size))))
        · have e4 : ¬ (y : Int) = bits .xor .u32 IntKind.u32.max (x : Int) := by rw [e3]; omega
          clear hfm hf hf' f1 e3
          go_wp2_with fail
          refine (HN0.out _ (hb.trans (by (repeat' (first | (with_reducible exact Below.refl _ _) | (with_reducible assumption) | (with_reducible refine Below.alloc ?_ ?_ _) | (with_reducible refine Below.drew ?_) | (with_reducible refine below_drewN ?_ _) | (with_reducible refine below_plus ?_ ?_ _ _) | (with_reducible refine Below.setCell ?_ ?_ _) | (with_reducible refine Below.setRow ?_ ?_ _) | go_size))))).mono ?_
          rintro e w2 ⟨rfl, d2, rfl⟩
          go_wp2_with fail
          refine (HN4.out _ (hb.trans (by (repeat' (first | (with_reducible exact Below.refl _ _) | (with_reducible assumption) | (with_reducible refine Below.alloc ?_ ?_ _) | (with_reducible refine Below.drew ?_) | (with_reducible refine below_drewN ?_ _) | (with_reducible refine below_plus ?_ ?_ _ _) | (with_reducible refine Below.setCell ?_ ?_ _) | (with_reducible refine Below.setRow ?_ ?_ _) | go_size))))).mono ?_
          rintro e w2 ⟨rfl, d3, rfl⟩
          clear HN0 HN4
          go_wp2
          all_goals (go_ret3; exact HX.out _ (by (repeat' (first | (with_reducible exact Below.refl _ _) | (with_reducible assumption) | (with_reducible refine Below.alloc ?_ ?_ _) | (with_reducible refine Below.drew ?_) | (with_reducible refine below_drewN ?_ _) | (with_reducible refine below_plus ?_ ?_ _ _) | (with_reducible refine Below.setCell ?_ ?_ _) | (with_reducible refine Below.setRow ?_ ?_ _) | go_size))))
    · obtain rfl : k = L.length := by omega
      have hX := rscan_end (st := 0) k1 HO.out HSC.out hb (by rw [List.drop_length]; rfl) (by rw [List.drop_length]; rfl)
      have HX := Lib.hid hX
      clear hX
      go_wp2
      go_ret3
      exact HX.out
end Go.Proofs.Ytfapldajodobhaa

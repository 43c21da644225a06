/- Laws FrameScans, FrameLong. -/
import Derived.Test.YtfapldajodobhaaFrX
namespace Go.Proofs.Ytfapldajodobhaa
set_option linter.unusedVariables false
set_option linter.unusedSimpArgs false
open Go.RowKit

theorem frames_few (xs : List (List UInt8)) : xs.length ≤ (framesF xs).length := by
  induction xs with
  | nil => simp
  | cons x xs ih =>
    have e : framesF (x :: xs) = frameF x ++ framesF xs := rfl
    rw [e, List.length_append, frameF_len]
    simp; omega
theorem scan_few (L : List UInt8) : (scanF L).1.length ≤ L.length := by
  have h := congrArg List.length (scan_canon L).1
  rw [List.length_append] at h
  have := frames_few (scanF L).1
  omega
/-- What Scan told, as one who reads it takes it. -/
theorem lin_scan {w : World} {base : Nat} {v : Value} {ps : List (Value × List UInt8)} {L : List UInt8} (h : LOwns w base v ps) (hp : ps.map (·.2) = (scanF L).1) (hl : L.length ≤ 1099511627776) :
    ∃ a cap, v = .slice a (scanF L).1.length cap ∧ LIn w a (scanF L).1.length (scanF L).1 cap := by
  have hlen := congrArg List.length hp
  rw [List.length_map] at hlen
  have hf := scan_few L
  obtain ⟨a, cap, e, hL⟩ := lin_of_owns h (by omega) (fun p hp' => by
    have : p.2 ∈ (scanF L).1 := by rw [← hp]; exact List.mem_map.2 ⟨p, hp', rfl⟩
    have := (scan_canon L).2.2 _ this
    omega)
  rw [hp, hlen] at hL
  rw [hlen] at e
  exact ⟨a, cap, e, hL⟩

theorem BFull.only {w w' : World} {base : Nat} {v u : Value} {L : List UInt8} (h : BFull w base u L) (ho : Only v w w') (hne : ∀ k, u.ownBlock = some k → v.ownBlock ≠ some k) : BFull w' base u L := ⟨h.1.only ho hne, h.2.only ho hne⟩
theorem keeps_only {w w' : World} {v : Value} (ho : Only v w w') {base : Nat} {t : TypeId} (h : ∀ k c, v.ownBlock = some k → base ≤ k → w.heap[k]? = some (.cells c t (0, 0)) → False) : Keeps base t w w' := fun g c hg hc =>
  (ho.block g (fun e => h g c e hg hc)).trans hc

theorem row_cell {w : World} {base : Nat} {e : TypeId} {a : Option Addr} {n c m k : Nat} {xs : List Value} {u : Value} (h : w.ownsRow base e 1 (.slice a n c) m xs) (hk : xs[k]? = some u) : ∃ g, a = some ⟨g, 0, none⟩ ∧ w.cell? ⟨g, k, none⟩ = some u := by
  have hkl := (List.getElem?_eq_some_iff.1 hk).1
  obtain ⟨h1, h⟩ := h
  rcases h with ⟨_, h0⟩ | ⟨g, cap, cur, hv, _, hc, _, _, _, ht⟩
  · omega
  · injection hv with e1 _ _
    refine ⟨g, e1, ?_⟩
    rw [Nat.mul_one] at ht
    have h2 : (cur.toList.take m)[k]? = some u := by rw [ht]; exact hk
    rw [List.getElem?_take_of_lt (by omega)] at h2
    simp [World.cell?, hc]
    simpa using h2

def OverAllAt (w4 : World) (B1 B2 : Nat) (v4 v7 : Value) (ps qs : List (Value × List UInt8)) (i : Value) (wr : World) : Prop :=
  ∃ k : Nat, i = .int .i64 (k : Int) ∧ k ≤ ps.length ∧ wr.ownsRow B1 22 1 v4 ps.length (ps.map (·.1)) ∧ (∀ p ∈ ps.drop k, BFull wr B1 p.1 p.2) ∧ LOwns wr B2 v7 qs ∧ Below B1 w4 wr

/-- One more row is written over. -/
theorem over_step {w4 wr w' : World} {B1 B2 : Nat} {v4 v7 : Value} {ps qs : List (Value × List UInt8)} {k : Nat} {p : Value × List UInt8} (hk : ps[k]? = some p)
    (hap : ps.Pairwise fun p q => ∀ k, p.1.ownBlock = some k → q.1.ownBlock ≠ some k) (hlt : ∀ p ∈ ps, ∀ j, p.1.ownBlock = some j → j < B2)
    (h1 : wr.ownsRow B1 22 1 v4 ps.length (ps.map (·.1))) (h2 : ∀ p ∈ ps.drop k, BFull wr B1 p.1 p.2) (h3 : LOwns wr B2 v7 qs) (h4 : Below B1 w4 wr) (ho : Only p.1 wr w') :
    OverAllAt w4 B1 B2 v4 v7 ps qs (.int .i64 ((k + 1 : Nat) : Int)) w' := by
  have hkl := (List.getElem?_eq_some_iff.1 hk).1
  have hmem := List.mem_of_getElem? hk
  have hd : ps.drop k = p :: ps.drop (k + 1) := by
    rw [List.drop_eq_getElem_cons hkl]
    congr 1
    exact (List.getElem?_eq_some_iff.1 hk).2
  have hp := h2 p (by rw [hd]; exact List.mem_cons_self)
  have hty : ∀ j c (t : TypeId), t ≠ 5 → p.1.ownBlock = some j → wr.heap[j]? = some (.cells c t (0, 0)) → False := fun j c t ht e hc => by
    obtain ⟨_, _, c2, hc2⟩ := hp.block j e
    rw [hc] at hc2
    injection hc2 with hc2
    injection hc2 with _ e2 _
    exact ht e2
  refine ⟨k + 1, rfl, by omega, ownsRow_keeps h1 (keeps_only ho fun j c e _ hc => hty j c _ (by decide) e hc), ?_, ?_, h4.trans (ho.below fun j e => (hp.block j e).1)⟩
  · intro q hq
    refine (h2 q (by rw [hd]; exact List.mem_cons_of_mem _ hq)).only ho (fun j e e2 => ?_)
    have hpw : (ps.drop k).Pairwise fun p q => ∀ k, p.1.ownBlock = some k → q.1.ownBlock ≠ some k := hap.sublist (List.drop_sublist k ps)
    rw [hd, List.pairwise_cons] at hpw
    exact hpw.1 q hq j e2 e
  · exact h3.keeps (keeps_only ho fun j c e hb _ => by have := hlt p hmem j e; omega) (keeps_only ho fun j c e hb _ => by have := hlt p hmem j e; omega)

set_option maxRecDepth 100000 in
set_option maxHeartbeats 4000000 in
theorem l_frameScans (w : World) (a : Option Addr) (len cap : Nat) (L : List UInt8) (h : BArg w a len cap L) :
    Calls Try.prog 4 #[.slice a len cap] w fun e w' => e = .returned (.bool true) ∧ Junk w w' := by
  have hL := h.reads.1
  by_cases hbig : 20000 < len
  · have e1 : (20000 : Int) < (len : Int) := by omega
    clear h
    go_enter Try.func4, Try.ntmps4
    go_wp2
    go_ret
    exact ⟨rfl, junk_of_below (by (repeat' (first | (with_reducible exact Below.refl _ _) | (with_reducible assumption) | (with_reducible refine Below.alloc ?_ ?_ _) | (with_reducible refine Below.drew ?_) | (with_reducible refine below_drewN ?_ _) | (with_reducible refine below_plus ?_ ?_ _ _) | (with_reducible refine Below.setCell ?_ ?_ _) | (with_reducible refine Below.setRow ?_ ?_ _) | go_size)))⟩
  have e1 : ¬ (20000 : Int) < (len : Int) := by omega
  replace h := h.bin (by omega)
  have HB := Lib.hid h
  have HLe := Lib.hid (fun w' (hb : BIn w' a len L cap) => k_LentBytes w' a len cap L hb (by omega))
  have HAw := Lib.hid l_awake
  have HSame := Lib.hid (fun w' a b n m ca cb Ls Ms h1 h2 => k_SameLists w' a b n m ca cb Ls Ms h1 h2)
  have HOv := Lib.hid (fun w' base v L h1 h2 => k_OverBytes w' base v L h1 h2)
  have HKe := Lib.hid (fun w' g (hg : w'.rowAt g = some (urow (lentF L) (len + 3))) (hb : BIn w' a len L cap) => k_KeptBytes w' g a len cap L hg hb (by omega))
  have HSc := Lib.hid (fun w' a cap (h : BIn w' a len L cap) => n_Scan w' a len cap L h)
  have HRs := Lib.hid (fun w' (h : BIn w' a len L cap) => r_frScan w' a len cap L h)
  unfold ScanRes at HSc
  unfold RScanRes at HRs
  have HLS := Lib.hid (fun w base v ps (h : LOwns w base v ps) hp => lin_scan (L := L) h hp (by omega))
  obtain ⟨N, hN⟩ : ∃ N : Int, ((L.length - (scanF L).2.length : Nat) : Int) = N := ⟨_, rfl⟩
  obtain ⟨S, hS⟩ : ∃ S : Int, ((stateF (scanF L).2 : Nat) : Int) = S := ⟨_, rfl⟩
  obtain ⟨X, hX⟩ : ∃ X, (scanF L).1 = X := ⟨_, rfl⟩
  have hXl := scan_few L
  rw [hN, hS, hX] at HSc HRs
  rw [hX] at HLS hXl
  clear h hN hS hX
  go_enter Try.func4, Try.ntmps4
  go_wp2_with fail
  refine (HLe.out _ HB.out).mono ?_
  rintro e w1 ⟨rfl, d1, rfl⟩
  have hrow1 : ((w.alloc (.cells (urow (lentF L) (len + 3)) 5)).drewN d1).rowAt w.heap.size = some (urow (lentF L) (len + 3)) := by simp [go_sem]
  have hb1 : Below w.heap.size w ((w.alloc (.cells (urow (lentF L) (len + 3)) 5)).drewN d1) := by (repeat' (first | (with_reducible exact Below.refl _ _) | (with_reducible assumption) | (with_reducible refine Below.alloc ?_ ?_ _) | (with_reducible refine Below.drew ?_) | (with_reducible refine below_drewN ?_ _) | (with_reducible refine below_plus ?_ ?_ _ _) | (with_reducible refine Below.setCell ?_ ?_ _) | (with_reducible refine Below.setRow ?_ ?_ _) | go_size))
  generalize (w.alloc (.cells (urow (lentF L) (len + 3)) 5)).drewN d1 = w1 at *
  have HI1 := Lib.hid (reads_lent_in hL hrow1 (by omega))
  go_wp2_with fail
  refine (HSc.out _ _ _ HI1.out).mono ?_
  rintro e w2 ⟨⟨v4, ps, rfl, hps, hlo4⟩, hj2⟩
  have hb2 := hj2.below
  go_wp2_with fail
  refine (HRs.out _ (HB.out.below (hb1.trans (hb2.mono hb1.size)))).mono ?_
  rintro e w3 ⟨⟨v7, qs, rfl, hqs, hlo7⟩, hj3⟩
  have hb3 := hj3.below
  have hlo4' := hlo4.below hb3
  obtain ⟨a4, c4, e4, hL4⟩ := HLS.out _ _ _ _ hlo4' hps
  obtain ⟨a7, c7, e7, hL7⟩ := HLS.out _ _ _ _ hlo7 hqs
  subst e4 e7
  go_wp2_with fail
  refine (HSame.out _ _ _ _ _ _ _ _ _ hL4 hL7).mono ?_
  rw [decide_eq_true (rfl : X = X)]
  rintro e w4 ⟨rfl, hj4⟩
  have hb4 := hj4.below
  have hpl : ps.length = X.length := by rw [← hps]; simp
  have HO4 := Lib.hid (hlo4'.below hb4)
  have HO7 := Lib.hid (hlo7.below hb4)
  have HLT := Lib.hid (show ∀ p ∈ ps, ∀ j, p.1.ownBlock = some j → j < w2.heap.size from fun p hp j e => ((hlo4.each p hp).block j e).2.1)
  have hb14 : Below w1.heap.size w1 w4 := (hb2.trans (hb3.mono hb2.size)).trans (hb4.mono (Nat.le_trans hb2.size hb3.size))
  clear hlo4 hlo4' hlo7 hL4 hL7 hj2 hj3 hj4 hb2 hb3 hb4
  obtain ⟨n, hn⟩ : ∃ n, X.length = n := ⟨_, rfl⟩
  rw [hn] at HO4 HO7 hpl hXl HLS
  have HXn := Lib.hid hn
  rw [hn]
  clear hn
  go_wp2_with fail
  go_loopw [11] (fun i wr => OverAllAt w4 (w1.heap.size + 3) w2.heap.size (.slice a4 n c4) (.slice a7 n c7) ps qs i wr) (fun i _ => n - (intOf i).toNat)
  case atStart => exact ⟨0, rfl, by omega, HO4.out.row, (fun p hp => HO4.out.each p (by simpa using hp)), HO7.out, Below.refl _ _⟩
  case round =>
    obtain ⟨k, rfl, k1, h1, h2, h3, h4⟩ := hrel
    by_cases hlt : k < n
    · have hk : ps[k]? = some ps[k] := by simp
      obtain ⟨g, rfl, hcell⟩ := row_cell (k := k) (u := (ps[k]).1) h1 (by rw [List.getElem?_map, hk]; rfl)
      have hpF := h2 ps[k] (by rw [List.mem_iff_getElem?]; exact ⟨0, by simp⟩)
      have HST := Lib.hid (fun w' (ho : Only (ps[k]).1 wr w') => over_step hk HO4.out.apart HLT.out h1 h2 h3 h4 ho)
      have HOvk := Lib.hid (HOv.out wr _ _ _ hpF.1 hpF.2)
      obtain ⟨ap, cp, ep, _, _⟩ := breads_of_owns hpF.1
      rw [ep] at hcell HST HOvk
      have e3 : ((k : Int)) < (n : Int) := by omega
      clear h1 h2 h3 h4 hpF ep hk
      go_wp2_with fail
      refine HOvk.out.mono ?_
      rintro e w' ⟨rfl, ho⟩
      have HR := Lib.hid (HST.out w' ho)
      clear ho HST HOvk
      go_wp2_with fail
      go_roundw
      case rel => exact HR.out
      case measure => simp [intOf]; omega
    · obtain rfl : k = n := by omega
      have hb1r := hb14.trans (h4.mono (by omega))
      have HBr := Lib.hid (HB.out.below (hb1.trans (hb1r.mono hb1.size)))
      have hrowr := row_below hrow1 hb1r
      have HI := Lib.hid (HBr.out)
      obtain ⟨a7', c7', e7, hL7⟩ := HLS.out _ _ _ _ h3 hqs
      injection e7 with e71 _ e72
      subst e71 e72
      have hbr : Below w.heap.size w wr := hb1.trans (hb1r.mono hb1.size)
      have HL7 := Lib.hid hL7
      have e3 : ¬ (k : Int) < (k : Int) := by omega
      clear h1 h2 h3 h4 hL7
      go_wp2_with fail
      refine (HSc.out _ _ _ HBr.out).mono ?_
      rintro e w5 ⟨⟨v5, zs, rfl, hzs, hlo5⟩, hj5⟩
      have hb5 := hj5.below
      obtain ⟨a5, c5, e5, hL5⟩ := HLS.out _ _ _ _ hlo5 hzs
      subst e5
      have hrow5 := row_below hrowr hb5
      have HB5 := Lib.hid (HBr.out.below hb5)
      have HK5 := Lib.hid (HKe.out w5 w.heap.size hrow5 HB5.out)
      have HL5 := Lib.hid hL5
      have HL75 := Lib.hid (HL7.out.below hb5)
      have hb05 := hbr.trans (hb5.mono hbr.size)
      clear hlo5 hL5 hb5 hj5 hrow5 hrowr hrow1 hb1r hb14 hb1 hbr
      go_wp2_with (first
        | (go_at_call 18; refine HK5.out.mono ?_; rintro e w9 ⟨rfl, J9, d9, rfl⟩)
        | (go_at_call 22; refine (HSame.out _ _ _ _ _ _ _ _ _ (HL5.out.below (by (repeat' (first | (with_reducible exact Below.refl _ _) | (with_reducible assumption) | (with_reducible refine Below.alloc ?_ ?_ _) | (with_reducible refine Below.drew ?_) | (with_reducible refine below_drewN ?_ _) | (with_reducible refine below_plus ?_ ?_ _ _) | (with_reducible refine Below.setCell ?_ ?_ _) | (with_reducible refine Below.setRow ?_ ?_ _) | go_size)))) (HL75.out.below (by (repeat' (first | (with_reducible exact Below.refl _ _) | (with_reducible assumption) | (with_reducible refine Below.alloc ?_ ?_ _) | (with_reducible refine Below.drew ?_) | (with_reducible refine below_drewN ?_ _) | (with_reducible refine below_plus ?_ ?_ _ _) | (with_reducible refine Below.setCell ?_ ?_ _) | (with_reducible refine Below.setRow ?_ ?_ _) | go_size))))).mono ?_; rw [decide_eq_true (rfl : X = X)]; rintro e w8 ⟨rfl, J8, d8, rfl⟩)
        | (go_at_call 19; refine (HAw.out _).mono ?_; rintro e w10 ⟨rfl, J10, d10, rfl⟩))
      go_ret
      exact ⟨rfl, junk_of_below (hb05.trans ((show Below w5.heap.size w5 _ by (repeat' (first | (with_reducible exact Below.refl _ _) | (with_reducible assumption) | (with_reducible refine Below.alloc ?_ ?_ _) | (with_reducible refine Below.drew ?_) | (with_reducible refine below_drewN ?_ _) | (with_reducible refine below_plus ?_ ?_ _ _) | (with_reducible refine Below.setCell ?_ ?_ _) | (with_reducible refine Below.setRow ?_ ?_ _) | go_size))).mono hb05.size))⟩
/-- Bytes told by a function. -/
def ulist (g : Nat → Nat) (n : Nat) : List UInt8 := (List.range n).map fun i => UInt8.ofNat (g i)
theorem bin_urow {w : World} {b n : Nat} {g : Nat → Nat} (hg : ∀ i, g i < 256) (h : w.rowAt b = some (urow g n)) (hn : n ≤ 1099511627776) : BIn w (some ⟨b, 0, none⟩) n (ulist g n) n := by
  refine ⟨⟨by simp [ulist], .inr ⟨b, 0, rfl, fun i hi => ?_⟩⟩, (fun h => by cases h), hn, Nat.le_refl _⟩
  rw [Nat.zero_add, ucell_of_row h, urow_get _ _ _ hi]
  congr 2
  unfold byteAt ulist
  have := hg i
  simp [List.getD_eq_getElem?_getD, hi, UInt8.toNat_ofNat']
  omega

set_option maxRecDepth 100000 in
set_option maxHeartbeats 4000000 in
theorem l_frameLong (n f : Int) (hn : I64 n) (hf : 0 ≤ f ∧ f ≤ 255) (w : World) :
    Calls Try.prog 5 #[.int .i64 n, .int .u8 f] w fun e w' => e = .returned (.bool true) ∧ Junk w w' := by
  have HPk := Lib.hid (fun w' => k_Pick w' n 100 hn ⟨by decide, by decide⟩)
  have hm0 := Int.emod_nonneg n (show (100 : Int) ≠ 0 by decide)
  have hm1 := Int.emod_lt_of_pos n (show (0 : Int) < 100 by decide)
  rw [if_neg (by decide)] at HPk
  obtain ⟨m, hm⟩ : ∃ m : Nat, n % 100 = (m : Int) := ⟨(n % 100).toNat, by omega⟩
  rw [hm] at HPk hm0 hm1
  obtain ⟨q, rfl⟩ : ∃ q : Nat, f = (q : Int) := ⟨f.toNat, by omega⟩
  clear hm hn
  obtain ⟨N, hN⟩ : ∃ N, 65500 + m = N := ⟨_, rfl⟩
  have e1 : IntKind.i64.wrap (65500 + (m : Int)) = (N : Int) := by simp [IntKind.wrap, IntKind.signed, IntKind.bits]; omega
  have e2 : IntKind.i64.wrap ((N : Int) - 1) = ((N - 1 : Nat) : Int) := by simp [IntKind.wrap, IntKind.signed, IntKind.bits]; omega
  have hmk := made_bytes N (by omega)
  have hset := urow_set (fun _ => 0) N (N - 1) q
  have hgl : ∀ i, (fun i => if i = N - 1 then q else 0) i < 256 := fun i => by show (if i = N - 1 then q else 0) < 256; split <;> omega
  have hN1 : N - 1 < N := by omega
  have hN2 : ((N - 1 : Nat) : Int) < (N : Int) := by omega
  have HAw := Lib.hid l_awake
  have HSame := Lib.hid (fun w' a b n m ca cb L M h1 h2 => k_SameBytes w' a b n m ca cb L M h1 h2)
  obtain ⟨G, hG⟩ : ∃ G : Nat → Nat, (fun i => if i = N - 1 then q else 0) = G := ⟨_, rfl⟩
  rw [hG] at hset
  have hgl' : ∀ i, G i < 256 := by rw [← hG]; exact hgl
  have HBU := Lib.hid (fun w' b (h : World.rowAt w' b = some (urow G N)) => bin_urow hgl' h (by omega))
  have HU := Lib.hid hset
  clear hG hgl hgl' hset hf
  go_enter Try.func5, Try.ntmps5
  go_wp2_with fail
  refine (HPk.out _).mono ?_
  rintro e w1 ⟨rfl, J1, d1, rfl⟩
  obtain ⟨L, hLd⟩ : ∃ L, ulist G N = L := ⟨_, rfl⟩
  have hLl : L.length = N := by rw [← hLd]; simp [ulist]
  rw [hLd] at HBU
  clear hLd
  have HP := Lib.hid (fun w' a (h : BIn w' a N L N) => n_frAny w' a N N L h)
  have HR := Lib.hid (fun w' a (h : BIn w' a N L N) => r_frAny w' a N N L h)
  unfold PutAny at HP
  unfold RPutAny at HR
  have hpl := putF_len L
  have HX1 := Lib.hid (show 65536 < N → putF L = [] from fun h => if_pos (by omega))
  have HX2 := Lib.hid (show ¬ 65536 < N → putF L = frameF L from fun h => if_neg (by omega))
  obtain ⟨X, hX⟩ : ∃ X, putF L = X := ⟨_, rfl⟩
  obtain ⟨E, hE⟩ : ∃ E, errF L = E := ⟨_, rfl⟩
  rw [hX] at HP HR hpl HX1 HX2
  rw [hE] at HP HR
  clear hX hE
  go_wp2_with fail
  rw [HU.out]
  obtain ⟨B, hB⟩ : ∃ B, w.heap.size + J1.size = B := ⟨_, rfl⟩
  have hrow2 : ((w.plus J1 d1).alloc (.cells (urow G N) 5)).rowAt B = some (urow G N) := by rw [← hB]; exact rowAt_alloc_at _ _ _ _ (by simp)
  have hb2 : Below w.heap.size w ((w.plus J1 d1).alloc (.cells (urow G N) 5)) := by (repeat' (first | (with_reducible exact Below.refl _ _) | (with_reducible assumption) | (with_reducible refine Below.alloc ?_ ?_ _) | (with_reducible refine Below.drew ?_) | (with_reducible refine below_drewN ?_ _) | (with_reducible refine below_plus ?_ ?_ _ _) | (with_reducible refine Below.setCell ?_ ?_ _) | (with_reducible refine Below.setRow ?_ ?_ _) | go_size))
  rw [hB]
  generalize (w.plus J1 d1).alloc (.cells (urow G N) 5) = w2 at *
  have HI2 := Lib.hid (HBU.out _ _ hrow2)
  refine (HP.out _ _ HI2.out).mono ?_
  rintro e w3 ⟨v3, rfl, hf3, hj3⟩
  obtain ⟨a3, c3, e3, hB3⟩ := bin_of_owns hf3.1 (by omega)
  subst e3
  have hb23 := hj3.below
  go_wp2_with fail
  refine (HR.out _ _ (HI2.out.below hb23)).mono ?_
  rintro e w4 ⟨v4, rfl, ho4, hj4⟩
  obtain ⟨a4, c4, e4, hB4⟩ := bin_of_owns ho4 (by omega)
  subst e4
  have hb34 := hj4.below
  have HB34 := Lib.hid (hB3.below hb34)
  have HS := Lib.hid (n_Scan w4 _ _ _ _ HB34.out)
  go_wp2_with fail
  refine HS.out.mono ?_
  rintro e w5 ⟨⟨v5, ps, he, hps, hlo5⟩, hj5⟩
  have hb45 := hj5.below
  have hb25 : Below w2.heap.size w2 w5 := (hb23.trans (hb34.mono hb23.size)).trans (hb45.mono (Nat.le_trans hb23.size hb34.size))
  have HB3 := Lib.hid (HB34.out.below hb45)
  have HB4 := Lib.hid (hB4.below hb45)
  have HI5 := Lib.hid (HI2.out.below hb25)
  obtain ⟨a5, c5, e5, hL5⟩ := lin_scan hlo5 hps (by omega)
  have hb05 : Below w.heap.size w w5 := hb2.trans (hb25.mono hb2.size)
  subst e5
  clear hlo5 hj3 hj4 hj5 hf3 ho4 hB3 hB4 hb34 hb45 hb23 hb2 hrow2 HS HP HR HBU HU HPk
  by_cases hl : 65536 < N
  · have hX := HX1.out hl
    subst hX
    rw [scan_none (show splitF [] = none by decide)] at he
    simp only [List.length_nil] at he
    subst he
    rw [show ([] : List UInt8).length = 0 from rfl] at *
    clear hL5 hps
    go_wp2_with (first
      | (go_at_call 14; refine (HSame.out _ _ _ _ _ _ _ _ _ (HB3.out.reads.below (by (repeat' (first | (with_reducible exact Below.refl _ _) | (with_reducible assumption) | (with_reducible refine Below.alloc ?_ ?_ _) | (with_reducible refine Below.drew ?_) | (with_reducible refine below_drewN ?_ _) | (with_reducible refine below_plus ?_ ?_ _ _) | (with_reducible refine Below.setCell ?_ ?_ _) | (with_reducible refine Below.setRow ?_ ?_ _) | go_size)))) (HB4.out.reads.below (by (repeat' (first | (with_reducible exact Below.refl _ _) | (with_reducible assumption) | (with_reducible refine Below.alloc ?_ ?_ _) | (with_reducible refine Below.drew ?_) | (with_reducible refine below_drewN ?_ _) | (with_reducible refine below_plus ?_ ?_ _ _) | (with_reducible refine Below.setCell ?_ ?_ _) | (with_reducible refine Below.setRow ?_ ?_ _) | go_size))))).mono ?_; rintro e w8 ⟨rfl, J8, d8, rfl⟩)
      | (go_at_call 19; refine (HAw.out _).mono ?_; rintro e w10 ⟨rfl, J10, d10, rfl⟩))
    go_ret
    exact ⟨rfl, junk_of_below (hb05.trans ((show Below w5.heap.size w5 _ by (repeat' (first | (with_reducible exact Below.refl _ _) | (with_reducible assumption) | (with_reducible refine Below.alloc ?_ ?_ _) | (with_reducible refine Below.drew ?_) | (with_reducible refine below_drewN ?_ _) | (with_reducible refine below_plus ?_ ?_ _ _) | (with_reducible refine Below.setCell ?_ ?_ _) | (with_reducible refine Below.setRow ?_ ?_ _) | go_size))).mono hb05.size))⟩
  · have hX := HX2.out hl
    subst hX
    have hsc := scan_frames [L] [] (by intro r hr; rw [List.mem_singleton.1 hr]; omega)
    have ef : framesF [L] ++ [] = frameF L := by simp [framesF]
    rw [ef, scan_none (show splitF [] = none by decide)] at hsc
    replace hsc : scanF (frameF L) = ([L], []) := hsc
    have hst0 : stateF [] = 0 := by decide
    have hfl : (frameF L).length = N + 12 := by rw [frameF_len, hLl]
    rw [hsc] at he hps hL5
    rw [hst0] at he
    simp only [List.length_nil, Nat.sub_zero, List.length_cons, Nat.zero_add] at he hL5
    rw [hfl] at he HB3 HB4
    subst he
    rcases hL5.cells with h0 | ⟨b5, o5, rfl, hc5⟩
    · cases h0
    obtain ⟨a6, n6, c6, q6, hB6⟩ := hc5 0 L rfl
    have hn6 := hB6.reads.1
    rw [hLl] at hn6
    subst hn6
    rw [Nat.add_zero] at q6
    have hb5 : b5 < w5.heap.size := World.block_lt_of_cell? _ _ q6
    have HB6 := Lib.hid hB6
    have e9 : ((N + 12 : Nat) : Int) ≠ 0 := by omega
    have e10 : (((N + 12 : Nat) : Int) == 0) = false := by rw [beq_eq_false_iff_ne]; exact e9
    rw [hfl]
    obtain ⟨M, hM⟩ : ∃ M, N + 12 = M := ⟨_, rfl⟩
    rw [hM] at HB3 HB4 e9 e10
    rw [hM]
    clear hL5 hps hsc ef hfl hst0 HX1 HX2 hpl HB34 hc5 hB6 hM
    generalize frameF L = X at *
    go_wp2_with (first
      | (go_at_call 14; refine (HSame.out _ _ _ _ _ _ _ _ _ (HB3.out.reads.below (by (repeat' (first | (with_reducible exact Below.refl _ _) | (with_reducible assumption) | (with_reducible refine Below.alloc ?_ ?_ _) | (with_reducible refine Below.drew ?_) | (with_reducible refine below_drewN ?_ _) | (with_reducible refine below_plus ?_ ?_ _ _) | (with_reducible refine Below.setCell ?_ ?_ _) | (with_reducible refine Below.setRow ?_ ?_ _) | go_size)))) (HB4.out.reads.below (by (repeat' (first | (with_reducible exact Below.refl _ _) | (with_reducible assumption) | (with_reducible refine Below.alloc ?_ ?_ _) | (with_reducible refine Below.drew ?_) | (with_reducible refine below_drewN ?_ _) | (with_reducible refine below_plus ?_ ?_ _ _) | (with_reducible refine Below.setCell ?_ ?_ _) | (with_reducible refine Below.setRow ?_ ?_ _) | go_size))))).mono ?_; rw [decide_eq_true (rfl : X = X)]; rintro e w8 ⟨rfl, J8, d8, rfl⟩; clear HB3 HB4)
      | (go_at_call 14; refine (HSame.out _ _ _ _ _ _ _ _ _ (HB6.out.reads.below (by (repeat' (first | (with_reducible exact Below.refl _ _) | (with_reducible assumption) | (with_reducible refine Below.alloc ?_ ?_ _) | (with_reducible refine Below.drew ?_) | (with_reducible refine below_drewN ?_ _) | (with_reducible refine below_plus ?_ ?_ _ _) | (with_reducible refine Below.setCell ?_ ?_ _) | (with_reducible refine Below.setRow ?_ ?_ _) | go_size)))) (HI5.out.reads.below (by (repeat' (first | (with_reducible exact Below.refl _ _) | (with_reducible assumption) | (with_reducible refine Below.alloc ?_ ?_ _) | (with_reducible refine Below.drew ?_) | (with_reducible refine below_drewN ?_ _) | (with_reducible refine below_plus ?_ ?_ _ _) | (with_reducible refine Below.setCell ?_ ?_ _) | (with_reducible refine Below.setRow ?_ ?_ _) | go_size))))).mono ?_; rw [decide_eq_true (rfl : L = L)]; rintro e w9 ⟨rfl, J9, d9, rfl⟩)
      | (go_at_call 19; refine (HAw.out _).mono ?_; rintro e w10 ⟨rfl, J10, d10, rfl⟩))
    go_ret
    exact ⟨rfl, junk_of_below (hb05.trans ((show Below w5.heap.size w5 _ by (repeat' (first | (with_reducible exact Below.refl _ _) | (with_reducible assumption) | (with_reducible refine Below.alloc ?_ ?_ _) | (with_reducible refine Below.drew ?_) | (with_reducible refine below_drewN ?_ _) | (with_reducible refine below_plus ?_ ?_ _ _) | (with_reducible refine Below.setCell ?_ ?_ _) | (with_reducible refine Below.setRow ?_ ?_ _) | go_size))).mono hb05.size))⟩
end Go.Proofs.Ytfapldajodobhaa

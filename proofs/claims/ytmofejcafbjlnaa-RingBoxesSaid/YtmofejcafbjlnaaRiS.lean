/- The law RingChecks: the walk. -/
import Derived.Test.YtmofejcafbjlnaaRiR
namespace Go.Proofs.Ytmofejcafbjlnaa
set_option linter.unusedVariables false
set_option linter.unusedSimpArgs false
open Go.RowKit

theorem own_lt {W w : World} {v : Value} {L : List Pt} (h : POwn W w v L) : ∀ k, v.ownBlock = some k → W.heap.size ≤ k ∧ k < w.heap.size := World.ownsRow.lt h
theorem own_at {W w w' : World} {v : Value} {L : List Pt} (h : POwn W w v L) (hb : Below w.heap.size w w') : POwn W w' v L := powns_below h hb
theorem own_slice {a : Option Addr} {n c k : Nat} : (Value.slice a n c).ownBlock = some k ↔ ∃ x, a = some x ∧ x.block = k := by
  cases a with
  | none => simp [Value.ownBlock]
  | some x => simp [Value.ownBlock]
theorem preads_lt {w : World} {a : Option Addr} {n ca : Nat} {K : List Pt} (h : PRC w a n ca K) (hn : 0 < n) : ∀ x, a = some x → x.block < w.heap.size := by
  rcases h.rd.2 with h0 | ⟨b, o, e, hc⟩
  · omega
  · intro x hx
    rw [e] at hx
    injection hx with hx
    subst hx
    exact World.block_lt_of_cell? _ _ (hc 0 hn).1
theorem plus_size (w : World) (J : Array Obj) (d : Nat) : (w.plus J d).heap.size = w.heap.size + J.size := by simp [World.plus]
theorem alloc_size (w : World) (o : Obj) : (w.alloc o).heap.size = w.heap.size + 1 := by simp
/-- A list read stays when the row of another is written over. -/
theorem preads_kept {w w' : World} {v : Value} {a : Option Addr} {n ca B : Nat} {K : List Pt} (h : PRC w a n ca K) (ho : OnlyP v w w') (hB : ∀ k, v.ownBlock = some k → B ≤ k) (hl : 0 < n → ∀ x, a = some x → x.block < B) : PRC w' a n ca K := by
  by_cases hn : 0 < n
  · exact h.only ho fun x hx e => by have := hB _ e; have := hl hn x hx; omega
  · exact ⟨⟨h.rd.1, .inl (by omega)⟩, h.ok⟩
set_option maxRecDepth 100000 in
theorem checks_big (w : World) (a : Option Addr) (n ca : Nat) (s : Int) (h : 210 < n) :
    Calls Try.prog 3 #[.slice a n ca, .int .i64 s] w fun e w' => e = .returned (.bool true) ∧ Junk w w' := by
  have HB1 := Lib.hid (fun w' => l_rgBig a n ca w')
  rw [decide_eq_true h] at HB1
  clear h
  go_enter Try.func3, Try.ntmps3
  go_wp2_with (go_at_call 11; (with_reducible refine (HB1.out _).mono ?_); rintro e w1 ⟨rfl, rfl⟩)
  go_ret
  exact ⟨rfl, junk_of_below (by (repeat' (first | (with_reducible exact Below.refl _ _) | (with_reducible assumption) | (with_reducible refine Below.alloc ?_ ?_ _) | (with_reducible refine Below.drew ?_) | (with_reducible refine below_drewN ?_ _) | (with_reducible refine below_plus ?_ ?_ _ _) | (with_reducible refine Below.setCell ?_ ?_ _) | (with_reducible refine Below.setRow ?_ ?_ _) | go_size)))⟩
set_option maxRecDepth 100000 in
set_option maxHeartbeats 8000000 in
theorem checks_in (w : World) (a : Option Addr) (n ca : Nat) (K : List Pt) (s : Int) (hK : PRC w a n ca K) (hz : a = none → n = 0 ∧ ca = 0) (h1 : ¬ 210 < n) :
    Calls Try.prog 3 #[.slice a n ca, .int .i64 s] w fun e w' => e = .returned (.bool true) ∧ Junk w w' := by
  have HAw := Lib.hid l_rgAwake
  have HB1 := Lib.hid (fun w' => l_rgBig a n ca w')
  rw [decide_eq_false h1] at HB1
  have HT1 := Lib.hid (fun w' a' ca' h => c_rgTurned w' a' n ca' K h (by omega))
  have HT2 := Lib.hid (fun w' h => s_rgTurned w' a n ca K h (by omega))
  have HF1 := Lib.hid (fun w' a' ca' h => c_rgFrom w' a' n ca' K h (by omega) s)
  have HF2 := Lib.hid (fun w' h => s_rgFrom w' a n ca K h (by omega) s)
  have HC1 := Lib.hid (fun w' a' ca' h => c_rgCheck w' a' n ca' K h (by omega))
  have HC2 := Lib.hid (fun w' h => s_rgCheck w' a n ca K h (by omega))
  have HS1 := Lib.hid (fun w' a' ca' h => c_rgSign w' a' n ca' K h (by omega))
  have HS2 := Lib.hid (fun w' h => s_rgSign w' a n ca K h (by omega))
  have HN1 := Lib.hid (fun w' a' ca' h => c_rgNormal w' a' n ca' K h (by omega))
  have HN2 := Lib.hid (fun w' h => s_rgNormal w' a n ca K h (by omega))
  have HP := Lib.hid (fun (L : List Pt) (m : Nat) (hm : m ≤ 400) w' a' b' ca' cb' h1' h2' => sp_pt L m hm w' a' b' ca' cb' h1' h2')
  have HL4 := Lib.hid (show (normF K).length ≤ 400 by
    by_cases hf : fineQ K
    · rw [norm_len (norm_is hf)]; have := hf.long; omega
    · rw [norm_not hf]; exact Nat.zero_le _)
  have HLr := Lib.hid (show K.reverse.length = n by rw [List.length_reverse]; exact hK.rd.1)
  have HLf := Lib.hid (show (rotF K s).length = n by rw [rot_len]; exact hK.rd.1)
  generalize K.reverse = M2 at *
  generalize rotF K s = M3 at *
  generalize normF K = M4 at *
  generalize checkF K = ck at *
  obtain ⟨ce, ct⟩ := ck
  generalize signF K = sg at *
  unfold fltV at HC1 HC2
  simp only at HC1 HC2
  have HK := Lib.hid hK
  have HZ := Lib.hid hz
  have L1 := Lib.hid (show n ≤ 500 by omega)
  have L4 := Lib.hid (show n ≤ 400 by omega)
  clear hK hz h1
  go_enter Try.func3, Try.ntmps3
  go_upto_region 7 with (first
    | (go_at_call 11; (with_reducible refine (HB1.out _).mono ?_); rintro e w1 ⟨rfl, rfl⟩)
    | (at_builtin; refine wpList_ccopy rfl (.tmp 16) (.tmp 17) rfl rfl a n ca K rfl HZ.out HK.out L1.out ?_; clear L1; rintro v1 wA ⟨a1, c1, rfl, hr1, hb1⟩; have HR1 := Lib.hid hr1; have HBA := Lib.hid hb1; clear hr1 hb1)
    | (go_at_call 12; refine (HT1.out _ _ _ HR1.out).mono ?_; rintro e w1 ⟨⟨v, rfl, hv⟩, J1, d1, rfl⟩; obtain ⟨a2, c2, rfl, -⟩ := own_prc HLr.out hv; have HO2 := Lib.hid hv; clear hv)
    | (go_at_call 13; refine (HF1.out _ _ _ (HR1.out.below (by (repeat' (first | (with_reducible exact Below.refl _ _) | (with_reducible assumption) | (with_reducible refine Below.alloc ?_ ?_ _) | (with_reducible refine Below.drew ?_) | (with_reducible refine below_drewN ?_ _) | (with_reducible refine below_plus ?_ ?_ _ _) | (with_reducible refine Below.setCell ?_ ?_ _) | (with_reducible refine Below.setRow ?_ ?_ _) | go_size))))).mono ?_; rintro e w1 ⟨⟨v, rfl, hv⟩, J2, d2, rfl⟩; obtain ⟨a3, c3, rfl, -⟩ := own_prc HLf.out hv; (try simp only [plus_plus, Array.append_assoc] at hv); have HO3 := Lib.hid hv; clear hv)
    | (go_at_call 14; refine (HC1.out _ _ _ (HR1.out.below (by (repeat' (first | (with_reducible exact Below.refl _ _) | (with_reducible assumption) | (with_reducible refine Below.alloc ?_ ?_ _) | (with_reducible refine Below.drew ?_) | (with_reducible refine below_drewN ?_ _) | (with_reducible refine below_plus ?_ ?_ _ _) | (with_reducible refine Below.setCell ?_ ?_ _) | (with_reducible refine Below.setRow ?_ ?_ _) | go_size))))).mono ?_; rintro e w1 ⟨rfl, J3, d3, rfl⟩)
    | (go_at_call 15; refine (HN1.out _ _ _ (HR1.out.below (by (repeat' (first | (with_reducible exact Below.refl _ _) | (with_reducible assumption) | (with_reducible refine Below.alloc ?_ ?_ _) | (with_reducible refine Below.drew ?_) | (with_reducible refine below_drewN ?_ _) | (with_reducible refine below_plus ?_ ?_ _ _) | (with_reducible refine Below.setCell ?_ ?_ _) | (with_reducible refine Below.setRow ?_ ?_ _) | go_size))))).mono ?_; rintro e w1 ⟨⟨v, b4, rfl, hv, hb4⟩, J4, d4, rfl⟩; obtain ⟨a4, c4, rfl, -⟩ := own_prcs hv; (try simp only [plus_plus, Array.append_assoc] at hv); have HO4 := Lib.hid hv; have HB4 := Lib.hid hb4; clear hv hb4)
    | (go_at_call 16; refine (HN2.out _ ((HK.out.below HBA.out).below (by (repeat' (first | (with_reducible exact Below.refl _ _) | (with_reducible assumption) | (with_reducible refine Below.alloc ?_ ?_ _) | (with_reducible refine Below.drew ?_) | (with_reducible refine below_drewN ?_ _) | (with_reducible refine below_plus ?_ ?_ _ _) | (with_reducible refine Below.setCell ?_ ?_ _) | (with_reducible refine Below.setRow ?_ ?_ _) | go_size))))).mono ?_; rintro e w1 ⟨⟨v, b5, rfl, hv, hb5⟩, J5, d5, rfl⟩; obtain ⟨a5, c5, rfl, hr5⟩ := own_prcs hv; (try simp only [plus_plus, Array.append_assoc] at hr5); have HR5 := Lib.hid hr5; have HB5 := Lib.hid hb5; clear hv hb5 hr5))
  have hb45 : b5 = b4 := by rw [Bool.eq_iff_iff, HB4.out, HB5.out]
  subst hb45
  have k2 := own_lt HO2.out
  have k3 := own_lt HO3.out
  have k4 := own_lt HO4.out
  obtain ⟨v2, hv2⟩ : ∃ v, v = Value.slice a2 n c2 := ⟨_, rfl⟩
  obtain ⟨v3, hv3⟩ : ∃ v, v = Value.slice a3 n c3 := ⟨_, rfl⟩
  obtain ⟨v4, hv4⟩ : ∃ v, v = Value.slice a4 M4.length c4 := ⟨_, rfl⟩
  rw [← hv2] at k2
  rw [← hv3] at k3
  rw [← hv4] at k4
  simp only [plus_size] at k2 k3
  rw [alloc_size, plus_size, Array.size_append, Array.size_append] at k4
  rw [Array.size_append] at k3
  have D23 := Lib.hid (show ∀ k, v3.ownBlock = some k → v2.ownBlock ≠ some k from fun k e e' => by have := k3 k e; have := k2 k e'; omega)
  have D24 := Lib.hid (show ∀ k, v4.ownBlock = some k → v2.ownBlock ≠ some k from fun k e e' => by have := k4 k e; have := k2 k e'; omega)
  have D34 := Lib.hid (show ∀ k, v4.ownBlock = some k → v3.ownBlock ≠ some k from fun k e e' => by have := k4 k e; have := k3 k e'; omega)
  have B2 := Lib.hid (show ∀ k, v2.ownBlock = some k → wA.heap.size ≤ k from fun k e => (k2 k e).1)
  have B3 := Lib.hid (show ∀ k, v3.ownBlock = some k → wA.heap.size ≤ k from fun k e => by have := k3 k e; omega)
  have B4 := Lib.hid (show ∀ k, v4.ownBlock = some k → wA.heap.size ≤ k from fun k e => by have := k4 k e; omega)
  clear k2 k3 k4
  obtain ⟨WB, hWB⟩ : ∃ WB, ((wA.plus (J1 ++ (J2 ++ J3)) d3).alloc (.cells #[.int .i64 ce, .int .i64 (ct : Int)] 28)).plus (J4 ++ J5) d5 = WB := ⟨_, rfl⟩
  have hBB : Below wA.heap.size wA WB := by rw [← hWB]; (repeat' (first | (with_reducible exact Below.refl _ _) | (with_reducible assumption) | (with_reducible refine Below.alloc ?_ ?_ _) | (with_reducible refine Below.drew ?_) | (with_reducible refine below_drewN ?_ _) | (with_reducible refine below_plus ?_ ?_ _ _) | (with_reducible refine Below.setCell ?_ ?_ _) | (with_reducible refine Below.setRow ?_ ?_ _) | go_size))
  have O2 := own_at HO2.out (w' := WB) (by rw [← hWB]; ((try simp only [← Array.append_assoc]); repeat' (first | (with_reducible exact Below.refl _ _) | (with_reducible assumption) | (with_reducible refine Below.alloc ?_ ?_ _) | (with_reducible refine Below.drew ?_) | (with_reducible refine below_drewN ?_ _) | (with_reducible exact below_d _ _ _ _ _) | (with_reducible refine below_snoc _ _ ?_ ?_) | (with_reducible refine below_plus ?_ ?_ _ _) | (with_reducible refine Below.setCell ?_ ?_ _) | (with_reducible refine Below.setRow ?_ ?_ _) | go_size)))
  have O3 := own_at HO3.out (w' := WB) (by rw [← hWB]; ((try simp only [← Array.append_assoc]); repeat' (first | (with_reducible exact Below.refl _ _) | (with_reducible assumption) | (with_reducible refine Below.alloc ?_ ?_ _) | (with_reducible refine Below.drew ?_) | (with_reducible refine below_drewN ?_ _) | (with_reducible exact below_d _ _ _ _ _) | (with_reducible refine below_snoc _ _ ?_ ?_) | (with_reducible refine below_plus ?_ ?_ _ _) | (with_reducible refine Below.setCell ?_ ?_ _) | (with_reducible refine Below.setRow ?_ ?_ _) | go_size)))
  have O4 := own_at HO4.out (w' := WB) (by rw [← hWB]; ((try simp only [← Array.append_assoc]); repeat' (first | (with_reducible exact Below.refl _ _) | (with_reducible assumption) | (with_reducible refine Below.alloc ?_ ?_ _) | (with_reducible refine Below.drew ?_) | (with_reducible refine below_drewN ?_ _) | (with_reducible exact below_d _ _ _ _ _) | (with_reducible refine below_snoc _ _ ?_ ?_) | (with_reducible refine below_plus ?_ ?_ _ _) | (with_reducible refine Below.setCell ?_ ?_ _) | (with_reducible refine Below.setRow ?_ ?_ _) | go_size)))
  have R5 := Lib.hid (show PRC WB a5 M4.length c5 M4 from prc_eqh HR5.out hWB.symm)
  obtain ⟨g8, hg8⟩ : ∃ g8, wA.heap.size + (J1.size + (J2.size + J3.size)) = g8 := ⟨_, rfl⟩
  have c80 : WB.cell? ⟨g8, 0, none⟩ = some (.int .i64 ce) := by rw [← hWB, ← hg8]; simp [go_sem]
  have c81 : WB.cell? ⟨g8, 1, none⟩ = some (.int .i64 (ct : Int)) := by rw [← hWB, ← hg8]; simp [go_sem]
  have g8b : g8 < WB.heap.size := World.block_lt_of_cell? _ _ c80
  rw [hWB, hg8]
  have R1 := Lib.hid (HR1.out.below hBB)
  have RL := Lib.hid ((HK.out.below HBA.out).below hBB)
  have HO2B := Lib.hid O2
  have HO3B := Lib.hid O3
  have HO4B := Lib.hid O4
  obtain ⟨_, _, e2, q2⟩ := own_prc HLr.out O2
  obtain ⟨_, _, e3, q3⟩ := own_prc HLf.out O3
  obtain ⟨_, _, e4, q4⟩ := own_prcs O4
  injection e2 with e2 f2 g2
  injection e3 with e3 f3 g3
  injection e4 with e4 f4 g4
  subst e2 e3 e4 g2 g3 g4
  clear f2 f3 f4
  have Q2 := Lib.hid q2
  have Q3 := Lib.hid q3
  have Q4 := Lib.hid q4
  have LA := Lib.hid (show 0 < n → ∀ x, a1 = some x → x.block < wA.heap.size from fun h => preads_lt HR1.out h)
  have LL := Lib.hid (show 0 < n → ∀ x, a = some x → x.block < wA.heap.size from fun h => preads_lt (HK.out.below HBA.out) h)
  have HBW := Lib.hid (HBA.out.trans (hBB.mono HBA.out.size))
  have SZA := Lib.hid HBA.out.size
  rw [← hv2] at HO2B
  rw [← hv3] at HO3B
  rw [← hv4] at HO4B
  clear hWB hg8 O2 O3 O4 q2 q3 q4 HO2 HO3 HO4 HR5 hBB HR1 HBA HB4 HB5
  go_cut [13] from 36 to 69 (fun x wx => x = .bool true ∧ Cls WB wx)
  case first =>
    go_region_held3 (fun w' => w'.cell? ⟨g8, 0, none⟩ = some (.int .i64 ce) ∧ w'.cell? ⟨g8, 1, none⟩ = some (.int .i64 (ct : Int))) (first | (refine ⟨?_, ?_⟩ <;> (simp [go_sem, *]; done))) (first
      | (go_simp; go_at_call 17; refine (HC2.out _ (RL.out.below (by (repeat' (first | (with_reducible exact Below.refl _ _) | (with_reducible assumption) | (with_reducible refine Below.alloc ?_ ?_ _) | (with_reducible refine Below.drew ?_) | (with_reducible refine below_drewN ?_ _) | (with_reducible refine below_plus ?_ ?_ _ _) | (with_reducible refine Below.setCell ?_ ?_ _) | (with_reducible refine Below.setRow ?_ ?_ _) | go_size))))).mono ?_; rintro e w1 ⟨rfl, J1, d1, rfl⟩; go_simp)
      | (go_simp; go_at_call 18; refine (HS1.out _ _ _ (R1.out.below (by (repeat' (first | (with_reducible exact Below.refl _ _) | (with_reducible assumption) | (with_reducible refine Below.alloc ?_ ?_ _) | (with_reducible refine Below.drew ?_) | (with_reducible refine below_drewN ?_ _) | (with_reducible refine below_plus ?_ ?_ _ _) | (with_reducible refine Below.setCell ?_ ?_ _) | (with_reducible refine Below.setRow ?_ ?_ _) | go_size))))).mono ?_; rintro e w1 ⟨rfl, J2, d2, rfl⟩; go_simp)
      | (go_simp; go_at_call 19; refine (HS2.out _ (RL.out.below (by (repeat' (first | (with_reducible exact Below.refl _ _) | (with_reducible assumption) | (with_reducible refine Below.alloc ?_ ?_ _) | (with_reducible refine Below.drew ?_) | (with_reducible refine below_drewN ?_ _) | (with_reducible refine below_plus ?_ ?_ _ _) | (with_reducible refine Below.setCell ?_ ?_ _) | (with_reducible refine Below.setRow ?_ ?_ _) | go_size))))).mono ?_; rintro e w1 ⟨rfl, J3, d3, rfl⟩; go_simp)
      | (go_simp; go_at_call 21; refine (HT2.out _ (RL.out.below (by (repeat' (first | (with_reducible exact Below.refl _ _) | (with_reducible assumption) | (with_reducible refine Below.alloc ?_ ?_ _) | (with_reducible refine Below.drew ?_) | (with_reducible refine below_drewN ?_ _) | (with_reducible refine below_plus ?_ ?_ _ _) | (with_reducible refine Below.setCell ?_ ?_ _) | (with_reducible refine Below.setRow ?_ ?_ _) | go_size))))).mono ?_; rintro e w1 ⟨⟨v, rfl, hv⟩, J4, d4, rfl⟩; obtain ⟨a6, c6, rfl, hr6⟩ := own_prc HLr.out hv; (try simp only [plus_plus, Array.append_assoc] at hr6); have HR6 := Lib.hid hr6; clear hv hr6; go_simp)
      | (go_simp; go_at_call 20; refine (HP.out M2 n L4.out _ _ _ _ _ (Q2.out.below (by (repeat' (first | (with_reducible exact Below.refl _ _) | (with_reducible assumption) | (with_reducible refine Below.alloc ?_ ?_ _) | (with_reducible refine Below.drew ?_) | (with_reducible refine below_drewN ?_ _) | (with_reducible refine below_plus ?_ ?_ _ _) | (with_reducible refine Below.setCell ?_ ?_ _) | (with_reducible refine Below.setRow ?_ ?_ _) | go_size)))) (prc_eqh HR6.out (by simp only [plus_plus, Array.append_assoc]))).mono ?_; clear HR6; rintro e w1 ⟨rfl, J5, d5, rfl⟩; go_simp)
      | (go_simp; go_at_call 22; refine (HF2.out _ (RL.out.below (by (repeat' (first | (with_reducible exact Below.refl _ _) | (with_reducible assumption) | (with_reducible refine Below.alloc ?_ ?_ _) | (with_reducible refine Below.drew ?_) | (with_reducible refine below_drewN ?_ _) | (with_reducible refine below_plus ?_ ?_ _ _) | (with_reducible refine Below.setCell ?_ ?_ _) | (with_reducible refine Below.setRow ?_ ?_ _) | go_size))))).mono ?_; rintro e w1 ⟨⟨v, rfl, hv⟩, J6, d6, rfl⟩; obtain ⟨a7, c7, rfl, hr7⟩ := own_prc HLf.out hv; (try simp only [plus_plus, Array.append_assoc] at hr7); have HR7 := Lib.hid hr7; clear hv hr7; go_simp)
      | (go_simp; go_at_call 20; refine (HP.out M3 n L4.out _ _ _ _ _ (Q3.out.below (by (repeat' (first | (with_reducible exact Below.refl _ _) | (with_reducible assumption) | (with_reducible refine Below.alloc ?_ ?_ _) | (with_reducible refine Below.drew ?_) | (with_reducible refine below_drewN ?_ _) | (with_reducible refine below_plus ?_ ?_ _ _) | (with_reducible refine Below.setCell ?_ ?_ _) | (with_reducible refine Below.setRow ?_ ?_ _) | go_size)))) (prc_eqh HR7.out (by simp only [plus_plus, Array.append_assoc]))).mono ?_; clear HR7; rintro e w1 ⟨rfl, J7, d7, rfl⟩; go_simp)
      | (go_simp; go_at_call 20; refine (HP.out M4 _ HL4.out _ _ _ _ _ (Q4.out.below (by (repeat' (first | (with_reducible exact Below.refl _ _) | (with_reducible assumption) | (with_reducible refine Below.alloc ?_ ?_ _) | (with_reducible refine Below.drew ?_) | (with_reducible refine below_drewN ?_ _) | (with_reducible refine below_plus ?_ ?_ _ _) | (with_reducible refine Below.setCell ?_ ?_ _) | (with_reducible refine Below.setRow ?_ ?_ _) | go_size)))) (R5.out.below (by (repeat' (first | (with_reducible exact Below.refl _ _) | (with_reducible assumption) | (with_reducible refine Below.alloc ?_ ?_ _) | (with_reducible refine Below.drew ?_) | (with_reducible refine below_drewN ?_ _) | (with_reducible refine below_plus ?_ ?_ _ _) | (with_reducible refine Below.setCell ?_ ?_ _) | (with_reducible refine Below.setRow ?_ ?_ _) | go_size))))).mono ?_; rintro e w1 ⟨rfl, J8, d8, rfl⟩; go_simp))
    all_goals
      go_wp2_with fail
      go_meet
      case rel => exact ⟨by simp, cls_of (junk_of_below (by (repeat' (first | (with_reducible exact Below.refl _ _) | (with_reducible assumption) | (with_reducible refine Below.alloc ?_ ?_ _) | (with_reducible refine Below.drew ?_) | (with_reducible refine below_drewN ?_ _) | (with_reducible refine below_plus ?_ ?_ _ _) | (with_reducible refine Below.setCell ?_ ?_ _) | (with_reducible refine Below.setRow ?_ ?_ _) | go_size))))⟩
  case rest =>
  obtain ⟨rfl, J9, d9, rfl⟩ := hcut
  obtain ⟨WC, hWC⟩ : ∃ WC, WB.plus J9 d9 = WC := ⟨_, rfl⟩
  have hBC : Below WB.heap.size WB WC := by rw [← hWC]; exact Junk.below ⟨_, _, rfl⟩
  have P2 := Lib.hid (own_at HO2B.out hBC)
  have P3 := Lib.hid (own_at HO3B.out hBC)
  have P4 := Lib.hid (own_at HO4B.out hBC)
  have S1 := Lib.hid (R1.out.below hBC)
  have SL := Lib.hid (RL.out.below hBC)
  have HWC := Lib.hid (HBW.out.trans (hBC.mono HBW.out.size))
  rw [hWC]
  have HL2 := Lib.hid (show M2.length ≤ 400 by rw [HLr.out]; exact L4.out)
  have HL3 := Lib.hid (show M3.length ≤ 400 by rw [HLf.out]; exact L4.out)
  clear hWC hBC c80 c81 g8b R1 RL HBW HO2B HO3B HO4B Q2 Q3 Q4 R5 HT1 HT2 HF1 HF2 HC1 HC2 HS1 HS2 HN1 HN2
  have HV1 := Lib.hid (l_rgOver WC _ v2 M2 P2.out HL2.out)
  rw [hv2] at HV1
  go_wp2_with (first
    | (go_at_call 23; refine HV1.out.mono ?_; clear HV1; rintro e wD ⟨rfl, ho⟩; rw [← hv2] at ho; have T3 := Lib.hid (P3.out.only ho D23.out); have T4 := Lib.hid (P4.out.only ho D24.out); have U1 := Lib.hid (preads_kept S1.out ho B2.out LA.out); have UL := Lib.hid (preads_kept SL.out ho B2.out LL.out); have HWD := Lib.hid (HWC.out.trans (ho.below (fun k e => Nat.le_trans SZA.out (B2.out k e)))); clear ho; have HV2 := Lib.hid (l_rgOver wD _ v3 M3 T3.out HL3.out); rw [hv3] at HV2)
    | (go_at_call 23; refine HV2.out.mono ?_; clear HV2; rintro e wE ⟨rfl, ho⟩; rw [← hv3] at ho; have V4 := Lib.hid (T4.out.only ho D34.out); have X1 := Lib.hid (preads_kept U1.out ho B3.out LA.out); have XL := Lib.hid (preads_kept UL.out ho B3.out LL.out); have HWE := Lib.hid (HWD.out.trans (ho.below (fun k e => Nat.le_trans SZA.out (B3.out k e)))); clear ho; have HV3 := Lib.hid (l_rgOver wE _ v4 M4 V4.out HL4.out); rw [hv4] at HV3)
    | (go_at_call 23; refine HV3.out.mono ?_; clear HV3; rintro e wF ⟨rfl, ho⟩; rw [← hv4] at ho; have Y1 := Lib.hid (preads_kept X1.out ho B4.out LA.out); have YL := Lib.hid (preads_kept XL.out ho B4.out LL.out); have HWF := Lib.hid (HWE.out.trans (ho.below (fun k e => Nat.le_trans SZA.out (B4.out k e)))); clear ho)
    | (go_at_call 20; refine (HP.out K n L4.out _ _ _ _ _ Y1.out YL.out).mono ?_; rintro e w1 ⟨rfl, J8, d8, rfl⟩)
    | (go_at_call 24; refine (HAw.out _).mono ?_; rintro e w1 ⟨rfl, J3, d3, rfl⟩))
  go_ret
  have hszF := HWF.out.size
  exact ⟨rfl, junk_of_below (HWF.out.trans (by (repeat' (first | (with_reducible exact Below.refl _ _) | (with_reducible assumption) | (with_reducible refine Below.alloc ?_ ?_ _) | (with_reducible refine Below.drew ?_) | (with_reducible refine below_drewN ?_ _) | (with_reducible refine below_plus ?_ ?_ _ _) | (with_reducible refine Below.setCell ?_ ?_ _) | (with_reducible refine Below.setRow ?_ ?_ _) | go_size))))⟩
theorem l_ringChecks (w : World) (a : Option Addr) (n ca : Nat) (K : List Pt) (hK : PRC w a n ca K) (_ : n ≤ 9223372036854775807) (hz : a = none → n = 0 ∧ ca = 0) (s : Int) (_ : -9223372036854775808 ≤ s ∧ s ≤ 9223372036854775807) :
    Calls Try.prog 3 #[.slice a n ca, .int .i64 s] w fun e w' => e = .returned (.bool true) ∧ Junk w w' := by
  by_cases h1 : 210 < n
  · exact checks_big w a n ca s h1
  · exact checks_in w a n ca K s hK hz h1
end Go.Proofs.Ytmofejcafbjlnaa

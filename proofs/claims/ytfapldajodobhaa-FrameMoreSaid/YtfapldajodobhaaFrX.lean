/- Laws FramePuts, FrameKnown. -/
import Derived.Test.YtfapldajodobhaaFrW
import Derived.Test.YtfapldajodobhaaFrT
import Derived.Test.YtfapldajodobhaaOctF
import Derived.Test.YtfapldajodobhaaBArg
namespace Go.Proofs.Ytfapldajodobhaa
set_option linter.unusedVariables false
set_option linter.unusedSimpArgs false
open Go.RowKit

theorem reads_lent_in {w : World} {g n : Nat} {L : List UInt8} (hn : L.length = n) (h : w.rowAt g = some (urow (lentF L) (n + 3))) (hs : n ≤ 1048576) : BIn w (some ⟨g, 0, none⟩) n L (n + 3) := by
  refine ⟨⟨hn, .inr ⟨g, 0, rfl, fun i hi => ?_⟩⟩, (fun h => by cases h), by omega, by omega⟩
  rw [Nat.zero_add, ucell_of_row h, urow_get _ _ _ (by omega)]
  unfold lentF
  rw [if_pos (by omega)]

theorem row_below {w w' : World} {g : Nat} {c : Array Value} (h : w.rowAt g = some c) (hb : Below w.heap.size w w') : w'.rowAt g = some c := by
  obtain ⟨t, hg⟩ := rowAt_some h
  rw [rowAt_of_block (hb.block g (heap_lt hg))]; exact h

/-- What Put tells of whatever record. -/
def errF (L : List UInt8) : Int := if 65536 < L.length then 3 else 0
def putF (L : List UInt8) : List UInt8 := if 65536 < L.length then [] else frameF L
theorem putF_len (L : List UInt8) : (putF L).length ≤ 65548 := by unfold putF; split <;> simp; omega
def PutAny (w : World) (L : List UInt8) (e : Ending) (w' : World) : Prop := ∃ v, e = .returned (.tuple #[v, .int .i64 (errF L)]) ∧ BFull w' w.heap.size v (putF L) ∧ Junk w w'
theorem n_frAny (w : World) (a : Option Addr) (len cap : Nat) (L : List UInt8) (h : BIn w a len L cap) : Calls Try.prog 12 #[.slice a len cap] w (PutAny w L) := by
  have hL := h.reads.1
  unfold PutAny errF putF
  by_cases hl : 65536 < len
  · rw [if_pos (by omega), if_pos (by omega)]
    exact (n_frLong w a len cap L h hl).mono fun e w' ⟨h1, h2⟩ => ⟨_, h1, ⟨bowns_nil _ _, allbytes_nil _⟩, h2⟩
  · rw [if_neg (by omega), if_neg (by omega)]
    exact (n_frPut w a len cap L h (by omega)).mono fun e w' ⟨v, h1, h2, h3, h4⟩ => ⟨v, h1, ⟨h2, h3⟩, h4⟩
def RPutAny (w : World) (L : List UInt8) (e : Ending) (w' : World) : Prop := ∃ v, e = .returned (.tuple #[v, .int .i64 (errF L)]) ∧ BOwns w' w.heap.size v (putF L) ∧ Junk w w'
theorem r_frAny (w : World) (a : Option Addr) (len cap : Nat) (L : List UInt8) (h : BIn w a len L cap) : Calls Try.prog 13 #[.slice a len cap] w (RPutAny w L) := by
  have hL := h.reads.1
  unfold RPutAny errF putF
  by_cases hl : 65536 < len
  · rw [if_pos (by omega), if_pos (by omega)]
    exact (r_frLong w a len cap L h hl).mono fun e w' ⟨h1, h2⟩ => ⟨_, h1, bowns_nil _ _, h2⟩
  · rw [if_neg (by omega), if_neg (by omega)]
    exact (r_frPut w a len cap L h (by omega)).mono fun e w' ⟨v, h1, h2, h3⟩ => ⟨v, h1, h2, h3⟩

set_option maxRecDepth 100000 in
set_option maxHeartbeats 4000000 in
theorem l_framePuts (w : World) (a : Option Addr) (len cap : Nat) (L : List UInt8) (h : BArg w a len cap L) :
    Calls Try.prog 3 #[.slice a len cap] w fun e w' => e = .returned (.bool true) ∧ Junk w w' := by
  have hL := h.reads.1
  by_cases hbig : 70000 < len
  · have e1 : (70000 : Int) < (len : Int) := by omega
    clear h
    go_enter Try.func3, Try.ntmps3
    go_wp2
    go_ret
    exact ⟨rfl, junk_of_below (by (repeat' (first | (with_reducible exact Below.refl _ _) | (with_reducible assumption) | (with_reducible refine Below.alloc ?_ ?_ _) | (with_reducible refine Below.drew ?_) | (with_reducible refine below_drewN ?_ _) | (with_reducible refine below_plus ?_ ?_ _ _) | (with_reducible refine Below.setCell ?_ ?_ _) | (with_reducible refine Below.setRow ?_ ?_ _) | go_size)))⟩
  have e1 : ¬ (70000 : Int) < (len : Int) := by omega
  replace h := h.bin (by omega)
  have HB := Lib.hid h
  have HLe := Lib.hid (fun w' (hb : BIn w' a len L cap) => k_LentBytes w' a len cap L hb (by omega))
  have HAw := Lib.hid l_awake
  have HSame := Lib.hid (fun w' a b n m ca cb L M h1 h2 => k_SameBytes w' a b n m ca cb L M h1 h2)
  have HSum := Lib.hid (fun w' a len cap L h hl => n_Sum w' a len cap L h hl)
  have HRSum := Lib.hid (fun w' a len cap L h hl => r_frSum w' a len cap L h hl)
  have HOv := Lib.hid (fun w' base v L h1 h2 => k_OverBytes w' base v L h1 h2)
  have HKe := Lib.hid (fun w' g (hg : w'.rowAt g = some (urow (lentF L) (len + 3))) (hb : BIn w' a len L cap) => k_KeptBytes w' g a len cap L hg hb (by omega))
  have HP := Lib.hid (fun w' a (h : BIn w' a len L (len + 3)) => n_frAny w' a len (len + 3) L h)
  have HR := Lib.hid (fun w' (h : BIn w' a len L cap) => r_frAny w' a len cap L h)
  have hpl := putF_len L
  obtain ⟨X, hX⟩ : ∃ X, putF L = X := ⟨_, rfl⟩
  obtain ⟨E, hE⟩ : ∃ E, errF L = E := ⟨_, rfl⟩
  unfold PutAny at HP
  unfold RPutAny at HR
  rw [hX] at HP HR hpl
  rw [hE] at HP HR
  clear h hX hE
  go_enter Try.func3, Try.ntmps3
  go_wp2_with fail
  refine (HLe.out _ HB.out).mono ?_
  rintro e w1 ⟨rfl, d1, rfl⟩
  have hrow1 : ((w.alloc (.cells (urow (lentF L) (len + 3)) 5)).drewN d1).rowAt w.heap.size = some (urow (lentF L) (len + 3)) := by simp [go_sem]
  have hb1 : Below w.heap.size w ((w.alloc (.cells (urow (lentF L) (len + 3)) 5)).drewN d1) := by (repeat' (first | (with_reducible exact Below.refl _ _) | (with_reducible assumption) | (with_reducible refine Below.alloc ?_ ?_ _) | (with_reducible refine Below.drew ?_) | (with_reducible refine below_drewN ?_ _) | (with_reducible refine below_plus ?_ ?_ _ _) | (with_reducible refine Below.setCell ?_ ?_ _) | (with_reducible refine Below.setRow ?_ ?_ _) | go_size))
  generalize (w.alloc (.cells (urow (lentF L) (len + 3)) 5)).drewN d1 = w1 at *
  have HI1 := Lib.hid (reads_lent_in hL hrow1 (by omega))
  go_wp2_with fail
  refine (HP.out _ _ HI1.out).mono ?_
  rintro e w2 ⟨v2, rfl, hf2, hj2⟩
  have hb2 := hj2.below
  obtain ⟨a2, c2, e2, hB2⟩ := bin_of_owns hf2.1 (by omega)
  subst e2
  go_wp2_with fail
  refine (HR.out _ (HB.out.below (hb1.trans (hb2.mono hb1.size)))).mono ?_
  rintro e w3 ⟨v3, rfl, ho3, hj3⟩
  obtain ⟨a3, c3, e3, hB3⟩ := bin_of_owns ho3 (by omega)
  subst e3
  have hb23 := hj3.below
  have hb13 : Below w1.heap.size w1 w3 := hb2.trans (hb23.mono hb2.size)
  have hb3 : Below w.heap.size w w3 := hb1.trans (hb13.mono hb1.size)
  have HI3 := Lib.hid (HI1.out.below hb13)
  have hrow3 := row_below hrow1 hb13
  have HB2 := Lib.hid (hB2.below hb23)
  have HF3 := Lib.hid (hf2.keeps (keeps_below hb23 _ _))
  have HB3 := Lib.hid hB3
  clear hj2 hj3 hb2 hB2 hB3 hf2 ho3 HP HR
  generalize X.length = n at *
  go_wp2_with (first
    | (go_at_call 14; refine (HSame.out _ a2 a3 n n c2 c3 X X (HB2.out.reads.below (by (repeat' (first | (with_reducible exact Below.refl _ _) | (with_reducible assumption) | (with_reducible refine Below.alloc ?_ ?_ _) | (with_reducible refine Below.drew ?_) | (with_reducible refine below_drewN ?_ _) | (with_reducible refine below_plus ?_ ?_ _ _) | (with_reducible refine Below.setCell ?_ ?_ _) | (with_reducible refine Below.setRow ?_ ?_ _) | go_size)))) (HB3.out.reads.below (by (repeat' (first | (with_reducible exact Below.refl _ _) | (with_reducible assumption) | (with_reducible refine Below.alloc ?_ ?_ _) | (with_reducible refine Below.drew ?_) | (with_reducible refine below_drewN ?_ _) | (with_reducible refine below_plus ?_ ?_ _ _) | (with_reducible refine Below.setCell ?_ ?_ _) | (with_reducible refine Below.setRow ?_ ?_ _) | go_size))))).mono ?_; rintro e w4 ⟨rfl, J4, d4, rfl⟩)
    | (go_at_call 15; refine (HSum.out _ _ _ _ L (HI3.out.reads.below (by (repeat' (first | (with_reducible exact Below.refl _ _) | (with_reducible assumption) | (with_reducible refine Below.alloc ?_ ?_ _) | (with_reducible refine Below.drew ?_) | (with_reducible refine below_drewN ?_ _) | (with_reducible refine below_plus ?_ ?_ _ _) | (with_reducible refine Below.setCell ?_ ?_ _) | (with_reducible refine Below.setRow ?_ ?_ _) | go_size)))) (by omega)).mono ?_; rintro e w5 ⟨rfl, J5, d5, rfl⟩)
    | (go_at_call 16; refine (HRSum.out _ _ _ _ L (HB.out.reads.below (hb3.trans ((show Below w3.heap.size w3 _ by (repeat' (first | (with_reducible exact Below.refl _ _) | (with_reducible assumption) | (with_reducible refine Below.alloc ?_ ?_ _) | (with_reducible refine Below.drew ?_) | (with_reducible refine below_drewN ?_ _) | (with_reducible refine below_plus ?_ ?_ _ _) | (with_reducible refine Below.setCell ?_ ?_ _) | (with_reducible refine Below.setRow ?_ ?_ _) | go_size))).mono hb3.size))) (by omega)).mono ?_; rintro e w6 ⟨rfl, J6, d6, rfl⟩))
  have hb37 : Below w3.heap.size w3 (w3.plus (J4 ++ (J5 ++ J6)) d6) := Junk.below ⟨_, _, rfl⟩
  generalize w3.plus (J4 ++ (J5 ++ J6)) d6 = w7 at *
  have hF7 := HF3.out.keeps (keeps_below hb37 _ _)
  refine (HOv.out w7 w1.heap.size _ X hF7.1 hF7.2).mono ?_
  rintro e w8 ⟨rfl, ho8⟩
  have hb8 : Below w1.heap.size w7 w8 := ho8.below (fun k hk => (hF7.block k hk).1)
  have hb17 : Below w1.heap.size w1 w7 := hb13.trans (hb37.mono hb13.size)
  have hb18 : Below w1.heap.size w1 w8 := hb17.trans hb8
  have hrow8 := row_below hrow1 hb18
  have hb08 : Below w.heap.size w w8 := hb1.trans (hb18.mono hb1.size)
  have HB8 := Lib.hid (HB.out.below hb08)
  have HK8 := Lib.hid (HKe.out w8 w.heap.size hrow8 HB8.out)
  clear ho8 hF7 hb8 hb17 hb18 hb13 hb37 hb23 hrow1 hrow3 hrow8 hb3
  go_wp2_with (first
    | (go_at_call 18; refine HK8.out.mono ?_; rintro e w9 ⟨rfl, J9, d9, rfl⟩)
    | (go_at_call 19; refine (HAw.out _).mono ?_; rintro e w10 ⟨rfl, J10, d10, rfl⟩))
  go_ret
  exact ⟨rfl, junk_of_below (hb08.trans ((show Below w8.heap.size w8 _ by (repeat' (first | (with_reducible exact Below.refl _ _) | (with_reducible assumption) | (with_reducible refine Below.alloc ?_ ?_ _) | (with_reducible refine Below.drew ?_) | (with_reducible refine below_drewN ?_ _) | (with_reducible refine below_plus ?_ ?_ _ _) | (with_reducible refine Below.setCell ?_ ?_ _) | (with_reducible refine Below.setRow ?_ ?_ _) | go_size))).mono hb08.size))⟩

theorem odd_full (w : World) (g : Nat) (hg : g = w.heap.size) : BFull (w.alloc (.cells #[.int .u8 0, .int .u8 0, .int .u8 0, .int .u8 0, .int .u8 255, .int .u8 255, .int .u8 255, .int .u8 255, .int .u8 0, .int .u8 0, .int .u8 0, .int .u8 1] 5)) w.heap.size (.slice (some ⟨g, 0, none⟩) 12 12) [0, 0, 0, 0, 255, 255, 255, 255, 0, 0, 0, 1] := hg ▸
  full_cells w [0, 0, 0, 0, 255, 255, 255, 255, 0, 0, 0, 1] (by decide)
theorem one_full (w : World) (g : Nat) (hg : g = w.heap.size) : BFull (w.alloc (.cells #[.int .u8 1, .int .u8 0, .int .u8 0, .int .u8 0, .int .u8 0, .int .u8 0, .int .u8 0, .int .u8 0] 5)) w.heap.size (.slice (some ⟨g, 0, none⟩) 8 8) [1, 0, 0, 0, 0, 0, 0, 0] := hg ▸
  full_cells w [1, 0, 0, 0, 0, 0, 0, 0] (by decide)
/-- What Scan tells where nothing is found. -/
theorem n_ScanNone (w : World) (a : Option Addr) (len cap : Nat) (L : List UInt8) (h : BIn w a len L cap) (hn : splitF L = none) : Calls Try.prog 20 #[.slice a len cap] w fun e w' => ∃ v, e = .returned (.tuple #[v, .int .i64 0, .int .i64 ((stateF L : Nat) : Int)]) ∧ Junk w w' := by
  refine (n_Scan w a len cap L h).mono ?_
  rintro e w' ⟨⟨v, ps, rfl, _, _⟩, hj⟩
  refine ⟨v, ?_, hj⟩
  rw [scan_none hn]
  simp
theorem bin_full {w : World} {base g n : Nat} {L : List UInt8} (h : BFull w base (.slice (some ⟨g, 0, none⟩) n n) L) (hn : L.length = n) (hs : n ≤ 1099511627776) : BIn w (some ⟨g, 0, none⟩) n L n :=
  ⟨breads_here h.1, (fun h => by cases h), hs, Nat.le_refl _⟩

set_option maxRecDepth 100000 in
set_option maxHeartbeats 4000000 in
theorem l_frameKnown (w : World) : Calls Try.prog 10 #[] w fun e w' => e = .returned (.bool true) ∧ Junk w w' := by
  have HE := Lib.hid l_empty
  have HAw := Lib.hid l_awake
  have HSum := Lib.hid (fun w' => n_Sum w' none 0 0 [] ⟨rfl, .inl rfl⟩ (by omega))
  have HS1 := Lib.hid (fun w' => n_ScanNone w' none 0 0 [] ⟨⟨rfl, .inl rfl⟩, (fun _ => ⟨rfl, rfl⟩), by omega, by omega⟩ (by decide))
  have HS2 := Lib.hid (fun w' a h => n_ScanNone w' a 12 12 [0, 0, 0, 0, 255, 255, 255, 255, 0, 0, 0, 1] h (by decide))
  have HS3 := Lib.hid (fun w' a h => n_ScanNone w' a 8 8 [1, 0, 0, 0, 0, 0, 0, 0] h (by decide))
  rw [show stateF [] = 0 by decide] at HS1
  rw [show stateF [0, 0, 0, 0, 255, 255, 255, 255, 0, 0, 0, 1] = 2 by decide] at HS2
  rw [show stateF [1, 0, 0, 0, 0, 0, 0, 0] = 2 by decide] at HS3
  rw [show sumF [] = 0 by decide] at HSum
  unfold emptyC at HE
  go_enter Try.func10, Try.ntmps10
  go_wp2_with fail
  refine (HS1.out _).mono ?_
  rintro e w1 ⟨v1, rfl, J1, d1, rfl⟩
  go_wp2_with fail
  refine (HE.out _).mono ?_
  rintro e w2 ⟨rfl, rfl⟩
  go_wp2_with fail
  refine (HS2.out _ _ (bin_full (odd_full _ _ (by simp)) rfl (by decide))).mono ?_
  rintro e w3 ⟨v3, rfl, J3, d3, rfl⟩
  go_wp2_with fail
  refine (HS3.out _ _ (bin_full (one_full _ _ (by simp)) rfl (by decide))).mono ?_
  rintro e w4 ⟨v4, rfl, J4, d4, rfl⟩
  go_wp2_with (first
    | (go_at_call 19; refine (HAw.out _).mono ?_; rintro e w5 ⟨rfl, J5, d5, rfl⟩)
    | (go_at_call 15; refine (HSum.out _).mono ?_; rintro e w6 ⟨rfl, J6, d6, rfl⟩))
  go_ret
  exact ⟨rfl, junk_of_below (by (repeat' (first | (with_reducible exact Below.refl _ _) | (with_reducible assumption) | (with_reducible refine Below.alloc ?_ ?_ _) | (with_reducible refine Below.drew ?_) | (with_reducible refine below_drewN ?_ _) | (with_reducible refine below_plus ?_ ?_ _ _) | (with_reducible refine Below.setCell ?_ ?_ _) | (with_reducible refine Below.setRow ?_ ?_ _) | go_size)))⟩
end Go.Proofs.Ytfapldajodobhaa

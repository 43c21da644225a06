/- Contracts of octet's Int and Count. -/
import Derived.Test.YtabjhmblfeoiaaaOcuI
namespace Go.Proofs.Ytabjhmblfeoiaaa
set_option linter.unusedVariables false
set_option linter.unusedSimpArgs false
open Go.RowKit

theorem chk_zero {chk : Int → Int} {L : List UInt8} {p : Int} (h : (chkP chk L p).2.2.1 ≠ 0) : (chkP chk L p).1 = 0 := by
  unfold chkP at h ⊢
  by_cases c1 : (getP L p).2.2.1 ≠ 0
  · rw [if_pos c1]
  · rw [if_neg c1] at h ⊢
    by_cases c2 : chk (getP L p).1 ≠ 0
    · rw [if_pos c2]
    · rw [if_neg c2] at h; exact absurd rfl h

set_option maxHeartbeats 2000000 in
/-- The closure of Int. -/
theorem n_intOne (w : World) (a : Option Addr) (len cap : Nat) (L : List UInt8) (hR : BIn w a len L cap) (p lo hi : Int) (hp : I64 p) (hl : I64 lo) (hh : I64 hi) (b c : Nat) (hb : w.cell? ⟨b, 0, none⟩ = some (.int .i64 lo)) (hc : w.cell? ⟨c, 0, none⟩ = some (.int .i64 hi))
    (r : Int × Int × Int × Int) (hr : Hid (chkP (within lo hi) L p = r)) :
    Calls Try.prog 52 #[.slice a len cap, .int .i64 p, .pointer (some ⟨b, 0, none⟩), .pointer (some ⟨c, 0, none⟩)] w fun e w' => e = .returned (.tuple #[.int .i64 r.1, .int .i64 r.2.1, .agg #[.int .i64 r.2.2.1, .int .i64 r.2.2.2]]) ∧ Junk w w' := by
  have hbl := World.block_lt_of_cell? _ _ hb
  have hcl := World.block_lt_of_cell? _ _ hc
  have HG := Lib.hid (fun W (h : Below w.heap.size w W) => n_getChecked W a len cap L (hR.below h) p hp 54 #[.pointer (some ⟨b, 0, none⟩), .pointer (some ⟨c, 0, none⟩)] (within lo hi) (enters_of Try.func54 (by kernel_rfl) rfl)
    (fun W' n hB hn => n_intCheck b c lo hi n hn hl hh W' (by rw [← hb]; exact (World.cell?_of_block (hB.block b (Nat.lt_of_lt_of_le hbl h.size))).trans (World.cell?_of_block (h.block b hbl)))
      (by rw [← hc]; exact (World.cell?_of_block (hB.block c (Nat.lt_of_lt_of_le hcl h.size))).trans (World.cell?_of_block (h.block c hcl)))) r hr)
  have hmf : ∀ (fn : Fn) (first cap : Array Value) (w : World), (Instr.makeFunc fn first cap).run Try.prog w = .ok (.func fn first cap) w := fun _ _ _ _ => rfl
  obtain ⟨n, q, e, a'⟩ := r
  clear hR hp hl hh hr hb hc
  go_enter Try.func52, Try.ntmps52
  go_wp2_with fail
  refine (HG.out _ (by (repeat' (first | (with_reducible exact Below.refl _ _) | (with_reducible assumption) | (with_reducible refine Below.alloc ?_ ?_ _) | (with_reducible refine Below.drew ?_) | (with_reducible refine below_drewN ?_ _) | (with_reducible refine below_plus ?_ ?_ _ _) | (with_reducible refine Below.setCell ?_ ?_ _) | (with_reducible refine Below.setRow ?_ ?_ _) | go_size)))).mono ?_; rintro e w' ⟨rfl, J, dr, rfl⟩
  go_wp2
  refine bodyPost_ret (results_pf5 rfl _ _ w.heap.size #[.int .i64 e, .int .i64 a'] rfl (by simp [go_sem]) rfl) rfl ⟨rfl, junk_of_below (by (repeat' (first | (with_reducible exact Below.refl _ _) | (with_reducible assumption) | (with_reducible refine Below.alloc ?_ ?_ _) | (with_reducible refine Below.drew ?_) | (with_reducible refine below_drewN ?_ _) | (with_reducible refine below_plus ?_ ?_ _ _) | (with_reducible refine Below.setCell ?_ ?_ _) | (with_reducible refine Below.setRow ?_ ?_ _) | go_size)))⟩

set_option maxHeartbeats 2000000 in
/-- The closure of Count. -/
theorem n_countOne (w : World) (a : Option Addr) (len cap : Nat) (L : List UInt8) (hR : BIn w a len L cap) (p most : Int) (hp : I64 p) (hm : I64 most) (b : Nat) (hb : w.cell? ⟨b, 0, none⟩ = some (.int .i64 most))
    (r : Int × Int × Int × Int) (hr : Hid (chkP (countE most) L p = r)) :
    Calls Try.prog 58 #[.slice a len cap, .int .i64 p, .pointer (some ⟨b, 0, none⟩)] w fun e w' => e = .returned (.tuple #[.int .i64 r.1, .int .i64 r.2.1, .agg #[.int .i64 r.2.2.1, .int .i64 r.2.2.2]]) ∧ Junk w w' := by
  have hbl := World.block_lt_of_cell? _ _ hb
  have HR := Lib.hid hR
  have HG := Lib.hid (fun W (h : BIn W a len L cap) => n_getCount W a len cap L h p most hp hm r hr)
  obtain ⟨n, q, e, a'⟩ := r
  clear hR hp hm hr
  go_enter Try.func58, Try.ntmps58
  go_wp2_with fail
  refine (HG.out _ (HR.out.below (by (repeat' (first | (with_reducible exact Below.refl _ _) | (with_reducible assumption) | (with_reducible refine Below.alloc ?_ ?_ _) | (with_reducible refine Below.drew ?_) | (with_reducible refine below_drewN ?_ _) | (with_reducible refine below_plus ?_ ?_ _ _) | (with_reducible refine Below.setCell ?_ ?_ _) | (with_reducible refine Below.setRow ?_ ?_ _) | go_size))))).mono ?_; rintro e w' ⟨rfl, J, dr, rfl⟩
  go_wp2
  refine bodyPost_ret (results_pf5 rfl _ _ w.heap.size #[.int .i64 e, .int .i64 a'] rfl (by simp [go_sem]) rfl) rfl ⟨rfl, junk_of_below (by (repeat' (first | (with_reducible exact Below.refl _ _) | (with_reducible assumption) | (with_reducible refine Below.alloc ?_ ?_ _) | (with_reducible refine Below.drew ?_) | (with_reducible refine below_drewN ?_ _) | (with_reducible refine below_plus ?_ ?_ _ _) | (with_reducible refine Below.setCell ?_ ?_ _) | (with_reducible refine Below.setRow ?_ ?_ _) | go_size)))⟩

theorem Turned.up {w w1 w' : World} {b : Nat} {c : Array Value} (hb : b < w.heap.size) (hj : Junk w w1) (h : Turned b c w1 w') : Turned b c w w' := by
  obtain ⟨J, d, rfl⟩ := hj
  obtain ⟨K, e, h⟩ := h
  exact ⟨J ++ K, e, by rw [h, setRow_plus _ _ _ _ _ hb, plus_plus]⟩
theorem Turned.more {w w1 w2 : World} {b : Nat} {c : Array Value} (h : Turned b c w w1) (hj : Junk w1 w2) : Turned b c w w2 := by
  obtain ⟨K, e, rfl⟩ := h
  obtain ⟨J, d, rfl⟩ := hj
  exact ⟨K ++ J, d, by rw [plus_plus]⟩
theorem Turned.alloc {w w' : World} {b : Nat} {c : Array Value} {o : Obj} (hb : b < w.heap.size) (h : Turned b c (w.alloc o) w') : Turned b c w w' :=
  Turned.up hb (junk_of_below ((Below.refl _ _).alloc (Nat.le_refl _) _)) h

set_option maxRecDepth 100000 in
set_option maxHeartbeats 4000000 in
theorem n_Int (w : World) (b : Nat) (a : Option Addr) (len cap : Nat) (L : List UInt8) (hR : BIn w a len L cap) (pl e f lo hi : Int) (hp : I64 pl) (hlo : I64 lo) (hhi : I64 hi) (hrow : w.rowAt b = some (ocells b a len cap pl e f))
    (r : Int × Int × Int × Int) (hr : Hid (numR (chkP (within lo hi) L pl) pl e f = r)) :
    Calls Try.prog 32 #[.pointer (some ⟨b, 0, none⟩), .int .i64 lo, .int .i64 hi] w fun e w' => e = .returned (.int .i64 r.1) ∧ Turned b (ocells b a len cap r.2.1 r.2.2.1 r.2.2.2) w w' := by
  have hb : b < w.heap.size := World.block_lt_of_cell? _ _ (ucell_of_row hrow 0)
  obtain ⟨w1, hw1⟩ : ∃ w1, w1 = (w.alloc (.cells #[.int .i64 lo] 3)).alloc (.cells #[.int .i64 hi] 3) := ⟨_, rfl⟩
  have hB1 : Below w.heap.size w w1 := by rw [hw1]; (repeat' (first | (with_reducible exact Below.refl _ _) | (with_reducible assumption) | (with_reducible refine Below.alloc ?_ ?_ _) | (with_reducible refine Below.drew ?_) | (with_reducible refine below_drewN ?_ _) | (with_reducible refine below_plus ?_ ?_ _ _) | (with_reducible refine Below.setCell ?_ ?_ _) | (with_reducible refine Below.setRow ?_ ?_ _) | go_size))
  have h1 : w1.cell? ⟨w.heap.size, 0, none⟩ = some (.int .i64 lo) := by rw [hw1]; simp [go_sem]
  have h2 : w1.cell? ⟨w.heap.size + 1, 0, none⟩ = some (.int .i64 hi) := by rw [hw1]; simp [go_sem]
  have HR := Lib.hid (n_readI w1 b a len cap pl e f 52 #[.pointer (some ⟨w.heap.size, 0, none⟩), .pointer (some ⟨w.heap.size + 1, 0, none⟩)] (chkP (within lo hi) L pl) (by rw [rowAt_of_block (hB1.block b hb)]; exact hrow) (enters_of Try.func52 (by kernel_rfl) rfl)
    (fun W hW => n_intOne W a len cap L (hR.below (hB1.trans (hW.mono hB1.size))) pl lo hi hp hlo hhi w.heap.size (w.heap.size + 1) (by rw [← h1]; exact World.cell?_of_block (hW.block _ (World.block_lt_of_cell? _ _ h1))) (by rw [← h2]; exact World.cell?_of_block (hW.block _ (World.block_lt_of_cell? _ _ h2))) _ (Lib.hid rfl))
    chk_zero r hr)
  have hmf : ∀ (fn : Fn) (first cap : Array Value) (w : World), (Instr.makeFunc fn first cap).run Try.prog w = .ok (.func fn first cap) w := fun _ _ _ _ => rfl
  subst hw1
  obtain ⟨n, q, e1, a'⟩ := r
  clear hR hp hlo hhi hr hrow hB1 h1 h2
  go_enter Try.func32, Try.ntmps32
  go_wp2_with fail
  refine HR.out.mono ?_; rintro e' w' ⟨⟨y, z, rfl⟩, ht⟩
  have HT := Lib.hid ht
  clear ht
  go_wp2
  go_ret
  exact ⟨rfl, (Turned.up hb (junk_of_below (by (repeat' (first | (with_reducible exact Below.refl _ _) | (with_reducible assumption) | (with_reducible refine Below.alloc ?_ ?_ _) | (with_reducible refine Below.drew ?_) | (with_reducible refine below_drewN ?_ _) | (with_reducible refine below_plus ?_ ?_ _ _) | (with_reducible refine Below.setCell ?_ ?_ _) | (with_reducible refine Below.setRow ?_ ?_ _) | go_size)))) HT.out).more (junk_of_below (by (repeat' (first | (with_reducible exact Below.refl _ _) | (with_reducible assumption) | (with_reducible refine Below.alloc ?_ ?_ _) | (with_reducible refine Below.drew ?_) | (with_reducible refine below_drewN ?_ _) | (with_reducible refine below_plus ?_ ?_ _ _) | (with_reducible refine Below.setCell ?_ ?_ _) | (with_reducible refine Below.setRow ?_ ?_ _) | go_size))))⟩

set_option maxRecDepth 100000 in
set_option maxHeartbeats 4000000 in
theorem n_Int_none (w : World) (v : Value) (lo hi : Int) (h : Unmade w v) :
    Calls Try.prog 32 #[v, .int .i64 lo, .int .i64 hi] w fun e w' => e = .returned (.int .i64 0) ∧ Junk w w' := by
  have HR := Lib.hid (fun W one (h : Unmade W v) => n_readI_none W v one h)
  have HU := Lib.hid h
  have hmf : ∀ (fn : Fn) (first cap : Array Value) (w : World), (Instr.makeFunc fn first cap).run Try.prog w = .ok (.func fn first cap) w := fun _ _ _ _ => rfl
  obtain ⟨p, rfl⟩ : ∃ p, v = .pointer p := by
    rcases h with rfl | ⟨b, rfl, _⟩
    · exact ⟨none, rfl⟩
    · exact ⟨_, rfl⟩
  clear h
  go_enter Try.func32, Try.ntmps32
  go_wp2_with fail
  refine (HR.out _ _ (HU.out.below (by (repeat' (first | (with_reducible exact Below.refl _ _) | (with_reducible assumption) | (with_reducible refine Below.alloc ?_ ?_ _) | (with_reducible refine Below.drew ?_) | (with_reducible refine below_drewN ?_ _) | (with_reducible refine below_plus ?_ ?_ _ _) | (with_reducible refine Below.setCell ?_ ?_ _) | (with_reducible refine Below.setRow ?_ ?_ _) | go_size))))).mono ?_; rintro e' w' ⟨rfl, J, dr, rfl⟩
  go_wp2
  go_ret
  exact ⟨rfl, junk_of_below (by (repeat' (first | (with_reducible exact Below.refl _ _) | (with_reducible assumption) | (with_reducible refine Below.alloc ?_ ?_ _) | (with_reducible refine Below.drew ?_) | (with_reducible refine below_drewN ?_ _) | (with_reducible refine below_plus ?_ ?_ _ _) | (with_reducible refine Below.setCell ?_ ?_ _) | (with_reducible refine Below.setRow ?_ ?_ _) | go_size)))⟩

set_option maxRecDepth 100000 in
set_option maxHeartbeats 4000000 in
theorem n_Count (w : World) (b : Nat) (a : Option Addr) (len cap : Nat) (L : List UInt8) (hR : BIn w a len L cap) (pl e f most : Int) (hp : I64 pl) (hm : I64 most) (hrow : w.rowAt b = some (ocells b a len cap pl e f))
    (r : Int × Int × Int × Int) (hr : Hid (numR (chkP (countE most) L pl) pl e f = r)) :
    Calls Try.prog 36 #[.pointer (some ⟨b, 0, none⟩), .int .i64 most] w fun e w' => e = .returned (.int .i64 r.1) ∧ Turned b (ocells b a len cap r.2.1 r.2.2.1 r.2.2.2) w w' := by
  have hb : b < w.heap.size := World.block_lt_of_cell? _ _ (ucell_of_row hrow 0)
  obtain ⟨w1, hw1⟩ : ∃ w1, w1 = w.alloc (.cells #[.int .i64 most] 3) := ⟨_, rfl⟩
  have hB1 : Below w.heap.size w w1 := by rw [hw1]; (repeat' (first | (with_reducible exact Below.refl _ _) | (with_reducible assumption) | (with_reducible refine Below.alloc ?_ ?_ _) | (with_reducible refine Below.drew ?_) | (with_reducible refine below_drewN ?_ _) | (with_reducible refine below_plus ?_ ?_ _ _) | (with_reducible refine Below.setCell ?_ ?_ _) | (with_reducible refine Below.setRow ?_ ?_ _) | go_size))
  have h1 : w1.cell? ⟨w.heap.size, 0, none⟩ = some (.int .i64 most) := by rw [hw1]; simp [go_sem]
  have HR := Lib.hid (n_readI w1 b a len cap pl e f 58 #[.pointer (some ⟨w.heap.size, 0, none⟩)] (chkP (countE most) L pl) (by rw [rowAt_of_block (hB1.block b hb)]; exact hrow) (enters_of Try.func58 (by kernel_rfl) rfl)
    (fun W hW => n_countOne W a len cap L (hR.below (hB1.trans (hW.mono hB1.size))) pl most hp hm w.heap.size (by rw [← h1]; exact World.cell?_of_block (hW.block _ (World.block_lt_of_cell? _ _ h1))) _ (Lib.hid rfl))
    chk_zero r hr)
  have hmf : ∀ (fn : Fn) (first cap : Array Value) (w : World), (Instr.makeFunc fn first cap).run Try.prog w = .ok (.func fn first cap) w := fun _ _ _ _ => rfl
  subst hw1
  obtain ⟨n, q, e1, a'⟩ := r
  clear hR hp hm hr hrow hB1 h1
  go_enter Try.func36, Try.ntmps36
  go_wp2_with fail
  refine HR.out.mono ?_; rintro e' w' ⟨⟨y, z, rfl⟩, ht⟩
  have HT := Lib.hid ht
  clear ht
  go_wp2
  go_ret
  exact ⟨rfl, (Turned.up hb (junk_of_below (by (repeat' (first | (with_reducible exact Below.refl _ _) | (with_reducible assumption) | (with_reducible refine Below.alloc ?_ ?_ _) | (with_reducible refine Below.drew ?_) | (with_reducible refine below_drewN ?_ _) | (with_reducible refine below_plus ?_ ?_ _ _) | (with_reducible refine Below.setCell ?_ ?_ _) | (with_reducible refine Below.setRow ?_ ?_ _) | go_size)))) HT.out).more (junk_of_below (by (repeat' (first | (with_reducible exact Below.refl _ _) | (with_reducible assumption) | (with_reducible refine Below.alloc ?_ ?_ _) | (with_reducible refine Below.drew ?_) | (with_reducible refine below_drewN ?_ _) | (with_reducible refine below_plus ?_ ?_ _ _) | (with_reducible refine Below.setCell ?_ ?_ _) | (with_reducible refine Below.setRow ?_ ?_ _) | go_size))))⟩

set_option maxRecDepth 100000 in
set_option maxHeartbeats 4000000 in
theorem n_Count_none (w : World) (v : Value) (most : Int) (h : Unmade w v) :
    Calls Try.prog 36 #[v, .int .i64 most] w fun e w' => e = .returned (.int .i64 0) ∧ Junk w w' := by
  have HR := Lib.hid (fun W one (h : Unmade W v) => n_readI_none W v one h)
  have HU := Lib.hid h
  have hmf : ∀ (fn : Fn) (first cap : Array Value) (w : World), (Instr.makeFunc fn first cap).run Try.prog w = .ok (.func fn first cap) w := fun _ _ _ _ => rfl
  obtain ⟨p, rfl⟩ : ∃ p, v = .pointer p := by
    rcases h with rfl | ⟨b, rfl, _⟩
    · exact ⟨none, rfl⟩
    · exact ⟨_, rfl⟩
  clear h
  go_enter Try.func36, Try.ntmps36
  go_wp2_with fail
  refine (HR.out _ _ (HU.out.below (by (repeat' (first | (with_reducible exact Below.refl _ _) | (with_reducible assumption) | (with_reducible refine Below.alloc ?_ ?_ _) | (with_reducible refine Below.drew ?_) | (with_reducible refine below_drewN ?_ _) | (with_reducible refine below_plus ?_ ?_ _ _) | (with_reducible refine Below.setCell ?_ ?_ _) | (with_reducible refine Below.setRow ?_ ?_ _) | go_size))))).mono ?_; rintro e' w' ⟨rfl, J, dr, rfl⟩
  go_wp2
  go_ret
  exact ⟨rfl, junk_of_below (by (repeat' (first | (with_reducible exact Below.refl _ _) | (with_reducible assumption) | (with_reducible refine Below.alloc ?_ ?_ _) | (with_reducible refine Below.drew ?_) | (with_reducible refine below_drewN ?_ _) | (with_reducible refine below_plus ?_ ?_ _ _) | (with_reducible refine Below.setCell ?_ ?_ _) | (with_reducible refine Below.setRow ?_ ?_ _) | go_size)))⟩
end Go.Proofs.Ytabjhmblfeoiaaa

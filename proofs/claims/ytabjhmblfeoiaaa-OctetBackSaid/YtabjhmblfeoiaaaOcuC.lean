/- Contracts of octet's checkWithin, getChecked, getCount, getByte. -/
import Derived.Test.YtabjhmblfeoiaaaOcuG
import Derived.Test.YtabjhmblfeoiaaaPlus2
import Derived.Shelf.Abstract
namespace Go.Proofs.Ytabjhmblfeoiaaa
set_option linter.unusedVariables false
set_option linter.unusedSimpArgs false
open Go.RowKit

/-- What a check says of a number within bounds. -/
def within (lo hi n : Int) : Int := if n < lo ∨ hi < n then 5 else 0
/-- What is wrong with a count. -/
def countE (most n : Int) : Int := if most < n then 3 else within 0 most n

theorem n_checkWithin (n lo hi : Int) (hn : I64 n) (hl : I64 lo) (hh : I64 hi) (w : World) : Calls Try.prog 55 #[.int .i64 n, .int .i64 lo, .int .i64 hi] w fun e w' => e = .returned (.int .i64 (within lo hi n)) ∧ Junk w w' := by
  unfold within
  by_cases c1 : n < lo
  · rw [if_pos (.inl c1)]
    go_enter Try.func55, Try.ntmps55
    go_wp2
    go_ret
    exact ⟨rfl, junk_of_below (by (repeat' (first | (with_reducible exact Below.refl _ _) | (with_reducible assumption) | (with_reducible refine Below.alloc ?_ ?_ _) | (with_reducible refine Below.drew ?_) | (with_reducible refine below_drewN ?_ _) | (with_reducible refine below_plus ?_ ?_ _ _) | (with_reducible refine Below.setCell ?_ ?_ _) | (with_reducible refine Below.setRow ?_ ?_ _) | go_size)))⟩
  by_cases c2 : hi < n
  · rw [if_pos (.inr c2)]
    go_enter Try.func55, Try.ntmps55
    go_wp2
    go_ret
    exact ⟨rfl, junk_of_below (by (repeat' (first | (with_reducible exact Below.refl _ _) | (with_reducible assumption) | (with_reducible refine Below.alloc ?_ ?_ _) | (with_reducible refine Below.drew ?_) | (with_reducible refine below_drewN ?_ _) | (with_reducible refine below_plus ?_ ?_ _ _) | (with_reducible refine Below.setCell ?_ ?_ _) | (with_reducible refine Below.setRow ?_ ?_ _) | go_size)))⟩
  · rw [if_neg (by omega)]
    go_enter Try.func55, Try.ntmps55
    go_wp2
    go_ret
    exact ⟨rfl, junk_of_below (by (repeat' (first | (with_reducible exact Below.refl _ _) | (with_reducible assumption) | (with_reducible refine Below.alloc ?_ ?_ _) | (with_reducible refine Below.drew ?_) | (with_reducible refine below_drewN ?_ _) | (with_reducible refine below_plus ?_ ?_ _ _) | (with_reducible refine Below.setCell ?_ ?_ _) | (with_reducible refine Below.setRow ?_ ?_ _) | go_size)))⟩

/-- The check of getCount, over the variable that it captures. -/
theorem n_countCheck (b : Nat) (most n : Int) (hn : I64 n) (hm : I64 most) (w : World) (hc : w.cell? ⟨b, 0, none⟩ = some (.int .i64 most)) :
    Calls Try.prog 64 #[.int .i64 n, .pointer (some ⟨b, 0, none⟩)] w fun e w' => e = .returned (.int .i64 (countE most n)) ∧ Junk w w' := by
  have HC := Lib.hid (fun w => n_checkWithin n 0 most hn ⟨by omega, by omega⟩ hm w)
  have h0 := World.block_lt_of_cell? _ _ hc
  unfold countE
  by_cases c1 : most < n
  · rw [if_pos c1]
    clear hn hm
    go_enter Try.func64, Try.ntmps64
    go_wp2
    go_ret
    exact ⟨rfl, junk_of_below (by (repeat' (first | (with_reducible exact Below.refl _ _) | (with_reducible assumption) | (with_reducible refine Below.alloc ?_ ?_ _) | (with_reducible refine Below.drew ?_) | (with_reducible refine below_drewN ?_ _) | (with_reducible refine below_plus ?_ ?_ _ _) | (with_reducible refine Below.setCell ?_ ?_ _) | (with_reducible refine Below.setRow ?_ ?_ _) | go_size)))⟩
  · rw [if_neg c1]
    clear hn hm
    go_enter Try.func64, Try.ntmps64
    go_wp2_with fail
    refine (HC.out _).mono ?_; rintro e w' ⟨rfl, J, dr, rfl⟩
    go_wp2
    go_ret
    exact ⟨rfl, junk_of_below (by (repeat' (first | (with_reducible exact Below.refl _ _) | (with_reducible assumption) | (with_reducible refine Below.alloc ?_ ?_ _) | (with_reducible refine Below.drew ?_) | (with_reducible refine below_drewN ?_ _) | (with_reducible refine below_plus ?_ ?_ _ _) | (with_reducible refine Below.setCell ?_ ?_ _) | (with_reducible refine Below.setRow ?_ ?_ _) | go_size)))⟩

/-- The check of Int, over the two variables that it captures. -/
theorem n_intCheck (b c : Nat) (lo hi n : Int) (hn : I64 n) (hl : I64 lo) (hh : I64 hi) (w : World) (hb : w.cell? ⟨b, 0, none⟩ = some (.int .i64 lo)) (hc : w.cell? ⟨c, 0, none⟩ = some (.int .i64 hi)) :
    Calls Try.prog 54 #[.int .i64 n, .pointer (some ⟨b, 0, none⟩), .pointer (some ⟨c, 0, none⟩)] w fun e w' => e = .returned (.int .i64 (within lo hi n)) ∧ Junk w w' := by
  have HC := Lib.hid (fun w => n_checkWithin n lo hi hn hl hh w)
  clear hn hl hh
  go_enter Try.func54, Try.ntmps54
  go_wp2_with fail
  refine (HC.out _).mono ?_; rintro e w' ⟨rfl, J, dr, rfl⟩
  go_wp2
  go_ret
  exact ⟨rfl, junk_of_below (by (repeat' (first | (with_reducible exact Below.refl _ _) | (with_reducible assumption) | (with_reducible refine Below.alloc ?_ ?_ _) | (with_reducible refine Below.drew ?_) | (with_reducible refine below_drewN ?_ _) | (with_reducible refine below_plus ?_ ?_ _ _) | (with_reducible refine Below.setCell ?_ ?_ _) | (with_reducible refine Below.setRow ?_ ?_ _) | go_size)))⟩

/-- getChecked: number, place behind, fault, its place. -/
def chkP (chk : Int → Int) (L : List UInt8) (p : Int) : Int × Int × Int × Int :=
  if (getP L p).2.2.1 ≠ 0 then (0, 0, (getP L p).2.2.1, (getP L p).2.2.2)
  else if chk (getP L p).1 ≠ 0 then (0, 0, chk (getP L p).1, p)
  else ((getP L p).1, (getP L p).2.1, 0, 0)

set_option maxRecDepth 100000 in
set_option maxHeartbeats 2000000 in
theorem n_getChecked (w : World) (a : Option Addr) (len cap : Nat) (L : List UInt8) (hR : BIn w a len L cap) (p : Int) (hp : I64 p) (g : Nat) (lb : Array Value) (chk : Int → Int)
    (eg : ∀ args w, (callFunc g args).run Try.prog w = .ok (.enter g args) w)
    (hchk : ∀ W n, Below w.heap.size w W → I64 n → Calls Try.prog g (#[.int .i64 n] ++ lb) W fun e w' => e = .returned (.int .i64 (chk n)) ∧ Junk W w')
    (r : Int × Int × Int × Int) (hr : Hid (chkP chk L p = r)) :
    Calls Try.prog 53 #[.slice a len cap, .int .i64 p, .func (.func g) #[] lb] w fun e w' => e = .returned (.tuple #[.int .i64 r.1, .int .i64 r.2.1, .agg #[.int .i64 r.2.2.1, .int .i64 r.2.2.2]]) ∧ Junk w w' := by
  have HR := Lib.hid hR
  have HCH := Lib.hid hchk
  have hr := hr.out
  unfold chkP at hr
  have HGet := fun w' (h : BIn w' a len L cap) => n_Get w' a len cap L h p hp _ (Lib.hid rfl)
  have hI : (getP L p).2.2.1 = 0 → I64 (getP L p).1 := fun h => by
    generalize hg : getP L p = g at *
    obtain ⟨n, q, e, a⟩ := g
    simp only at h
    subst h
    exact (get_canon hg).1
  generalize getP L p = G at *
  obtain ⟨n, q, e, a'⟩ := G
  have HGet := Lib.hid HGet
  simp only at hr hI
  clear hR hchk hp
  by_cases c2 : e ≠ 0
  · rw [if_pos c2] at hr
    subst hr
    have e2 : (e != 0) = true := bne_iff_ne.2 c2
    clear c2 hI eg
    go_enter Try.func53, Try.ntmps53
    go_wp2_with fail
    refine (HGet.out _ (HR.out.below (by (repeat' (first | (with_reducible exact Below.refl _ _) | (with_reducible assumption) | (with_reducible refine Below.alloc ?_ ?_ _) | (with_reducible refine Below.drew ?_) | (with_reducible refine below_drewN ?_ _) | (with_reducible refine below_plus ?_ ?_ _ _) | (with_reducible refine Below.setCell ?_ ?_ _) | (with_reducible refine Below.setRow ?_ ?_ _) | go_size))))).mono ?_; rintro e w' ⟨rfl, J, dr, rfl⟩
    go_wp2
    go_region
    all_goals go_wp2
    all_goals refine bodyPost_ret (results_pf5 rfl _ _ w.heap.size #[.int .i64 e, .int .i64 a'] rfl (by simp [go_sem]) rfl) rfl ⟨rfl, junk_of_below (by (repeat' (first | (with_reducible exact Below.refl _ _) | (with_reducible assumption) | (with_reducible refine Below.alloc ?_ ?_ _) | (with_reducible refine Below.drew ?_) | (with_reducible refine below_drewN ?_ _) | (with_reducible refine below_plus ?_ ?_ _ _) | (with_reducible refine Below.setCell ?_ ?_ _) | (with_reducible refine Below.setRow ?_ ?_ _) | go_size)))⟩
  obtain rfl : e = 0 := Decidable.of_not_not c2
  rw [if_neg c2] at hr
  have hn := hI rfl
  have HN := Lib.hid hn
  by_cases c3 : chk n ≠ 0
  · rw [if_pos c3] at hr
    subst hr
    have e3 : (chk n != 0) = true := bne_iff_ne.2 c3
    clear c3 c2 hI hn
    go_enter Try.func53, Try.ntmps53
    go_wp2_with fail
    refine (HGet.out _ (HR.out.below (by (repeat' (first | (with_reducible exact Below.refl _ _) | (with_reducible assumption) | (with_reducible refine Below.alloc ?_ ?_ _) | (with_reducible refine Below.drew ?_) | (with_reducible refine below_drewN ?_ _) | (with_reducible refine below_plus ?_ ?_ _ _) | (with_reducible refine Below.setCell ?_ ?_ _) | (with_reducible refine Below.setRow ?_ ?_ _) | go_size))))).mono ?_; rintro e w' ⟨rfl, J, dr, rfl⟩
    go_wp2_with fail
    refine (HCH.out _ n (by (repeat' (first | (with_reducible exact Below.refl _ _) | (with_reducible assumption) | (with_reducible refine Below.alloc ?_ ?_ _) | (with_reducible refine Below.drew ?_) | (with_reducible refine below_drewN ?_ _) | (with_reducible refine below_plus ?_ ?_ _ _) | (with_reducible refine Below.setCell ?_ ?_ _) | (with_reducible refine Below.setRow ?_ ?_ _) | go_size))) HN.out).mono ?_; rintro e w' ⟨rfl, J2, dr2, rfl⟩
    go_wp2
    refine bodyPost_ret (results_pf5 rfl _ _ w.heap.size #[.int .i64 (chk n), .int .i64 p] rfl (by simp [go_sem]) rfl) rfl ⟨rfl, junk_of_below (by (repeat' (first | (with_reducible exact Below.refl _ _) | (with_reducible assumption) | (with_reducible refine Below.alloc ?_ ?_ _) | (with_reducible refine Below.drew ?_) | (with_reducible refine below_drewN ?_ _) | (with_reducible refine below_plus ?_ ?_ _ _) | (with_reducible refine Below.setCell ?_ ?_ _) | (with_reducible refine Below.setRow ?_ ?_ _) | go_size)))⟩
  · rw [if_neg c3] at hr
    subst hr
    have e3 : (chk n != 0) = false := by simpa using c3
    clear c3 c2 hI hn
    go_enter Try.func53, Try.ntmps53
    go_wp2_with fail
    refine (HGet.out _ (HR.out.below (by (repeat' (first | (with_reducible exact Below.refl _ _) | (with_reducible assumption) | (with_reducible refine Below.alloc ?_ ?_ _) | (with_reducible refine Below.drew ?_) | (with_reducible refine below_drewN ?_ _) | (with_reducible refine below_plus ?_ ?_ _ _) | (with_reducible refine Below.setCell ?_ ?_ _) | (with_reducible refine Below.setRow ?_ ?_ _) | go_size))))).mono ?_; rintro e w' ⟨rfl, J, dr, rfl⟩
    go_wp2_with fail
    refine (HCH.out _ n (by (repeat' (first | (with_reducible exact Below.refl _ _) | (with_reducible assumption) | (with_reducible refine Below.alloc ?_ ?_ _) | (with_reducible refine Below.drew ?_) | (with_reducible refine below_drewN ?_ _) | (with_reducible refine below_plus ?_ ?_ _ _) | (with_reducible refine Below.setCell ?_ ?_ _) | (with_reducible refine Below.setRow ?_ ?_ _) | go_size))) HN.out).mono ?_; rintro e w' ⟨rfl, J2, dr2, rfl⟩
    go_wp2
    refine bodyPost_ret (results_pf5 rfl _ _ w.heap.size #[.int .i64 0, .int .i64 0] rfl (by simp [go_sem]) rfl) rfl ⟨rfl, junk_of_below (by (repeat' (first | (with_reducible exact Below.refl _ _) | (with_reducible assumption) | (with_reducible refine Below.alloc ?_ ?_ _) | (with_reducible refine Below.drew ?_) | (with_reducible refine below_drewN ?_ _) | (with_reducible refine below_plus ?_ ?_ _ _) | (with_reducible refine Below.setCell ?_ ?_ _) | (with_reducible refine Below.setRow ?_ ?_ _) | go_size)))⟩

theorem count_len {L : List UInt8} {p most : Int} (h : 0 ≤ most) : chkP (countE most) L p = lenP L p most := by
  unfold chkP lenP countE within
  generalize getP L p = G
  obtain ⟨n, q, e, a⟩ := G
  simp only
  rw [if_neg (show ¬ most < 0 by omega)]
  by_cases c1 : e ≠ 0
  · rw [if_pos c1, if_pos c1]
  rw [if_neg c1, if_neg c1]
  by_cases c2 : most < n
  · rw [if_pos c2, if_neg (show ¬ n < 0 by omega), if_pos c2]; rfl
  · rw [if_neg c2, if_neg c2]
    by_cases c3 : n < 0
    · rw [if_pos c3, if_pos (Or.inl c3)]; rfl
    · rw [if_neg c3, if_neg (show ¬ (n < 0 ∨ most < n) by omega)]; rfl

set_option maxRecDepth 100000 in
set_option maxHeartbeats 2000000 in
theorem n_getCount (w : World) (a : Option Addr) (len cap : Nat) (L : List UInt8) (hR : BIn w a len L cap) (p most : Int) (hp : I64 p) (hm : I64 most) (r : Int × Int × Int × Int) (hr : Hid (chkP (countE most) L p = r)) :
    Calls Try.prog 59 #[.slice a len cap, .int .i64 p, .int .i64 most] w fun e w' => e = .returned (.tuple #[.int .i64 r.1, .int .i64 r.2.1, .agg #[.int .i64 r.2.2.1, .int .i64 r.2.2.2]]) ∧ Junk w w' := by
  have HR := Lib.hid hR
  have HG := Lib.hid (fun W (h : BIn W a len L cap) b (hb : W.cell? ⟨b, 0, none⟩ = some (.int .i64 most)) => n_getChecked W a len cap L h p hp 64 #[.pointer (some ⟨b, 0, none⟩)] (countE most) (enters_of Try.func64 (by kernel_rfl) rfl)
    (fun W' n hB hn => n_countCheck b most n hn hm W' (by rw [← hb]; exact World.cell?_of_block (hB.block b (World.block_lt_of_cell? _ _ hb)))) r hr)
  have hmf : ∀ (fn : Fn) (first cap : Array Value) (w : World), (Instr.makeFunc fn first cap).run Try.prog w = .ok (.func fn first cap) w := fun _ _ _ _ => rfl
  obtain ⟨n, q, e, a'⟩ := r
  clear hR hp hm hr
  go_enter Try.func59, Try.ntmps59
  go_wp2_with fail
  refine (HG.out _ (HR.out.below (by (repeat' (first | (with_reducible exact Below.refl _ _) | (with_reducible assumption) | (with_reducible refine Below.alloc ?_ ?_ _) | (with_reducible refine Below.drew ?_) | (with_reducible refine below_drewN ?_ _) | (with_reducible refine below_plus ?_ ?_ _ _) | (with_reducible refine Below.setCell ?_ ?_ _) | (with_reducible refine Below.setRow ?_ ?_ _) | go_size)))) w.heap.size (by simp [go_sem])).mono ?_; rintro e w' ⟨rfl, J, dr, rfl⟩
  go_wp2
  refine bodyPost_ret (results_pf5 rfl _ _ (w.heap.size + 1) #[.int .i64 e, .int .i64 a'] rfl (by simp [go_sem]) rfl) rfl ⟨rfl, junk_of_below (by (repeat' (first | (with_reducible exact Below.refl _ _) | (with_reducible assumption) | (with_reducible refine Below.alloc ?_ ?_ _) | (with_reducible refine Below.drew ?_) | (with_reducible refine below_drewN ?_ _) | (with_reducible refine below_plus ?_ ?_ _ _) | (with_reducible refine Below.setCell ?_ ?_ _) | (with_reducible refine Below.setRow ?_ ?_ _) | go_size)))⟩

/-- getByte: byte, place behind, fault, its place. -/
def byteP (L : List UInt8) (p : Nat) : Nat × Int × Int × Int := if p = L.length then (0, 0, 4, p) else (byteAt L p, p + 1, 0, 0)

set_option maxRecDepth 100000 in
theorem n_getByte (w : World) (a : Option Addr) (len cap : Nat) (L : List UInt8) (hR : BIn w a len L cap) (p : Nat) (hp : p ≤ L.length) (r : Nat × Int × Int × Int) (hr : Hid (byteP L p = r)) :
    Calls Try.prog 47 #[.slice a len cap, .int .i64 (p : Int)] w fun e w' => e = .returned (.tuple #[.int .u8 (r.1 : Int), .int .i64 r.2.1, .agg #[.int .i64 r.2.2.1, .int .i64 r.2.2.2]]) ∧ Junk w w' := by
  obtain ⟨⟨hL, hc⟩, hn, hsm, hroom⟩ := hR
  subst hL
  have hr := hr.out
  unfold byteP at hr
  by_cases c1 : p = L.length
  · rw [if_pos c1] at hr
    subst hr
    subst c1
    clear hc hn
    go_enter Try.func47, Try.ntmps47
    go_wp2
    refine bodyPost_ret (results_pf5 rfl _ _ w.heap.size #[.int .i64 4, .int .i64 L.length] rfl (by simp [go_sem]) rfl) rfl ⟨rfl, junk_of_below (by (repeat' (first | (with_reducible exact Below.refl _ _) | (with_reducible assumption) | (with_reducible refine Below.alloc ?_ ?_ _) | (with_reducible refine Below.drew ?_) | (with_reducible refine below_drewN ?_ _) | (with_reducible refine below_plus ?_ ?_ _ _) | (with_reducible refine Below.setCell ?_ ?_ _) | (with_reducible refine Below.setRow ?_ ?_ _) | go_size)))⟩
  · rw [if_neg c1] at hr
    subst hr
    have hlt : p < L.length := by omega
    obtain ⟨b, off, rfl, hcell⟩ : ∃ b off, a = some ⟨b, off, none⟩ ∧ ∀ i, i < L.length → w.cell? ⟨b, off + i, none⟩ = some (.int .u8 (byteAt L i)) := by
      rcases hc with h | h
      · omega
      · exact h
    have hcl := hcell p hlt
    have hbs := World.block_lt_of_cell? _ _ hcl
    have hcl2 : (w.alloc (.cells #[.int .i64 0, .int .i64 0] 36)).cell? ⟨b, off + p, none⟩ = some (.int .u8 (byteAt L p)) := by rw [← hcl]; exact World.cell?_of_block (((Below.refl w.heap.size w).alloc (Nat.le_refl _) _).block b hbs)
    have hb256 := byte_lt L p
    have e1 : ((p : Int) == (L.length : Int)) = false := beq_eq_false_iff_ne.2 (by omega)
    have hpl : (p : Int) < (L.length : Int) := by omega
    generalize byteAt L p = c at *
    clear hcell hn hcl hc
    go_enter Try.func47, Try.ntmps47
    go_wp2
    refine bodyPost_ret (results_pf5 rfl _ _ w.heap.size #[.int .i64 0, .int .i64 0] rfl (by simp [go_sem]) rfl) rfl ⟨rfl, junk_of_below (by (repeat' (first | (with_reducible exact Below.refl _ _) | (with_reducible assumption) | (with_reducible refine Below.alloc ?_ ?_ _) | (with_reducible refine Below.drew ?_) | (with_reducible refine below_drewN ?_ _) | (with_reducible refine below_plus ?_ ?_ _ _) | (with_reducible refine Below.setCell ?_ ?_ _) | (with_reducible refine Below.setRow ?_ ?_ _) | go_size)))⟩
end Go.Proofs.Ytabjhmblfeoiaaa

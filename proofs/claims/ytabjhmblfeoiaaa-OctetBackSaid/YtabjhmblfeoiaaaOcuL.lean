/- Contracts of octet's Text. -/
import Derived.Test.YtabjhmblfeoiaaaOcuJ
import Derived.Test.YtabjhmblfeoiaaaOcuK
import Derived.Test.YtabjhmblfeoiaaaOcuD
namespace Go.Proofs.Ytabjhmblfeoiaaa
set_option linter.unusedVariables false
set_option linter.unusedSimpArgs false
open Go.RowKit

theorem txt_zero {L : List UInt8} {p most : Int} (h : (textP L p most).2.2.1 ≠ 0) : (textP L p most).1 = [] := by
  unfold textP at h ⊢
  by_cases c1 : (lenP L p most).2.2.1 ≠ 0
  · rw [if_pos c1]
  · rw [if_neg c1] at h ⊢
    by_cases c2 : (L.length : Int) - (lenP L p most).2.1 < (lenP L p most).1
    · rw [if_pos c2]
    · rw [if_neg c2] at h; exact absurd rfl h

set_option maxHeartbeats 2000000 in
/-- The closure of Text. -/
theorem n_textOne (w : World) (a : Option Addr) (len cap : Nat) (L : List UInt8) (hR : BIn w a len L cap) (p most : Int) (hp : I64 p) (hm : I64 most) (b : Nat) (hb : w.cell? ⟨b, 0, none⟩ = some (.int .i64 most))
    (r : List UInt8 × Int × Int × Int) (hr : Hid (textP L p most = r)) :
    Calls Try.prog 57 #[.slice a len cap, .int .i64 p, .pointer (some ⟨b, 0, none⟩)] w fun e w' => e = .returned (.tuple #[.string ⟨r.1.toArray⟩, .int .i64 r.2.1, .agg #[.int .i64 r.2.2.1, .int .i64 r.2.2.2]]) ∧ Junk w w' := by
  have hbl := World.block_lt_of_cell? _ _ hb
  have HR := Lib.hid hR
  have HG := Lib.hid (fun W (h : BIn W a len L cap) => n_GetText W a len cap L h p most hp hm r hr)
  obtain ⟨n, q, e, a'⟩ := r
  clear hR hp hm hr
  go_enter Try.func57, Try.ntmps57
  go_wp2_with fail
  refine (HG.out _ (HR.out.below (by (repeat' (first | (with_reducible exact Below.refl _ _) | (with_reducible assumption) | (with_reducible refine Below.alloc ?_ ?_ _) | (with_reducible refine Below.drew ?_) | (with_reducible refine below_drewN ?_ _) | (with_reducible refine below_plus ?_ ?_ _ _) | (with_reducible refine Below.setCell ?_ ?_ _) | (with_reducible refine Below.setRow ?_ ?_ _) | go_size))))).mono ?_; rintro e w' ⟨rfl, J, dr, rfl⟩
  go_wp2
  refine bodyPost_ret (results_pf5 rfl _ _ w.heap.size #[.int .i64 e, .int .i64 a'] rfl (by simp [go_sem]) rfl) rfl ⟨rfl, junk_of_below (by (repeat' (first | (with_reducible exact Below.refl _ _) | (with_reducible assumption) | (with_reducible refine Below.alloc ?_ ?_ _) | (with_reducible refine Below.drew ?_) | (with_reducible refine below_drewN ?_ _) | (with_reducible refine below_plus ?_ ?_ _ _) | (with_reducible refine Below.setCell ?_ ?_ _) | (with_reducible refine Below.setRow ?_ ?_ _) | go_size)))⟩

set_option maxRecDepth 100000 in
set_option maxHeartbeats 4000000 in
theorem n_Text (w : World) (b : Nat) (a : Option Addr) (len cap : Nat) (L : List UInt8) (hR : BIn w a len L cap) (pl e f most : Int) (hp : I64 pl) (hm : I64 most) (hrow : w.rowAt b = some (ocells b a len cap pl e f))
    (r : List UInt8 × Int × Int × Int) (hr : Hid (txtR (textP L pl most) pl e f = r)) :
    Calls Try.prog 34 #[.pointer (some ⟨b, 0, none⟩), .int .i64 most] w fun e w' => e = .returned (.string ⟨r.1.toArray⟩) ∧ Turned b (ocells b a len cap r.2.1 r.2.2.1 r.2.2.2) w w' := by
  have hb : b < w.heap.size := World.block_lt_of_cell? _ _ (ucell_of_row hrow 0)
  obtain ⟨w1, hw1⟩ : ∃ w1, w1 = w.alloc (.cells #[.int .i64 most] 3) := ⟨_, rfl⟩
  have hB1 : Below w.heap.size w w1 := by rw [hw1]; (repeat' (first | (with_reducible exact Below.refl _ _) | (with_reducible assumption) | (with_reducible refine Below.alloc ?_ ?_ _) | (with_reducible refine Below.drew ?_) | (with_reducible refine below_drewN ?_ _) | (with_reducible refine below_plus ?_ ?_ _ _) | (with_reducible refine Below.setCell ?_ ?_ _) | (with_reducible refine Below.setRow ?_ ?_ _) | go_size))
  have h1 : w1.cell? ⟨w.heap.size, 0, none⟩ = some (.int .i64 most) := by rw [hw1]; simp [go_sem]
  have HR := Lib.hid (n_readT w1 b a len cap pl e f 57 #[.pointer (some ⟨w.heap.size, 0, none⟩)] (textP L pl most) (by rw [rowAt_of_block (hB1.block b hb)]; exact hrow) (enters_of Try.func57 (by kernel_rfl) rfl)
    (fun W hW => n_textOne W a len cap L (hR.below (hB1.trans (hW.mono hB1.size))) pl most hp hm w.heap.size (by rw [← h1]; exact World.cell?_of_block (hW.block _ (World.block_lt_of_cell? _ _ h1))) _ (Lib.hid rfl))
    txt_zero r hr)
  have hmf : ∀ (fn : Fn) (first cap : Array Value) (w : World), (Instr.makeFunc fn first cap).run Try.prog w = .ok (.func fn first cap) w := fun _ _ _ _ => rfl
  subst hw1
  obtain ⟨n, q, e1, a'⟩ := r
  clear hR hp hm hr hrow hB1 h1
  go_enter Try.func34, Try.ntmps34
  go_wp2_with fail
  refine HR.out.mono ?_; rintro e' w' ⟨⟨y, z, rfl⟩, ht⟩
  have HT := Lib.hid ht
  clear ht
  go_wp2
  go_ret
  exact ⟨rfl, (Turned.up hb (junk_of_below (by (repeat' (first | (with_reducible exact Below.refl _ _) | (with_reducible assumption) | (with_reducible refine Below.alloc ?_ ?_ _) | (with_reducible refine Below.drew ?_) | (with_reducible refine below_drewN ?_ _) | (with_reducible refine below_plus ?_ ?_ _ _) | (with_reducible refine Below.setCell ?_ ?_ _) | (with_reducible refine Below.setRow ?_ ?_ _) | go_size)))) HT.out).more (junk_of_below (by (repeat' (first | (with_reducible exact Below.refl _ _) | (with_reducible assumption) | (with_reducible refine Below.alloc ?_ ?_ _) | (with_reducible refine Below.drew ?_) | (with_reducible refine below_drewN ?_ _) | (with_reducible refine below_plus ?_ ?_ _ _) | (with_reducible refine Below.setCell ?_ ?_ _) | (with_reducible refine Below.setRow ?_ ?_ _) | go_size))))⟩

set_option maxRecDepth 100000 in
set_option maxHeartbeats 4000000 in
theorem n_Text_none (w : World) (v : Value) (most : Int) (h : Unmade w v) :
    Calls Try.prog 34 #[v, .int .i64 most] w fun e w' => e = .returned (.string ⟨#[]⟩) ∧ Junk w w' := by
  have HR := Lib.hid (fun W one (h : Unmade W v) => n_readT_none W v one h)
  have HU := Lib.hid h
  have hmf : ∀ (fn : Fn) (first cap : Array Value) (w : World), (Instr.makeFunc fn first cap).run Try.prog w = .ok (.func fn first cap) w := fun _ _ _ _ => rfl
  obtain ⟨p, rfl⟩ : ∃ p, v = .pointer p := by
    rcases h with rfl | ⟨b, rfl, _⟩
    · exact ⟨none, rfl⟩
    · exact ⟨_, rfl⟩
  clear h
  go_enter Try.func34, Try.ntmps34
  go_wp2_with fail
  refine (HR.out _ _ (HU.out.below (by (repeat' (first | (with_reducible exact Below.refl _ _) | (with_reducible assumption) | (with_reducible refine Below.alloc ?_ ?_ _) | (with_reducible refine Below.drew ?_) | (with_reducible refine below_drewN ?_ _) | (with_reducible refine below_plus ?_ ?_ _ _) | (with_reducible refine Below.setCell ?_ ?_ _) | (with_reducible refine Below.setRow ?_ ?_ _) | go_size))))).mono ?_; rintro e' w' ⟨rfl, J, dr, rfl⟩
  go_wp2
  go_ret
  exact ⟨rfl, junk_of_below (by (repeat' (first | (with_reducible exact Below.refl _ _) | (with_reducible assumption) | (with_reducible refine Below.alloc ?_ ?_ _) | (with_reducible refine Below.drew ?_) | (with_reducible refine below_drewN ?_ _) | (with_reducible refine below_plus ?_ ?_ _ _) | (with_reducible refine Below.setCell ?_ ?_ _) | (with_reducible refine Below.setRow ?_ ?_ _) | go_size)))⟩
end Go.Proofs.Ytabjhmblfeoiaaa

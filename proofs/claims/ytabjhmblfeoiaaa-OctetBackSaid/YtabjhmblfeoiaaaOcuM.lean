/- Contracts of octet's isMade, At, Fault, End, New. -/
import Derived.Test.YtabjhmblfeoiaaaOcuQ
import Derived.Test.YtabjhmblfeoiaaaOcuS
import Derived.Test.YtabjhmblfeoiaaaOctK
import Derived.LaidEqlPtr
import Derived.Lib.SliceRun
namespace Go.Proofs.Ytabjhmblfeoiaaa
set_option linter.unusedVariables false
set_option linter.unusedSimpArgs false
open Go.RowKit

/-- The cells of a reader that New made. -/
def ocells (b : Nat) (a : Option Addr) (len cap : Nat) (pl e f : Int) : Array Value := #[.pointer (some ⟨b, 0, none⟩), .slice a len cap, .int .i64 pl, .int .i64 e, .int .i64 f]
/-- A reader that is none. -/
def Unmade (w : World) (v : Value) : Prop := v = .pointer none ∨ ∃ b, v = .pointer (some ⟨b, 0, none⟩) ∧ w.rowAt b = some #[.pointer none, .slice none 0 0, .int .i64 0, .int .i64 0, .int .i64 0]
theorem Unmade.below {w w' : World} {v : Value} (h : Unmade w v) (hb : Below w.heap.size w w') : Unmade w' v := by
  rcases h with h | ⟨b, hv, h⟩
  · exact .inl h
  · have := World.block_lt_of_cell? _ _ (ucell_of_row h 0)
    exact .inr ⟨b, hv, by rw [rowAt_of_block (hb.block b this)]; exact h⟩

theorem eql_self (w : World) (a : Addr) : (binOp .eql 45 (.pointer (some a)) (.pointer (some a))).run Try.prog w = .ok (.bool true) w := by
  have h : (Try.prog.info? 59).isSome = true := by kernel_rfl
  obtain ⟨j, hj⟩ := Option.isSome_iff_exists.1 h
  exact run_eql_ptr_same w a Try.underlying45 hj
theorem eql_none (w : World) (a : Addr) : (binOp .eql 45 (.pointer none) (.pointer (some a))).run Try.prog w = .ok (.bool false) w := by
  have h : ∀ d : Nat, (Op.equalIn (d + 1) 45 (.pointer none) (.pointer (some a))).run Try.prog w = .ok false w := fun d => by
    simp [Op.equalIn, run_underlying Try.underlying45]
  simp only [binOp]
  simp [Op.equal, Op.maxDepth, h 9999]

theorem n_isMade (w : World) (b : Nat) (a : Option Addr) (len cap : Nat) (pl e f : Int) (hrow : w.rowAt b = some (ocells b a len cap pl e f)) :
    Calls Try.prog 60 #[.pointer (some ⟨b, 0, none⟩)] w fun e w' => e = .returned (.bool true) ∧ Junk w w' := by
  have c0 := ucell_of_row hrow 0
  have f0 := ufrozen_of_row hrow
  have hb := World.block_lt_of_cell? _ _ c0
  simp [ocells] at c0
  have hpe := eql_self
  clear hrow
  go_enter Try.func60, Try.ntmps60
  go_wp2
  go_ret
  exact ⟨rfl, junk_of_below (by (repeat' (first | (with_reducible exact Below.refl _ _) | (with_reducible assumption) | (with_reducible refine Below.alloc ?_ ?_ _) | (with_reducible refine Below.drew ?_) | (with_reducible refine below_drewN ?_ _) | (with_reducible refine below_plus ?_ ?_ _ _) | (with_reducible refine Below.setCell ?_ ?_ _) | (with_reducible refine Below.setRow ?_ ?_ _) | go_size)))⟩
theorem n_isMade_none (w : World) (v : Value) (h : Unmade w v) :
    Calls Try.prog 60 #[v] w fun e w' => e = .returned (.bool false) ∧ Junk w w' := by
  rcases h with rfl | ⟨b, rfl, hrow⟩
  · go_enter Try.func60, Try.ntmps60
    go_wp2
    go_ret
    exact ⟨rfl, junk_of_below (by (repeat' (first | (with_reducible exact Below.refl _ _) | (with_reducible assumption) | (with_reducible refine Below.alloc ?_ ?_ _) | (with_reducible refine Below.drew ?_) | (with_reducible refine below_drewN ?_ _) | (with_reducible refine below_plus ?_ ?_ _ _) | (with_reducible refine Below.setCell ?_ ?_ _) | (with_reducible refine Below.setRow ?_ ?_ _) | go_size)))⟩
  · have c0 := ucell_of_row hrow 0
    have f0 := ufrozen_of_row hrow
    have hb := World.block_lt_of_cell? _ _ c0
    simp at c0
    have hpe := eql_none
    clear hrow
    go_enter Try.func60, Try.ntmps60
    go_wp2
    go_ret
    exact ⟨rfl, junk_of_below (by (repeat' (first | (with_reducible exact Below.refl _ _) | (with_reducible assumption) | (with_reducible refine Below.alloc ?_ ?_ _) | (with_reducible refine Below.drew ?_) | (with_reducible refine below_drewN ?_ _) | (with_reducible refine below_plus ?_ ?_ _ _) | (with_reducible refine Below.setCell ?_ ?_ _) | (with_reducible refine Below.setRow ?_ ?_ _) | go_size)))⟩

theorem n_At (w : World) (b : Nat) (a : Option Addr) (len cap : Nat) (pl e f : Int) (hrow : w.rowAt b = some (ocells b a len cap pl e f)) :
    Calls Try.prog 40 #[.pointer (some ⟨b, 0, none⟩)] w fun e w' => e = .returned (.int .i64 pl) ∧ Junk w w' := by
  have HM := Lib.hid (n_isMade w b a len cap pl e f hrow)
  have c2 := ucell_of_row hrow 2
  have f0 := ufrozen_of_row hrow
  have hb := World.block_lt_of_cell? _ _ c2
  simp [ocells] at c2
  clear hrow
  go_enter Try.func40, Try.ntmps40
  go_wp2_with fail
  refine HM.out.mono ?_; rintro e w' ⟨rfl, J, dr, rfl⟩
  go_wp2
  go_ret
  exact ⟨rfl, junk_of_below (by (repeat' (first | (with_reducible exact Below.refl _ _) | (with_reducible assumption) | (with_reducible refine Below.alloc ?_ ?_ _) | (with_reducible refine Below.drew ?_) | (with_reducible refine below_drewN ?_ _) | (with_reducible refine below_plus ?_ ?_ _ _) | (with_reducible refine Below.setCell ?_ ?_ _) | (with_reducible refine Below.setRow ?_ ?_ _) | go_size)))⟩
theorem n_At_none (w : World) (v : Value) (h : Unmade w v) :
    Calls Try.prog 40 #[v] w fun e w' => e = .returned (.int .i64 0) ∧ Junk w w' := by
  have HM := Lib.hid (n_isMade_none w v h)
  clear h
  go_enter Try.func40, Try.ntmps40
  go_wp2_with fail
  refine HM.out.mono ?_; rintro e w' ⟨rfl, J, dr, rfl⟩
  go_wp2
  go_ret
  exact ⟨rfl, junk_of_below (by (repeat' (first | (with_reducible exact Below.refl _ _) | (with_reducible assumption) | (with_reducible refine Below.alloc ?_ ?_ _) | (with_reducible refine Below.drew ?_) | (with_reducible refine below_drewN ?_ _) | (with_reducible refine below_plus ?_ ?_ _ _) | (with_reducible refine Below.setCell ?_ ?_ _) | (with_reducible refine Below.setRow ?_ ?_ _) | go_size)))⟩

theorem n_Fault (w : World) (b : Nat) (a : Option Addr) (len cap : Nat) (pl e f : Int) (hrow : w.rowAt b = some (ocells b a len cap pl e f)) :
    Calls Try.prog 41 #[.pointer (some ⟨b, 0, none⟩)] w fun e' w' => e' = .returned (.agg #[.int .i64 e, .int .i64 f]) ∧ Junk w w' := by
  have hb := World.block_lt_of_cell? _ _ (ucell_of_row hrow 0)
  have HM := Lib.hid (n_isMade (w.alloc (.cells #[.int .i64 0, .int .i64 0] 36)) b a len cap pl e f (by rw [rowAt_alloc_past _ _ _ hb]; exact hrow))
  have c3 := ucell_of_row hrow 3
  have c4 := ucell_of_row hrow 4
  have f0 := ufrozen_of_row hrow
  simp [ocells] at c3 c4
  clear hrow
  go_enter Try.func41, Try.ntmps41
  go_wp2_with fail
  refine HM.out.mono ?_; rintro e w' ⟨rfl, J, dr, rfl⟩
  go_wp2
  refine bodyPost_ret (results_f1 rfl _ _ w.heap.size #[.int .i64 e, .int .i64 f] rfl (by simp [go_sem]) rfl) rfl ⟨rfl, junk_of_below (by (repeat' (first | (with_reducible exact Below.refl _ _) | (with_reducible assumption) | (with_reducible refine Below.alloc ?_ ?_ _) | (with_reducible refine Below.drew ?_) | (with_reducible refine below_drewN ?_ _) | (with_reducible refine below_plus ?_ ?_ _ _) | (with_reducible refine Below.setCell ?_ ?_ _) | (with_reducible refine Below.setRow ?_ ?_ _) | go_size)))⟩
theorem n_Fault_none (w : World) (v : Value) (h : Unmade w v) :
    Calls Try.prog 41 #[v] w fun e' w' => e' = .returned (.agg #[.int .i64 1, .int .i64 0]) ∧ Junk w w' := by
  have HM := Lib.hid (n_isMade_none (w.alloc (.cells #[.int .i64 0, .int .i64 0] 36)) v (h.below (by (repeat' (first | (with_reducible exact Below.refl _ _) | (with_reducible assumption) | (with_reducible refine Below.alloc ?_ ?_ _) | (with_reducible refine Below.drew ?_) | (with_reducible refine below_drewN ?_ _) | (with_reducible refine below_plus ?_ ?_ _ _) | (with_reducible refine Below.setCell ?_ ?_ _) | (with_reducible refine Below.setRow ?_ ?_ _) | go_size)))))
  clear h
  go_enter Try.func41, Try.ntmps41
  go_wp2_with fail
  refine HM.out.mono ?_; rintro e w' ⟨rfl, J, dr, rfl⟩
  go_wp2
  refine bodyPost_ret (results_f1 rfl _ _ w.heap.size #[.int .i64 1, .int .i64 0] rfl (by simp [go_sem]) rfl) rfl ⟨rfl, junk_of_below (by (repeat' (first | (with_reducible exact Below.refl _ _) | (with_reducible assumption) | (with_reducible refine Below.alloc ?_ ?_ _) | (with_reducible refine Below.drew ?_) | (with_reducible refine below_drewN ?_ _) | (with_reducible refine below_plus ?_ ?_ _ _) | (with_reducible refine Below.setCell ?_ ?_ _) | (with_reducible refine Below.setRow ?_ ?_ _) | go_size)))⟩

set_option maxRecDepth 100000 in
set_option maxHeartbeats 4000000 in
theorem n_End (w : World) (b : Nat) (a : Option Addr) (len cap : Nat) (L : List UInt8) (hL : L.length = len) (hs : len ≤ 1099511627776) (pl e f : Int) (hrow : w.rowAt b = some (ocells b a len cap pl e f))
    (r : Int × Int) (hr : Hid (endR L pl e f = r)) :
    Calls Try.prog 38 #[.pointer (some ⟨b, 0, none⟩)] w fun e w' => e = .returned (.agg #[.int .i64 r.1, .int .i64 r.2]) ∧ Junk w w' := by
  have hb := World.block_lt_of_cell? _ _ (ucell_of_row hrow 0)
  have HM := Lib.hid (n_Fault (w.alloc (.cells #[.int .i64 0, .int .i64 0] 36)) b a len cap pl e f (by rw [rowAt_alloc_past _ _ _ hb]; exact hrow))
  have hr := hr.out
  unfold endR at hr
  have c1 := ucell_of_row hrow 1
  have c2 := ucell_of_row hrow 2
  have c3 := ucell_of_row hrow 3
  have c4 := ucell_of_row hrow 4
  have f0 := ufrozen_of_row hrow
  simp [ocells] at c1 c2 c3 c4
  clear hrow
  subst hL
  by_cases he : e = 0
  · subst he
    by_cases hl : pl < (L.length : Int)
    · rw [if_pos ⟨rfl, hl⟩] at hr
      subst hr
      go_enter Try.func38, Try.ntmps38
      go_wp2_with fail
      refine HM.out.mono ?_; rintro e w' ⟨rfl, J, dr, rfl⟩
      go_wp2
      go_region
      all_goals go_wp2
      all_goals refine bodyPost_ret (results_f1 rfl _ _ w.heap.size #[.int .i64 4, .int .i64 pl] rfl (by simp [go_sem]) rfl) rfl ⟨rfl, junk_of_below (by (repeat' (first | (with_reducible exact Below.refl _ _) | (with_reducible assumption) | (with_reducible refine Below.alloc ?_ ?_ _) | (with_reducible refine Below.drew ?_) | (with_reducible refine below_drewN ?_ _) | (with_reducible refine below_plus ?_ ?_ _ _) | (with_reducible refine Below.setCell ?_ ?_ _) | (with_reducible refine Below.setRow ?_ ?_ _) | go_size)))⟩
    · rw [if_neg (fun h => hl h.2)] at hr
      subst hr
      go_enter Try.func38, Try.ntmps38
      go_wp2_with fail
      refine HM.out.mono ?_; rintro e w' ⟨rfl, J, dr, rfl⟩
      go_wp2
      go_region
      all_goals go_wp2
      all_goals refine bodyPost_ret (results_f1 rfl _ _ w.heap.size #[.int .i64 0, .int .i64 f] rfl (by simp [go_sem]) rfl) rfl ⟨rfl, junk_of_below (by (repeat' (first | (with_reducible exact Below.refl _ _) | (with_reducible assumption) | (with_reducible refine Below.alloc ?_ ?_ _) | (with_reducible refine Below.drew ?_) | (with_reducible refine below_drewN ?_ _) | (with_reducible refine below_plus ?_ ?_ _ _) | (with_reducible refine Below.setCell ?_ ?_ _) | (with_reducible refine Below.setRow ?_ ?_ _) | go_size)))⟩
  · rw [if_neg (fun h => he h.1)] at hr
    subst hr
    have e3 : (e == 0) = false := beq_eq_false_iff_ne.2 he
    clear he
    go_enter Try.func38, Try.ntmps38
    go_wp2_with fail
    refine HM.out.mono ?_; rintro e w' ⟨rfl, J, dr, rfl⟩
    go_wp2
    go_region
    all_goals go_wp2
    all_goals refine bodyPost_ret (results_f1 rfl _ _ w.heap.size #[.int .i64 e, .int .i64 f] rfl (by simp [go_sem]) rfl) rfl ⟨rfl, junk_of_below (by (repeat' (first | (with_reducible exact Below.refl _ _) | (with_reducible assumption) | (with_reducible refine Below.alloc ?_ ?_ _) | (with_reducible refine Below.drew ?_) | (with_reducible refine below_drewN ?_ _) | (with_reducible refine below_plus ?_ ?_ _ _) | (with_reducible refine Below.setCell ?_ ?_ _) | (with_reducible refine Below.setRow ?_ ?_ _) | go_size)))⟩
set_option maxRecDepth 100000 in
set_option maxHeartbeats 4000000 in
theorem n_End_none (w : World) (v : Value) (h : Unmade w v) :
    Calls Try.prog 38 #[v] w fun e' w' => e' = .returned (.agg #[.int .i64 1, .int .i64 0]) ∧ Junk w w' := by
  have HM := Lib.hid (n_Fault_none (w.alloc (.cells #[.int .i64 0, .int .i64 0] 36)) v (h.below (by (repeat' (first | (with_reducible exact Below.refl _ _) | (with_reducible assumption) | (with_reducible refine Below.alloc ?_ ?_ _) | (with_reducible refine Below.drew ?_) | (with_reducible refine below_drewN ?_ _) | (with_reducible refine below_plus ?_ ?_ _ _) | (with_reducible refine Below.setCell ?_ ?_ _) | (with_reducible refine Below.setRow ?_ ?_ _) | go_size)))))
  clear h
  go_enter Try.func38, Try.ntmps38
  go_wp2_with fail
  refine HM.out.mono ?_; rintro e w' ⟨rfl, J, dr, rfl⟩
  go_wp2
  go_region
  all_goals go_wp2
  all_goals refine bodyPost_ret (results_f1 rfl _ _ w.heap.size #[.int .i64 1, .int .i64 0] rfl (by simp [go_sem]) rfl) rfl ⟨rfl, junk_of_below (by (repeat' (first | (with_reducible exact Below.refl _ _) | (with_reducible assumption) | (with_reducible refine Below.alloc ?_ ?_ _) | (with_reducible refine Below.drew ?_) | (with_reducible refine below_drewN ?_ _) | (with_reducible refine below_plus ?_ ?_ _ _) | (with_reducible refine Below.setCell ?_ ?_ _) | (with_reducible refine Below.setRow ?_ ?_ _) | go_size)))⟩

theorem n_Clone (w : World) (a : Option Addr) (len cap : Nat) (L : List UInt8) (h : BIn w a len L cap) : Calls Try.prog 50 #[.slice a len cap] w (PutRes w L) := by
  have hnil : ∀ (w : World) (a : Option Addr) (n c n' c' : Nat), (binOp .eql 24 (.slice a n c) (.slice none n' c')).run Try.prog w = .ok (.bool a.isNone) w := fun w a n c n' c' => Lib.run_eql_slice_nil w _ _ a n c n' c' Try.underlying24
  have HR := Lib.hid h.reads
  have HN := Lib.hid h.none
  have hs := h.small
  rcases a with _ | x
  · obtain ⟨rfl, rfl⟩ := h.none rfl
    obtain rfl : L = [] := List.eq_nil_of_length_eq_zero h.reads.1
    clear h
    go_enter Try.func50, Try.ntmps50
    go_wp2
    go_ret
    exact ⟨_, rfl, bowns_nil _ _, junk_of_below (by (repeat' (first | (with_reducible exact Below.refl _ _) | (with_reducible assumption) | (with_reducible refine Below.alloc ?_ ?_ _) | (with_reducible refine Below.drew ?_) | (with_reducible refine below_drewN ?_ _) | (with_reducible refine below_plus ?_ ?_ _ _) | (with_reducible refine Below.setCell ?_ ?_ _) | (with_reducible refine Below.setRow ?_ ?_ _) | go_size)))⟩
  · clear h
    go_enter Try.func50, Try.ntmps50
    go_wp2_with (at_builtin; refine wpList_bapp rfl _ _ rfl w.heap.size _ [] rfl (bowns_empty w) (some x) len cap L rfl HN.out (HR.out.below ((Below.refl _ _).alloc (Nat.le_refl _) _)) (by simp; omega) (by simp) ?_; intro v' w' hown hg)
    go_ret
    exact ⟨_, rfl, hown, junk_of_below (((Below.refl _ _).alloc (Nat.le_refl _) _).grown hg (by simp) (fun k hk => (bowns_empty w).block k hk))⟩

/-- What New makes: a reader of a copy, in memory of the call's own. -/
def NewRes (w : World) (L : List UInt8) (e : Ending) (w' : World) : Prop := ∃ w1 a cap, e = .returned (.pointer (some ⟨w1.heap.size, 0, none⟩)) ∧ Junk w w1 ∧ BIn w1 a L.length L cap ∧ w' = w1.alloc (.cells (ocells w1.heap.size a L.length cap 0 0 0) 59)

set_option maxHeartbeats 2000000 in
theorem n_New (w : World) (a : Option Addr) (len cap : Nat) (L : List UInt8) (h : BIn w a len L cap) : Calls Try.prog 31 #[.slice a len cap] w (NewRes w L) := by
  have HC := Lib.hid (n_Clone w a len cap L h)
  have hl : L.length ≤ 1099511627776 := by have := h.small; have := h.reads.1; omega
  clear h
  go_enter Try.func31, Try.ntmps31
  go_wp2_with fail
  refine HC.out.mono ?_; rintro e w' ⟨v, rfl, hown, hj⟩
  obtain ⟨a2, cap2, rfl, hin⟩ := bin_of_owns hown hl
  have HI := Lib.hid hin
  have HJ := Lib.hid hj
  clear hown hin hj
  go_wp2
  go_ret
  exact ⟨w', a2, cap2, rfl, HJ.out, HI.out, rfl⟩
end Go.Proofs.Ytabjhmblfeoiaaa

/- Contracts of octet's reading of numbers: what is deferred. -/
import Derived.Test.YtabjhmblfeoiaaaOcuM
import Derived.Test.YtabjhmblfeoiaaaQTwo
import Derived.Defers
import Derived.Recover
namespace Go.Proofs.Ytabjhmblfeoiaaa
set_option linter.unusedVariables false
set_option linter.unusedSimpArgs false
open Go.RowKit

/-- What is deferred, where there was a fault: the fault becomes the reader's. -/
theorem n_def_bad (u : FrameMode) (w : World) (bf br bn b : Nat) (e f : Int) (a : Option Addr) (len cap : Nat) (pl e0 f0 : Int) (hf : w.rowAt bf = some #[.int .i64 e, .int .i64 f]) (hr : w.cell? ⟨br, 0, none⟩ = some (.pointer (some ⟨b, 0, none⟩)))
    (hb : w.rowAt b = some (ocells b a len cap pl e0 f0)) (he : e ≠ 0) :
    CallsD Try.prog 62 #[.pointer (some ⟨bf, 0, none⟩), .pointer (some ⟨br, 0, none⟩), .pointer (some ⟨bn, 0, none⟩)] u w fun e' u' w' => u' = u ∧ (e' = .returned (.tuple #[]) ∧ w' = w.setRow b (ocells b a len cap pl e f)) := by
  have c0 := ucell_of_row hf 0
  have c1 := ucell_of_row hf 1
  have z0 := ufrozen_of_row hf
  have d3 := ucell_of_row hb 3
  have d4 := ucell_of_row hb 4
  have z1 := ufrozen_of_row hb
  simp at c0 c1
  simp [ocells] at d3 d4
  have e2 : (e != 0) = true := bne_iff_ne.2 he
  go_enter_d Try.func62, Try.ntmps62
  go_wp2
  refine bodyPost_ret (results_none rfl _ _ _) rfl ?_
  exact ⟨rfl, by rw [set2 hb]; rfl⟩

/-- .. where there was none: the reader moves on. -/
theorem n_def_good (u : FrameMode) (w : World) (bf br bn b : Nat) (f n : Int) (a : Option Addr) (len cap : Nat) (pl e0 f0 : Int) (hf : w.rowAt bf = some #[.int .i64 0, .int .i64 f]) (hr : w.cell? ⟨br, 0, none⟩ = some (.pointer (some ⟨b, 0, none⟩)))
    (hn : w.cell? ⟨bn, 0, none⟩ = some (.int .i64 n)) (hb : w.rowAt b = some (ocells b a len cap pl e0 f0)) :
    CallsD Try.prog 62 #[.pointer (some ⟨bf, 0, none⟩), .pointer (some ⟨br, 0, none⟩), .pointer (some ⟨bn, 0, none⟩)] u w fun e' u' w' => u' = u ∧ (e' = .returned (.tuple #[]) ∧ w' = w.setRow b (ocells b a len cap n e0 f0)) := by
  have c0 := ucell_of_row hf 0
  have z0 := ufrozen_of_row hf
  have d2 := ucell_of_row hb 2
  have z1 := ufrozen_of_row hb
  simp at c0
  simp [ocells] at d2
  go_enter_d Try.func62, Try.ntmps62
  go_wp2
  go_end0
  exact ⟨rfl, by rw [set1 hb]; rfl⟩

theorem results_d {fn : Func} {t p : Tmp} (h : fn.results = #[.tmp t, .cell p 36]) (tmps : Array Value) (w : World) (g : Nat) (c : Array Value)
    (hp : tmps.getD p undef = .pointer (some ⟨g, 0, none⟩)) (hr : w.rowAt g = some c) (hc : c.size = 2) : (results fn tmps).run Try.prog w = .ok (.tuple #[tmps.getD t undef, .agg c]) w := results_fault h tmps w g c hp hr hc

set_option maxRecDepth 100000 in
set_option maxHeartbeats 4000000 in
theorem n_readI_none (w : World) (v one : Value) (h : Unmade w v) :
    Calls Try.prog 51 #[v, one] w fun e' w' => e' = .returned (.tuple #[.int .i64 0, .agg #[.int .i64 1, .int .i64 0]]) ∧ Junk w w' := by
  obtain ⟨p, rfl⟩ : ∃ p, v = .pointer p := by
    rcases h with rfl | ⟨b, rfl, _⟩
    · exact ⟨none, rfl⟩
    · exact ⟨_, rfl⟩
  have HF := Lib.hid (fun W (h : Unmade W (.pointer p)) => n_Fault_none W _ h)
  have HU := Lib.hid h
  clear h
  go_enter_defers Try.func51, Try.ntmps51
  go_wp2_with fail
  refine (HF.out _ (HU.out.below (by (repeat' (first | (with_reducible exact Below.refl _ _) | (with_reducible assumption) | (with_reducible refine Below.alloc ?_ ?_ _) | (with_reducible refine Below.drew ?_) | (with_reducible refine below_drewN ?_ _) | (with_reducible refine below_plus ?_ ?_ _ _) | (with_reducible refine Below.setCell ?_ ?_ _) | (with_reducible refine Below.setRow ?_ ?_ _) | go_size))))).mono ?_; rintro e w' ⟨rfl, J, dr, rfl⟩
  go_wp2
  go_region
  all_goals go_wp2
  all_goals exact ⟨_, results_fault rfl _ _ (w.heap.size + 1) #[.int .i64 1, .int .i64 0] rfl (by simp [go_sem]) rfl, rfl, junk_of_below (by (repeat' (first | (with_reducible exact Below.refl _ _) | (with_reducible assumption) | (with_reducible refine Below.alloc ?_ ?_ _) | (with_reducible refine Below.drew ?_) | (with_reducible refine below_drewN ?_ _) | (with_reducible refine below_plus ?_ ?_ _ _) | (with_reducible refine Below.setCell ?_ ?_ _) | (with_reducible refine Below.setRow ?_ ?_ _) | go_size)))⟩

theorem turned_setRow {w W : World} {b : Nat} {c : Array Value} (hb : b < w.heap.size) (h : Junk w W) : Turned b c w (W.setRow b c) := by
  obtain ⟨K, d, rfl⟩ := h
  exact ⟨K, d, setRow_plus w K d b c hb⟩

/-- The worlds of read's last region: the reader's variable, the fault's, the place's, and whatever lies behind. -/
def ReadW (w : World) (b : Nat) (J : Array Obj) (dr : Nat) (x y z : Int) (W : World) : Prop :=
  ∃ J2 d2, W = ((((w.alloc (.cells #[.pointer (some ⟨b, 0, none⟩)] 45)).alloc (.cells #[.int .i64 x, .int .i64 y] 36)).plus J dr).alloc (.cells #[.int .i64 z] 3)).plus J2 d2
def ReadD (w : World) (b : Nat) (J : Array Obj) (dr : Nat) (f pl q e a' : Int) (k : Nat) (W : World) : Prop :=
  ReadW w b J dr (if k ≤ 1 then 0 else e) (if k ≤ 1 then f else a') (if k = 0 then pl else q) W

set_option maxRecDepth 100000 in
set_option maxHeartbeats 4000000 in
theorem n_readI (w : World) (b : Nat) (a : Option Addr) (len cap : Nat) (pl e f : Int) (g : Nat) (lb : Array Value) (G : Int × Int × Int × Int) (hrow : w.rowAt b = some (ocells b a len cap pl e f))
    (eg : ∀ args w, (callFunc g args).run Try.prog w = .ok (.enter g args) w)
    (hone : ∀ W, Below w.heap.size w W → Calls Try.prog g (#[.slice a len cap, .int .i64 pl] ++ lb) W fun e w' => e = .returned (.tuple #[.int .i64 G.1, .int .i64 G.2.1, .agg #[.int .i64 G.2.2.1, .int .i64 G.2.2.2]]) ∧ Junk W w')
    (hz : G.2.2.1 ≠ 0 → G.1 = 0) (r : Int × Int × Int × Int) (hr : Hid (numR G pl e f = r)) :
    Calls Try.prog 51 #[.pointer (some ⟨b, 0, none⟩), .func (.func g) #[] lb] w fun e' w' => (∃ y z, e' = .returned (.tuple #[.int .i64 r.1, .agg #[.int .i64 y, .int .i64 z]])) ∧ Turned b (ocells b a len cap r.2.1 r.2.2.1 r.2.2.2) w w' := by
  have HF := Lib.hid (fun W (h : W.rowAt b = some (ocells b a len cap pl e f)) => n_Fault W b a len cap pl e f h)
  have HROW := Lib.hid hrow
  have hb : b < w.heap.size := World.block_lt_of_cell? _ _ (ucell_of_row hrow 0)
  have HRB := Lib.hid (fun W (h : Below w.heap.size w W) => (show W.rowAt b = some (ocells b a len cap pl e f) by rw [rowAt_of_block (h.block b hb)]; exact hrow))
  have hr := hr.out
  unfold numR at hr
  have c1 := ucell_of_row hrow 1
  have c2 := ucell_of_row hrow 2
  have f0 := ufrozen_of_row hrow
  simp [ocells] at c1 c2
  clear hrow
  have hb1 : b < w.heap.size + 1 := by omega
  have hb2 : b < w.heap.size + 1 + 1 := by omega
  have hmf : ∀ (fn : Fn) (first cap : Array Value) (w : World), (Instr.makeFunc fn first cap).run Try.prog w = .ok (.func fn first cap) w := fun _ _ _ _ => rfl
  by_cases he : e ≠ 0
  · rw [if_pos he] at hr
    subst hr
    have e2 : (e != 0) = true := bne_iff_ne.2 he
    clear he hone hz eg
    go_enter_defers Try.func51, Try.ntmps51
    go_wp2_with fail
    refine (HF.out _ (HRB.out _ (by (repeat' (first | (with_reducible exact Below.refl _ _) | (with_reducible assumption) | (with_reducible refine Below.alloc ?_ ?_ _) | (with_reducible refine Below.drew ?_) | (with_reducible refine below_drewN ?_ _) | (with_reducible refine below_plus ?_ ?_ _ _) | (with_reducible refine Below.setCell ?_ ?_ _) | (with_reducible refine Below.setRow ?_ ?_ _) | go_size))))).mono ?_; rintro e' w' ⟨rfl, J, dr, rfl⟩
    go_wp2
    go_region
    all_goals go_wp2
    all_goals exact ⟨_, results_fault rfl _ _ (w.heap.size + 1) #[.int .i64 e, .int .i64 f] rfl (by simp [go_sem]) rfl, ⟨_, _, rfl⟩, turned_self HROW.out (junk_of_below (by (repeat' (first | (with_reducible exact Below.refl _ _) | (with_reducible assumption) | (with_reducible refine Below.alloc ?_ ?_ _) | (with_reducible refine Below.drew ?_) | (with_reducible refine below_drewN ?_ _) | (with_reducible refine below_plus ?_ ?_ _ _) | (with_reducible refine Below.setCell ?_ ?_ _) | (with_reducible refine Below.setRow ?_ ?_ _) | go_size))))⟩
  obtain rfl : e = 0 := Decidable.of_not_not he
  rw [if_neg he] at hr
  obtain ⟨n, q, e, a'⟩ := G
  have HO := Lib.hid hone
  simp only at hr hz
  have HRR := Lib.hid hr
  have HZ := Lib.hid hz
  clear he hone hr hz
  go_enter_defers Try.func51, Try.ntmps51
  go_wp2_with fail
  refine (HF.out _ (HRB.out _ (by (repeat' (first | (with_reducible exact Below.refl _ _) | (with_reducible assumption) | (with_reducible refine Below.alloc ?_ ?_ _) | (with_reducible refine Below.drew ?_) | (with_reducible refine below_drewN ?_ _) | (with_reducible refine below_plus ?_ ?_ _ _) | (with_reducible refine Below.setCell ?_ ?_ _) | (with_reducible refine Below.setRow ?_ ?_ _) | go_size))))).mono ?_; rintro e' w' ⟨rfl, J, dr, rfl⟩
  go_upto_region 6 with fail
  refine region_two (ReadD w b J dr f pl q e a') 15 16 2 (by decide) rfl (by intro o h; cases h; decide) (by kernel_rfl) (by kernel_rfl) ⟨#[], _, (plus_nil _).symm⟩ ?_
  (refine t_ex (by rfl) rfl rfl ?_; apply Exists.intro; refine ⟨fun W => ?_, ?_⟩; (go_simp; with_reducible rfl); go_simp)
  (refine t_read (by rfl) rfl rfl ?_; apply Exists.intro; refine ⟨fun b' W _ hD => ?_, ?_⟩; (obtain ⟨J2, d2, hW⟩ := hD; rw [hW]; go_simp; with_reducible rfl); go_simp)
  (refine t_ex (by rfl) rfl rfl ?_; apply Exists.intro; refine ⟨fun W => ?_, ?_⟩; (go_simp; with_reducible rfl); go_simp)
  (refine t_ex (by rfl) rfl rfl ?_; apply Exists.intro; refine ⟨fun W => ?_, ?_⟩; (go_simp; with_reducible rfl); go_simp)
  (refine t_read (by rfl) rfl rfl ?_; apply Exists.intro; refine ⟨fun b' W _ hD => ?_, ?_⟩; (obtain ⟨J2, d2, hW⟩ := hD; rw [hW]; go_simp; with_reducible rfl); go_simp)
  (refine t_read (by rfl) rfl rfl ?_; apply Exists.intro; refine ⟨fun b' W _ hD => ?_, ?_⟩; (obtain ⟨J2, d2, hW⟩ := hD; rw [hW]; go_simp; with_reducible rfl); go_simp)
  (refine t_ex (by rfl) rfl rfl ?_; apply Exists.intro; refine ⟨fun W => ?_, ?_⟩; (go_simp; with_reducible rfl); go_simp)
  (refine t_ex (by rfl) rfl rfl ?_; apply Exists.intro; refine ⟨fun W => ?_, ?_⟩; (go_simp; with_reducible rfl); go_simp)
  (refine t_read (by rfl) rfl rfl ?_; apply Exists.intro; refine ⟨fun b' W _ hD => ?_, ?_⟩; (obtain ⟨J2, d2, hW⟩ := hD; rw [hW]; go_simp; with_reducible rfl); go_simp)
  refine t_op (by rfl) rfl rfl (.tuple #[.int .i64 n, .int .i64 q, .agg #[.int .i64 e, .int .i64 a']]) (fun k W _ hD => ?_) ?_
  · obtain ⟨J2, d2, hW⟩ := hD
    unfold stepUpong
    go_simp
    refine (HO.out _ (by (repeat' (first | (with_reducible exact Below.refl _ _) | (with_reducible assumption) | (with_reducible refine Below.alloc ?_ ?_ _) | (with_reducible refine Below.drew ?_) | (with_reducible refine below_drewN ?_ _) | (with_reducible refine below_plus ?_ ?_ _ _) | (with_reducible refine Below.setCell ?_ ?_ _) | (with_reducible refine Below.setRow ?_ ?_ _) | go_size)))).mono ?_
    rintro e' w' ⟨rfl, J3, d3, rfl⟩
    exact ⟨rfl, J2 ++ J3, d3, by rw [plus_plus]⟩
  go_simp
  iterate 5
    (refine t_ex (by rfl) rfl rfl ?_; apply Exists.intro; refine ⟨fun W => ?_, ?_⟩; (go_simp; with_reducible rfl); go_simp)
  refine t_write (by rfl) rfl undef (fun W hD => ?_) ?_
  · obtain ⟨J2, d2, hW⟩ : ReadW w b J dr 0 f pl W := hD
    subst hW
    show stepUpong _ (ReadW w b J dr 0 f q) _ _
    unfold stepUpong
    go_simp
    exact ⟨_, _, rfl⟩
  go_simp
  refine t_write2 (by rfl) rfl rfl undef (fun W hD => ?_) ?_
  · obtain ⟨J2, d2, hW⟩ : ReadW w b J dr 0 f q W := hD
    subst hW
    show stepUpong _ (ReadW w b J dr e a' q) _ _
    unfold stepUpong
    go_simp
    exact ⟨_, _, rfl⟩
  go_simp
  refine t_nil ?_
  intro W hD
  obtain ⟨J2, d2, hW⟩ : ReadW w b J dr e a' q W := hD
  subst hW
  go_wp2
  go_region
  all_goals go_wp2
  all_goals refine leaves_cons (f := 62) (args := #[.pointer (some ⟨w.heap.size + 1, 0, none⟩), .pointer (some ⟨w.heap.size, 0, none⟩), .pointer (some ⟨w.heap.size + 1 + 1 + J.size, 0, none⟩)]) (by simp) (by simp [go_sem]) ?_
  all_goals have hr := HRR.out
  all_goals by_cases he : e ≠ 0
  all_goals first
    | (rw [if_pos he] at hr
       subst hr
       have hn0 := HZ.out he
       subst hn0
       refine (n_def_bad .returning _ (w.heap.size + 1) w.heap.size (w.heap.size + 1 + 1 + J.size) b e a' a len cap pl 0 f (by simp [go_sem]) (by simp [go_sem]) (HRB.out _ (by (repeat' (first | (with_reducible exact Below.refl _ _) | (with_reducible assumption) | (with_reducible refine Below.alloc ?_ ?_ _) | (with_reducible refine Below.drew ?_) | (with_reducible refine below_drewN ?_ _) | (with_reducible refine below_plus ?_ ?_ _ _) | (with_reducible refine Below.setCell ?_ ?_ _) | (with_reducible refine Below.setRow ?_ ?_ _) | go_size)))) he).mono ?_
       rintro e' u' w'' ⟨rfl, rfl, rfl⟩
       refine ⟨_, results_fault rfl _ _ (w.heap.size + 1) #[.int .i64 e, .int .i64 a'] rfl (by rw [rowAt_setRow_other (by omega)]; simp [go_sem]) rfl, ⟨_, _, rfl⟩, turned_setRow hb (junk_of_below (by (repeat' (first | (with_reducible exact Below.refl _ _) | (with_reducible assumption) | (with_reducible refine Below.alloc ?_ ?_ _) | (with_reducible refine Below.drew ?_) | (with_reducible refine below_drewN ?_ _) | (with_reducible refine below_plus ?_ ?_ _ _) | (with_reducible refine Below.setCell ?_ ?_ _) | (with_reducible refine Below.setRow ?_ ?_ _) | go_size))))⟩)
    | (rw [if_neg he] at hr
       subst hr
       obtain rfl : e = 0 := Decidable.of_not_not he
       refine (n_def_good .returning _ (w.heap.size + 1) w.heap.size (w.heap.size + 1 + 1 + J.size) b a' q a len cap pl 0 f (by simp [go_sem]) (by simp [go_sem]) (by simp [go_sem]) (HRB.out _ (by (repeat' (first | (with_reducible exact Below.refl _ _) | (with_reducible assumption) | (with_reducible refine Below.alloc ?_ ?_ _) | (with_reducible refine Below.drew ?_) | (with_reducible refine below_drewN ?_ _) | (with_reducible refine below_plus ?_ ?_ _ _) | (with_reducible refine Below.setCell ?_ ?_ _) | (with_reducible refine Below.setRow ?_ ?_ _) | go_size))))).mono ?_
       rintro e' u' w'' ⟨rfl, rfl, rfl⟩
       refine ⟨_, results_fault rfl _ _ (w.heap.size + 1) #[.int .i64 0, .int .i64 a'] rfl (by rw [rowAt_setRow_other (by omega)]; simp [go_sem]) rfl, ⟨_, _, rfl⟩, turned_setRow hb (junk_of_below (by (repeat' (first | (with_reducible exact Below.refl _ _) | (with_reducible assumption) | (with_reducible refine Below.alloc ?_ ?_ _) | (with_reducible refine Below.drew ?_) | (with_reducible refine below_drewN ?_ _) | (with_reducible refine below_plus ?_ ?_ _ _) | (with_reducible refine Below.setCell ?_ ?_ _) | (with_reducible refine Below.setRow ?_ ?_ _) | go_size))))⟩)
end Go.Proofs.Ytabjhmblfeoiaaa

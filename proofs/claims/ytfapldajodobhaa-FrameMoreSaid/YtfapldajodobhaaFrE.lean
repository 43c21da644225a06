/- frame's iterator: it yields each record of the bytes and what lies behind its frame, whatever the body does that leaves what lay there, and tables, as they are. -/
import Derived.RangeFuncNested
import Derived.RangeFuncBound
import Derived.RangeFuncBox
import Derived.RangeFuncCalls
import Derived.RangeFuncLeaves
import Derived.Shelf.Abstract
import Derived.Shelf.RegionOpen
import Derived.WalkKit
import Derived.OwnWalkIn
import Derived.TacticsInMore
import Derived.LoopNIn
import Derived.LoopIn
import Derived.Maps.AppendAt
import Derived.Test.YtfapldajodobhaaFrD
namespace Go.Proofs.Ytfapldajodobhaa
set_option linter.unusedVariables false
set_option linter.unusedSimpArgs false
open Go.RowKit Go.Shelf

attribute [local go_sem] Oper.semAt_some

/-- A record that was found, and the bytes behind it. -/
structure Fr (w0 : World) where
  v1 : Value
  v2 : Value
  R : List UInt8
  T : List UInt8
  h1 : SlIn w0 v1 R
  h2 : SlIn w0 v2 T

/-- From L on these are found one behind the other, and M is left. -/
def Chain {w0 : World} : List UInt8 → List (Fr w0) → List UInt8 → Prop
  | L, [], M => M = L
  | L, x :: xs, M => splitF L = some (x.R, x.T) ∧ Chain x.T xs M
theorem Chain.snoc {w0 : World} {x : Fr w0} : ∀ {L M : List UInt8} {xs : List (Fr w0)}, Chain L xs M → splitF M = some (x.R, x.T) → Chain L (xs ++ [x]) x.T
  | L, M, [], h, hs => by
    obtain rfl : M = L := h
    exact ⟨hs, rfl⟩
  | L, M, y :: ys, ⟨h1, h2⟩, hs => ⟨h1, Chain.snoc h2 hs⟩
theorem Chain.scan {w0 : World} : ∀ {L M : List UInt8} {xs : List (Fr w0)}, Chain L xs M → splitF M = none → scanF L = (xs.map Fr.R, M)
  | L, M, [], h, hs => by
    obtain rfl : M = L := h
    exact scan_none hs
  | L, M, x :: xs, ⟨h1, h2⟩, hs => by
    rw [scan_some h1, Chain.scan h2 hs]; rfl
theorem Chain.few {w0 : World} : ∀ {L M : List UInt8} {xs : List (Fr w0)}, Chain L xs M → xs.length + M.length ≤ L.length
  | L, M, [], h => by
    obtain rfl : M = L := h
    simp
  | L, M, x :: xs, ⟨h1, h2⟩ => by
    have := Chain.few h2
    have := split_lt h1
    simp; omega

/-- What a round keeps: what lay before the call, and tables. -/
def KeepsT (n0 : Nat) (W W' : World) : Prop := Below n0 W W' ∧ ∀ (k : Nat) (c : Array Value) f, W.heap[k]? = some (.cells c 49 f) → W'.heap[k]? = some (.cells c 49 f)
theorem keepsT_t {n0 : Nat} {A B C : World} (h : KeepsT n0 A B) (k : KeepsT n0 B C) : KeepsT n0 A C := ⟨h.1.trans k.1, fun i c f hi => k.2 i c f (h.2 i c f hi)⟩
theorem keepsT_b {n0 : Nat} {w : World} (hn : n0 ≤ w.heap.size) (W : World) (l : Nat) (o o' : Obj) (hl : w.heap.size ≤ l) (h : W.heap[l]? = some o) (hc : o.isCells = false) (hw : o.isWalk = false) : KeepsT n0 W (W.putObj l o') :=
  ⟨belowK_b hn W l o o' hl h hc hw, fun k c f hk => by
    by_cases e : k = l
    · subst e; rw [hk] at h; injection h with h; subst h; cases hc
    · exact (World.putObj_heap_other e).trans hk⟩

theorem grown_of_below {A B : World} (h : Below A.heap.size A B) : A.grownBy B none := ⟨h.os, h.tape, h.output, h.size, fun k hk _ => h.block k hk⟩

theorem n_frames (w : World) (a : Option Addr) (len cap : Nat) : Calls Try.prog 31 #[.slice a len cap] w fun e w' => e = .returned (.func (.func 36) #[] #[.pointer (some ⟨w.heap.size, 0, none⟩)]) ∧ w' = w.alloc (.cells #[.slice a len cap] 22) := by
  go_enter Try.func31, Try.ntmps31
  go_wp2
  go_ret
  exact ⟨rfl, rfl⟩

/-- How long a slice is. -/
def slLen : Value → Nat
  | .slice _ n _ => n
  | _ => 0
def frLeft (v2 f : Value) : Nat := match f with
  | .bool true => slLen v2 + 1
  | _ => 0

/-- Between two rounds. -/
def FrAt (w0 : World) (L : List UInt8) (J : List (Fr w0) → World → Prop) (Bt : Nat) (C : Array Value) (v1 v2 f : Value) (wr : World) : Prop :=
  ∃ (pre : List (Fr w0)) (M : List UInt8), Chain L pre M ∧ J pre wr ∧ Below w0.heap.size w0 wr ∧ wr.heap[Bt]? = some (.cells C 49 (0, 0)) ∧
    ((f = .bool false ∧ splitF M = none) ∨ (f = .bool true ∧ ∃ R T, splitF M = some (R, T) ∧ SlIn w0 v1 R ∧ SlIn w0 v2 T))

theorem wpListIn_tab_store {F : Fence} {n : Nat} {ops : Array Oper} {rest : List Oper} {o : Oper} {a : Act} {w : World} {Q : Exit → Act → World → Prop} (hgd : o.guard = none) (x y : Operand) (ho : o.op = .store 49 x y)
    (g : Nat) (hx : a.eval x = .pointer (some ⟨g, 0, none⟩)) (f : Nat → Nat) (hy : a.eval y = .agg (trow f 256)) (c : Array Value) (hr : w.rowAt g = some c) (hc : c.size = 256)
    (h : wpListIn F n Try.prog ops Q rest (a.put o.dst undef) (w.setRow g (trow f 256))) : wpListIn F n Try.prog ops Q (o :: rest) a w := by
  obtain ⟨t, hg⟩ := rowAt_some hr
  have hs := run_storeVar_row (P := Try.prog) w g t 49 c (trow f 256) hg (by rw [size_trow]; kernel_rfl) (by rw [size_trow, hc]) (trow_one _ _)
  refine wpListIn_plain hgd fun K hK' => ?_
  unfold Oper.wpIn
  refine ⟨?_, ?_⟩
  · simp [Oper.about, ho]
  · rw [Oper.semAt_plain F _ _ (by rw [ho]; intro c hc'; cases hc')]
    simp only [execOp, ho, hx, hy, Instr.storeAt, Instr.sureAddr, Sem.run_bind, Sem.run_pure, Result.andThen_ok, hs]
    exact hK' _ _ h
theorem wpListIn_tab_load {F : Fence} {n : Nat} {ops : Array Oper} {rest : List Oper} {o : Oper} {a : Act} {w : World} {Q : Exit → Act → World → Prop} (hgd : o.guard = none) (x : Operand) (ho : o.op = .load 49 x)
    (g : Nat) (hx : a.eval x = .pointer (some ⟨g, 0, none⟩)) (C : Array Value) (hr : w.rowAt g = some C) (hc : C.size = 256)
    (h : wpListIn F n Try.prog ops Q rest (a.put o.dst (.agg C)) w) : wpListIn F n Try.prog ops Q (o :: rest) a w := by
  obtain ⟨t, hg⟩ := rowAt_some hr
  have hs := run_loadVar_row (P := Try.prog) w g t 49 C (0, 0) _ hg Try.underlying49 rfl (by rw [hc]; kernel_rfl)
  refine wpListIn_plain hgd fun K hK' => ?_
  unfold Oper.wpIn
  refine ⟨?_, ?_⟩
  · simp [Oper.about, ho]
  · rw [Oper.semAt_plain F _ _ (by rw [ho]; intro c hc'; cases hc')]
    simp only [execOp, ho, hx, Instr.loadAt, Instr.sureAddr, Sem.run_bind, Sem.run_pure, Result.andThen_ok, hs]
    exact hK' _ _ h

set_option maxRecDepth 100000 in
set_option maxHeartbeats 2000000 in
theorem n_iter (w0 : World) (a : Option Addr) (len cap : Nat) (L : List UInt8) (h : BIn w0 a len L cap) (n l Bn : Nat) (hn : 1 ≤ n) (J Jx : List (Fr w0) → World → Prop)
    (hY : ∀ pre (x : Fr w0) W, J pre W → pre.length < L.length + 1 → YieldAt Fence.wide (n - 1) Try.prog l #[x.v1, x.v2] W fun e W' => (e = .returned (.bool true) ∧ J (pre ++ [x]) W' ∧ KeepsT w0.heap.size W W') ∨ (e = .returned (.bool false) ∧ Jx (pre ++ [x]) W'))
    (W : World) (hJ : AbidesFrom W.heap.size J) (hB : Below w0.heap.size w0 W) (hBn : W.cell? ⟨Bn, 0, none⟩ = some (.slice a len cap)) (h0 : J [] W) :
    CallsIn Fence.wide n Try.prog 36 #[.func (.yield l) #[] #[], .pointer (some ⟨Bn, 0, none⟩)] W fun e W' => (∃ v, e = .returned v) ∧ ((∃ xs M, Chain L xs M ∧ splitF M = none ∧ J xs W') ∨ (∃ pre, Jx pre W')) := by
  refine callsIn_of_wp Try.func36 rfl trivial ?_ rfl
  have hBl : Bn < W.heap.size := World.block_lt_of_cell? _ _ hBn
  have hz := zero49
  simp only [Try.ntmps36, List.size_toArray, List.length_cons, List.length_nil, Nat.reduceAdd, Nat.reduceSub, Array.replicate_succ, Array.replicate_zero, List.push_toArray, List.append_toArray, List.nil_append, List.cons_append]
  have hC0 : (trow (tabF 0) 256).size = 256 := size_trow _ _
  generalize trow (tabF 0) 256 = C0 at *
  gi_wp2_with (first
    | (refine ⟨trivial, ?_⟩; gi_at_call 29; refine ((callsIn_wide.2 (n_newTable _))).mono ?_; rintro e w' ⟨rfl, J1, d1, rfl⟩)
    | (refine wpListIn_tab_store rfl _ _ rfl _ rfl (tabF 256) rfl C0 (by simp [go_sem]) hC0 ?_)
    | (refine wpListIn_tab_load rfl _ rfl _ rfl (trow (tabF 256) 256) (by simp [go_sem]) (size_trow _ _) ?_))
  obtain ⟨C, hC⟩ : ∃ C, trow (tabF 256) 256 = C := ⟨_, rfl⟩
  have hCs : C.size = 256 := by rw [← hC]; exact size_trow _ _
  have HV := Lib.hid (show tabV = .agg C by rw [← hC]; rfl)
  rw [hC]
  clear hC
  obtain ⟨W1, hW1⟩ : ∃ W1, (W.plus J1 d1).alloc (.cells C 49) = W1 := ⟨_, rfl⟩
  obtain ⟨Bt, hBt⟩ : ∃ Bt, W.heap.size + J1.size = Bt := ⟨_, rfl⟩
  have hb1 : Below W.heap.size W W1 := by rw [← hW1]; exact Below.alloc (Junk.below ⟨J1, d1, rfl⟩) (by simp) _
  have hT1 : W1.heap[Bt]? = some (.cells C 49 (0, 0)) := by rw [← hW1, ← hBt]; have := World.alloc_heap_new (W.plus J1 d1) (.cells C 49); simpa using this
  have hJ1 : J [] W1 := hJ _ _ _ _ h0 (grown_of_below hb1) (fun r e => by cases e)
  have hB1 : Below w0.heap.size w0 W1 := hB.trans (hb1.mono hB.size)
  rw [hW1, hBt]
  clear hW1
  have HSp := Lib.hid (fun w' (h1 : Below w0.heap.size w0 w') a len cap L (h : BIn w0 a len L cap) => n_split w' w0 a len cap L (h.below h1) h)
  rw [HV.out] at HSp
  refine ⟨trivial, (callsIn_wide.2 (HSp.out W1 hB1 a len cap L h)).mono ?_⟩
  rintro e w2 ⟨⟨v1, v2, f, rfl, hres⟩, J2, d2, rfl⟩
  have hb2 : Below W1.heap.size W1 (W1.plus J2 d2) := Junk.below ⟨J2, d2, rfl⟩
  have hJ2 : J [] (W1.plus J2 d2) := hJ _ _ _ _ hJ1 (grown_of_below hb2) (fun r e => by cases e)
  have hB2 : Below w0.heap.size w0 (W1.plus J2 d2) := hB1.trans (hb2.mono hB1.size)
  have hT2 : (W1.plus J2 d2).heap[Bt]? = some (.cells C 49 (0, 0)) := (hb2.block Bt (Array.getElem?_eq_some_iff.1 hT1).1).trans hT1
  generalize W1.plus J2 d2 = W2 at *
  have HR := Lib.hid (show FrAt w0 L J Bt C v1 v2 (.bool f) W2 from ⟨[], L, rfl, hJ2, hB2, hT2, by
    rcases hres with ⟨rfl, h2⟩ | ⟨rfl, R, T, h2⟩
    · exact .inl ⟨rfl, h2⟩
    · exact .inr ⟨rfl, R, T, h2⟩⟩)
  clear hres hJ2 hB2 hT2 hb2 hJ1 hB1 hT1 hb1
  clear hBn h0 hB hz hC0 C0
  have hJB : ∀ s A B, J s A → Below A.heap.size A B → J s B := fun s A B hs hb => hJ s A B none hs (grown_of_below hb) (fun r e => by cases e)
  gi_wp2_with fail
  gi_loopw [4, 5, 6] (fun v1 v2 f wr => FrAt w0 L J Bt C v1 v2 f wr) (fun _ v2 f _ => frLeft v2 f)
  case atStart => exact HR.out
  case round =>
    obtain ⟨pre, M, hch, hJs, hBr, hTr, hcase⟩ := hrel
    clear HR
    rcases hcase with ⟨rfl, hnone⟩ | ⟨rfl, R, T, hsp, hs1, hs2⟩
    · clear hY hBr hTr
      gi_wp2
      refine ⟨fun _ h => (by cases h), ?_⟩
      gi_wp2
      go_end0
      exact ⟨⟨_, rfl⟩, .inl ⟨pre, M, hch, hnone, hJs⟩⟩
    · obtain ⟨a1, n1, c1, rfl, hb1⟩ := hs1
      obtain ⟨a2, n2, c2, rfl, hb2⟩ := hs2
      have hfew := hch.few
      obtain ⟨fn, tmps, assign, body, hy, hR⟩ := hY pre (⟨_, _, R, T, ⟨a1, n1, c1, rfl, hb1⟩, ⟨a2, n2, c2, rfl, hb2⟩⟩ : Fr w0) wr hJs (by omega)
      have hch2 := hch.snoc (x := (⟨_, _, R, T, ⟨a1, n1, c1, rfl, hb1⟩, ⟨a2, n2, c2, rfl, hb2⟩⟩ : Fr w0)) hsp
      generalize hxx : (⟨_, _, R, T, ⟨a1, n1, c1, rfl, hb1⟩, ⟨a2, n2, c2, rfl, hb2⟩⟩ : Fr w0) = x at *
      have hx1 : x.v1 = .slice a1 n1 c1 := by rw [← hxx]
      have hx2 : x.v2 = .slice a2 n2 c2 := by rw [← hxx]
      have hxT : x.T = T := by rw [← hxx]
      rw [hx1, hx2] at hy
      rw [hxT] at hch2
      clear hxx hx1 hx2 hxT hY
      have HC2 := Lib.hid hch2
      have HL2 := Lib.hid hb2.reads.1
      clear hch2 hch hfew
      gi_wp2
      refine hR.mono ?_
      rintro e W3 (⟨rfl, hJ3, hk3⟩ | ⟨rfl, hJx3⟩)
      case inr =>
        clear hBr hTr
        gi_wp2
        go_end0
        exact ⟨⟨_, rfl⟩, .inr ⟨_, hJx3⟩⟩
      have hT3 := hk3.2 Bt _ _ hTr
      have hB3 := hBr.trans hk3.1
      have hrow3 : W3.rowAt Bt = some C := by unfold World.rowAt; rw [hT3]; rfl
      clear hk3 hTr hBr hJs
      gi_wp2_with (refine wpListIn_tab_load rfl _ rfl _ rfl C hrow3 hCs ?_)
      refine ⟨trivial, (callsIn_wide.2 (HSp.out W3 hB3 a2 n2 c2 T hb2)).mono ?_⟩
      rintro e w4 ⟨⟨y1, y2, g, rfl, hres⟩, J4, d4, rfl⟩
      have hb4 : Below W3.heap.size W3 (W3.plus J4 d4) := Junk.below ⟨J4, d4, rfl⟩
      have hJ4 := hJB _ _ _ hJ3 hb4
      have hB4 : Below w0.heap.size w0 (W3.plus J4 d4) := hB3.trans (hb4.mono hB3.size)
      have hT4 : (W3.plus J4 d4).heap[Bt]? = some (.cells C 49 (0, 0)) := (hb4.block Bt (Array.getElem?_eq_some_iff.1 hT3).1).trans hT3
      generalize W3.plus J4 d4 = W4 at *
      have HRR := Lib.hid (show FrAt w0 L J Bt C y1 y2 (.bool g) W4 ∧ frLeft y2 (.bool g) < n2 + 1 from ⟨⟨pre ++ [x], T, HC2.out, hJ4, hB4, hT4, by
          rcases hres with ⟨rfl, h2⟩ | ⟨rfl, R, T, h2⟩
          · exact .inl ⟨rfl, h2⟩
          · exact .inr ⟨rfl, R, T, h2⟩⟩, by
          rcases hres with ⟨rfl, h2⟩ | ⟨rfl, R, T', h1, _, ⟨aa, nn, cc, rfl, h3⟩⟩
          · show 0 < _; omega
          · show nn + 1 < _
            have := split_lt h1
            have := HL2.out
            have := h3.reads.1
            omega⟩)
      clear hres hJ4 hB4 hT4 hb4 hJ3 hB3 hT3 hrow3
      gi_wp2_with fail
      go_roundw
      case rel => exact HRR.out.1
      case measure => exact HRR.out.2

theorem iter_stops (w0 : World) (a : Option Addr) (len cap : Nat) (L : List UInt8) (h : BIn w0 a len L cap) (n Bn : Nat) (hn : 1 ≤ n) (w : World) (hB : Below w0.heap.size w0 w) (hBn : w.cell? ⟨Bn, 0, none⟩ = some (.slice a len cap)) :
    SeqStopsK Fence.wide n Try.prog 36 #[.pointer (some ⟨Bn, 0, none⟩)] (fun x : Fr w0 => #[x.v1, x.v2]) (KeepsT w0.heap.size) (fun xs => ∃ M, Chain L xs M ∧ splitF M = none) (fun _ => True) (L.length + 1) w := by
  intro l J Jx W hW hJ hJx hY h0
  refine (n_iter w0 a len cap L h n l Bn hn J Jx hY W hJ (hB.trans (hW.mono hB.size)) ?_ h0).mono ?_
  · rw [World.cell?_of_block (hW.block Bn (World.block_lt_of_cell? _ _ hBn))]; exact hBn
  · rintro e W' ⟨h1, ⟨xs, M, h2, h3, h4⟩ | ⟨pre, h2⟩⟩
    · exact ⟨h1, .inl ⟨xs, ⟨M, h2, h3⟩, h4⟩⟩
    · exact ⟨h1, .inr ⟨pre, trivial, h2⟩⟩
end Go.Proofs.Ytfapldajodobhaa

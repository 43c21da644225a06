/- The laws' own small functions (apportionlaw09): big, at, over, square. Slices of points that read as lists, with their capacity: the kit's and the package's contracts over them. The laws' own awake (apportionlaw09). The law RingKnown: the walk. -/
import Derived.Test.YthphdiigjimchaaGreatRiRef
import Derived.Test.YthphdiigjimchaaGreatKitOne
import Derived.LoopN
import Derived.Test.YthphdiigjimchaaGreatRgRest
namespace Go.Proofs.YthphdiigjimchaaGreat
section
set_option linter.unusedVariables false
set_option linter.unusedSimpArgs false
open Go.RowKit
structure OnlyP (v : Value) (w w' : World) : Prop where
  os : w'.os = w.os
  tape : w'.tape = w.tape
  output : w'.output = w.output
  size : w'.heap.size = w.heap.size
  block : ∀ k, v.ownBlock ≠ some k → w'.heap[k]? = w.heap[k]?
theorem powns_built {W w : World} {L : List Pt} {n : Nat} {c : Array Value} (hn : L.length = n) (hc : c = (pcells L).toArray) (hb : W.heap.size ≤ w.heap.size) (hm : n ≤ 1000) : POwn W (w.alloc (.cells c 42)) (.slice (some ⟨w.heap.size, 0, none⟩) n n) L := by
  subst hn hc
  refine ⟨pcells_len L, .inr ⟨w.heap.size, L.length, (pcells L).toArray, rfl, hb, by show (w.heap.push _)[w.heap.size]? = _; simp, Nat.le_refl _, by simp only [maxLen]; omega, by rw [List.size_toArray, pcells_len], ?_⟩⟩
  rw [← pcells_len L, List.take_length]
theorem powns_blt {W w : World} {L : List Pt} {n g : Nat} {c : Array Value} (hn : L.length = n) (hc : (pcells L).toArray = c) (hb : W.heap.size ≤ w.heap.size) (hm : n ≤ 1000) (hg : w.heap.size = g) : POwn W (w.alloc (.cells c 42)) (.slice (some ⟨g, 0, none⟩) n n) L := by
  subst hg; exact powns_built hn hc.symm hb hm
def sqL : List Pt := [(0, 0), (4, 0), (4, 4), (0, 4)]
def OvAt (w : World) (v : Value) (g n m : Nat) (i : Value) (wr : World) : Prop := ∃ (k : Nat) (cur : Array Value), i = .int .i64 (k : Int) ∧ k ≤ n ∧ wr.rowAt g = some cur ∧ cur.size = m ∧ OnlyP v w wr
end

section
set_option linter.unusedVariables false
set_option linter.unusedSimpArgs false
open Go.RowKit
structure PRC (w : World) (a : Option Addr) (n ca : Nat) (K : List Pt) : Prop where
  rd : PReads w a n K
  ok : SOk a n ca
section
variable {w w' w1 w2 : World} {a : Option Addr} {n ca : Nat} {K L : List Pt}
theorem PRC.below (h : PRC w a n ca K) (hb : Below w.heap.size w w') : PRC w' a n ca K := ⟨h.rd.below hb, h.ok⟩
theorem own_prc {W : World} {v : Value} (hn : L.length = n) (h : POwn W w' v L) : ∃ a cap, v = .slice a n cap ∧ PRC w' a n cap L := by
  obtain ⟨a, cap, e, h1, h2⟩ := own_ok hn h
  exact ⟨a, cap, e, h1, h2⟩
theorem own_prcs {W : World} {v : Value} (h : POwn W w' v L) : ∃ a cap, v = .slice a L.length cap ∧ PRC w' a L.length cap L := own_prc rfl h
theorem prc_owns {base : Nat} {v : Value} (h : w.ownsRow base 42 2 v n (pcells K)) : ∃ a cap, v = .slice a n cap ∧ PRC w a n cap K := by
  obtain ⟨a, cap, e, hR⟩ := preads_of_owns h
  refine ⟨a, cap, e, hR, ?_⟩
  obtain ⟨_, h2⟩ := h
  rcases h2 with ⟨e2, h0⟩ | ⟨g, c2, cur, e2, _, _, hnc, _⟩
  · rw [e2] at e
    injection e with e3 e4 e5
    subst e3 e4 e5
    exact ⟨Nat.le_refl _, fun _ => rfl⟩
  · rw [e2] at e
    injection e with e3 e4 e5
    subst e5
    exact ⟨by omega, fun h => by rw [← e3] at h; cases h⟩
end
theorem c_rgCheck (w : World) (a : Option Addr) (n ca : Nat) (K : List Pt) (h : PRC w a n ca K) (hs : n ≤ 400) : Calls Tryz.prog 98 #[.slice a n ca] w fun e w' => e = .returned (fltV (checkF K)) ∧ Junk w w' := n_rgCheck w a n ca K h.rd hs h.ok.le
theorem c_rgFrom (w : World) (a : Option Addr) (n ca : Nat) (K : List Pt) (h : PRC w a n ca K) (hs : n ≤ 400) (s : Int) : Calls Tryz.prog 128 #[.slice a n ca, .int .i64 s] w fun e w' => (∃ v, e = .returned v ∧ POwn w w' v (rotF K s)) ∧ Junk w w' := n_rgFrom w a n ca K h.rd hs h.ok s
def PCopiedC (w : World) (len : Nat) (K : List (Int × Int)) (v : Value) (wx : World) : Prop := ∃ a' cap', v = .slice a' len cap' ∧ PRC wx a' len cap' K ∧ Below w.heap.size w wx
end

section
set_option linter.unusedVariables false
set_option linter.unusedSimpArgs false
open Go.RowKit
theorem prc_blt {w : World} {L : List Pt} {n g : Nat} {c : Array Value} (hn : L.length = n) (hc : (pcells L).toArray = c) (hm : n ≤ 1000) (hg : w.heap.size = g) : PRC (w.alloc (.cells c 42)) (some ⟨g, 0, none⟩) n n L := by
  obtain ⟨a, cap, e, h⟩ := own_readn hn (powns_blt (W := w) hn hc (Nat.le_refl _) hm hg)
  injection e with e1 e2 e3
  subst e1
  exact ⟨h, ⟨Nat.le_refl _, fun h => by cases h⟩⟩
end

section
set_option linter.unusedVariables false
set_option linter.unusedSimpArgs false
open Go.RowKit
end
end Go.Proofs.YthphdiigjimchaaGreat
